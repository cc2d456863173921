/-
  What a colour and a single look like when they are read as data.
-/
import Derived.Test.YtlnikapkheldeaaFa
namespace Go.Proofs.Ytlnikapkheldeaa
open Go.ChangeShapes Go.WideShapes Go.ChangeAt Go.RowKit Go.Joins

section
variable {H : Type} {enc : TypeId × Value → H} {W : World} {base : Nat} {spare : Nat → Bool} {held : Bool} {v : Value} {d : DataW H} {p : List MemPlace}

theorem wf_f32 {b : Nat} (h : (Lit.float .f32 b).wf = true) : b < 4294967296 := by
  simp [Lit.wf] at h; exact h

/-- A colour as a value. -/
def colV (r g b : Nat) : Value := .agg #[.float .f32 r, .float .f32 g, .float .f32 b]

end
end Go.Proofs.Ytlnikapkheldeaa
