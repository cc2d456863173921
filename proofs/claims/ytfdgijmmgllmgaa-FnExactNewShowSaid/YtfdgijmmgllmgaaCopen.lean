/-
  What a colour and a single look like when they are read as data.
-/
import Derived.Test.YtfdgijmmgllmgaaFa
namespace Go.Proofs.Ytfdgijmmgllmgaa
open Go.ChangeShapes Go.WideShapes Go.ChangeAt Go.RowKit Go.Joins

section
variable {H : Type} {enc : TypeId × Value → H} {W : World} {base : Nat} {spare : Nat → Bool} {held : Bool} {v : Value} {d : DataW H} {p : List MemPlace}

theorem wf_f32 {b : Nat} (h : (Lit.float .f32 b).wf = true) : b < 4294967296 := by
  simp [Lit.wf] at h; exact h

/-- A colour as a value. -/
def colV (r g b : Nat) : Value := .agg #[.float .f32 r, .float .f32 g, .float .f32 b]

set_option maxRecDepth 100000 in
theorem open_f (hok : Value.okWide Try.prog W .any base 30 v) (h : DataW.Trod enc Try.prog W 0 spare held 30 v d p) :
    ∃ x : Nat, v = .float .f32 x ∧ x < 4294967296 := by
  obtain ⟨b, rfl, rfl, rfl, wb⟩ := open_float Try.underlying30 hok h
  exact ⟨b, rfl, wf_f32 wb⟩
end
end Go.Proofs.Ytfdgijmmgllmgaa
