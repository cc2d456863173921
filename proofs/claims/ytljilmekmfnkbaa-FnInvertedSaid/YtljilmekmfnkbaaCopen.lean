/-
  What a colour and a single look like when they are read as data.
-/
import Derived.Test.YtljilmekmfnkbaaKit
import Derived.WalkLawsBesides
namespace Go.Proofs.Ytljilmekmfnkbaa
open Go.ChangeShapes Go.WideShapes Go.ChangeAt Go.RowKit Go.Joins

/-- A float is stored as it is. -/
theorem store_f (P : Program) (w : World) (a : Addr) (m : Mode) (k : FloatKind) (b : Nat) : (store a (.float k b) m).run P w = stored P w a (.float k b) m := run_store P w a _ m rfl

section
variable {H : Type} {enc : TypeId × Value → H} {W : World} {base : Nat} {spare : Nat → Bool} {held : Bool} {v : Value} {d : DataW H} {p : List MemPlace}

theorem wf_f32 {b : Nat} (h : (Lit.float .f32 b).wf = true) : b < 4294967296 := by
  simp [Lit.wf] at h; exact h

theorem trod_f {n : Nat} {v : Value} {x : DataW H × List MemPlace} (h : DataW.trod enc Try.prog W 0 spare held n 24 [v] = some x) : ∃ b : Nat, v = .float .f32 b ∧ b < 4294967296 := by
  cases n with
  | zero => simp [DataW.trod] at h
  | succ n =>
    unfold DataW.trod at h
    rw [Try.underlying24] at h
    split at h <;> simp_all
    rename_i hv
    obtain ⟨⟨rfl, hw⟩, _⟩ := h
    subst hv
    exact wf_f32 hw

/-- A colour as a value. -/
def colV (r g b : Nat) : Value := .agg #[.float .f32 r, .float .f32 g, .float .f32 b]

set_option maxRecDepth 100000 in
theorem open_lcol (hok : Value.okWide Try.prog W .any base 39 v) (h : DataW.Trod enc Try.prog W 0 spare held 39 v d p) :
    ∃ r g b : Nat, v = colV r g b ∧ r < 4294967296 ∧ g < 4294967296 ∧ b < 4294967296 := by
  obtain ⟨c0, c1, c2, y0, y1, y2, m, rfl, rfl, rfl, h0, h1, h2⟩ := open_agg3 Try.underlying39 (by kernel_rfl) (by kernel_rfl) hok h
  obtain ⟨r, e0, w0⟩ := trod_f h0
  obtain ⟨g, e1, w1⟩ := trod_f h1
  obtain ⟨b, e2, w2⟩ := trod_f h2
  subst e0 e1 e2
  exact ⟨r, g, b, rfl, w0, w1, w2⟩

set_option maxRecDepth 100000 in
theorem open_f (hok : Value.okWide Try.prog W .any base 24 v) (h : DataW.Trod enc Try.prog W 0 spare held 24 v d p) :
    ∃ x : Nat, v = .float .f32 x ∧ x < 4294967296 := by
  obtain ⟨b, rfl, rfl, rfl, wb⟩ := open_float Try.underlying24 hok h
  exact ⟨b, rfl, wf_f32 wb⟩
end
end Go.Proofs.Ytljilmekmfnkbaa
