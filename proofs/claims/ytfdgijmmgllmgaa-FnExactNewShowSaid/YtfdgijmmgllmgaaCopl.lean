/-
  What a colour of the laws and a single look like when they are read as data (a seat whose Copen was pruned).
-/
import Derived.Test.YtfdgijmmgllmgaaFa
import Derived.Test.YtfdgijmmgllmgaaCopen
namespace Go.Proofs.Ytfdgijmmgllmgaa
open Go.ChangeShapes Go.WideShapes Go.ChangeAt Go.RowKit Go.Joins

section
variable {H : Type} {enc : TypeId × Value → H} {W : World} {base : Nat} {spare : Nat → Bool} {held : Bool} {v : Value} {d : DataW H} {p : List MemPlace}

set_option maxRecDepth 100000 in
theorem trod_f {n : Nat} {v : Value} {x : DataW H × List MemPlace} (h : DataW.trod enc Try.prog W 0 spare held n 30 [v] = some x) : ∃ b : Nat, v = .float .f32 b ∧ b < 4294967296 := by
  cases n with
  | zero => simp [DataW.trod] at h
  | succ n =>
    unfold DataW.trod at h
    rw [Try.underlying30] at h
    split at h <;> simp_all
    rename_i hv
    obtain ⟨⟨rfl, hw⟩, _⟩ := h
    subst hv
    exact wf_f32 hw

set_option maxRecDepth 100000 in
theorem open_lcol (hok : Value.okWide Try.prog W .any base 46 v) (h : DataW.Trod enc Try.prog W 0 spare held 46 v d p) :
    ∃ r g b : Nat, v = .agg #[.float .f32 r, .float .f32 g, .float .f32 b] ∧ r < 4294967296 ∧ g < 4294967296 ∧ b < 4294967296 := by
  obtain ⟨c0, c1, c2, y0, y1, y2, m, rfl, rfl, rfl, h0, h1, h2⟩ := open_agg3 Try.underlying46 (by kernel_rfl) (by kernel_rfl) hok h
  obtain ⟨r, e0, w0⟩ := trod_f h0
  obtain ⟨g, e1, w1⟩ := trod_f h1
  obtain ⟨b, e2, w2⟩ := trod_f h2
  subst e0 e1 e2
  exact ⟨r, g, b, rfl, w0, w1, w2⟩
end
end Go.Proofs.Ytfdgijmmgllmgaa
