/-
  For all colour values, NaN and infinities too: InverseColour of the program answers as InverseColour of the model, to the last bit. No condition.
-/
import Derived.Test.YtljilmekmfnkbaaFnExactInverseColourWalk
namespace Go.Proofs.Ytljilmekmfnkbaa.wFnExactInverseColour
open Go.ChangeShapes Go.WideShapes Go.ChangeAt Go.RowKit Go.Joins

set_option maxRecDepth 100000 in
theorem holds : Rows.FnExactInverseColourSaid :=
  OpenClaim.holds_of_wide 10 Try.f10 rfl rfl rfl rfl rfl rfl rfl ⟨rfl, rfl, rfl, rfl, rfl⟩ rfl rfl rfl rfl rfl (by kernel_rfl) Try.func10 (by kernel_rfl)
    (of_decide_eq_true (by kernel_rfl)) (by unfold Func.isWrapper; rw [if_neg (of_decide_eq_false (by kernel_rfl))]; exact ⟨rfl, rfl⟩)
    (fun os started H enc _ => lift_true (H := H) (enc := enc) 10 Try.f10 Rows.fnExactInverseColourSpec started (by kernel_rfl) Try.func10 rfl (by kernel_rfl) (by kernel_rfl)
      (fun ds h => match ds, h with | [_], _ => rfl)
      (ChangeSpec.witness6 (enc := enc) (C := Try.checked) false ⟨#[], #[.agg #[.float .f32 0, .float .f32 0, .float .f32 0]], []⟩ 8 (by kernel_rfl) (by kernel_rfl) (by kernel_rfl) (by kernel_rfl))
      (fun W base args ds p hval hA => by
        rw [Try.params10] at hA hval
        obtain ⟨v0, d0, rfl, rfl, h0⟩ := trodAll_one hA
        obtain ⟨r0, g0, b0, rfl, a0, c0, e0⟩ := open_lcol (hval 0 _ v0 rfl rfl) h0
        exact walk r0 g0 b0 W a0 c0 e0))
#print axioms holds
end Go.Proofs.Ytljilmekmfnkbaa.wFnExactInverseColour
