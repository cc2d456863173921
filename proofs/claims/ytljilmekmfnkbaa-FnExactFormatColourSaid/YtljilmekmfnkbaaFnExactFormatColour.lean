/-
  For all colour values, NaN and infinities too: FormatColour of the program answers as FormatColour of the model, to the last bit. No condition.
-/
import Derived.Test.YtljilmekmfnkbaaFnExactFormatColourWalk
namespace Go.Proofs.Ytljilmekmfnkbaa.wFnExactFormatColour
open Go.ChangeShapes Go.WideShapes Go.ChangeAt Go.RowKit Go.Joins

set_option maxRecDepth 100000 in
theorem holds : Rows.FnExactFormatColourSaid :=
  OpenClaim.holds_of_wide 14 Try.f14 rfl rfl rfl rfl rfl rfl rfl ⟨rfl, rfl, rfl, rfl, rfl⟩ rfl rfl rfl rfl rfl (by kernel_rfl) Try.func14 (by kernel_rfl)
    (of_decide_eq_true (by kernel_rfl)) (by unfold Func.isWrapper; rw [if_neg (of_decide_eq_false (by kernel_rfl))]; exact ⟨rfl, rfl⟩)
    (fun os started H enc _ => lift_true (H := H) (enc := enc) 14 Try.f14 Rows.fnExactFormatColourSpec started (by kernel_rfl) Try.func14 rfl (by kernel_rfl) (by kernel_rfl)
      (fun ds h => match ds, h with | [_], _ => rfl)
      (ChangeSpec.witness6 (enc := enc) (C := Try.checked) false ⟨#[], #[.agg #[.float .f32 0, .float .f32 0, .float .f32 0]], []⟩ 8 (by kernel_rfl) (by kernel_rfl) (by kernel_rfl) (by kernel_rfl))
      (fun W base args ds p hval hA => by
        rw [Try.params14] at hA hval
        obtain ⟨v0, d0, rfl, rfl, h0⟩ := trodAll_one hA
        obtain ⟨rr0, gg0, bb0, rfl, a0, c0, e0⟩ := open_lcol (hval 0 _ v0 rfl rfl) h0
        exact walk rr0 gg0 bb0 W a0 c0 e0))
#print axioms holds
end Go.Proofs.Ytljilmekmfnkbaa.wFnExactFormatColour
