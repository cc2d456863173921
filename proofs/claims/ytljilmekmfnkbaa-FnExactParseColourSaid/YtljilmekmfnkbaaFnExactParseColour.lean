/-
  For every text: ParseColour of the program answers as ParseColour of the model, to the last bit. No condition.
-/
import Derived.Test.YtljilmekmfnkbaaFnExactParseColourWalk
namespace Go.Proofs.Ytljilmekmfnkbaa.wFnExactParseColour
open Go.ChangeShapes Go.WideShapes Go.ChangeAt Go.RowKit Go.Joins

set_option maxRecDepth 100000 in
theorem holds : Rows.FnExactParseColourSaid :=
  OpenClaim.holds_of_wide 15 Try.f15 rfl rfl rfl rfl rfl rfl rfl ⟨rfl, rfl, rfl, rfl, rfl⟩ rfl rfl rfl rfl rfl (by kernel_rfl) Try.func15 (by kernel_rfl)
    (of_decide_eq_true (by kernel_rfl)) (by unfold Func.isWrapper; rw [if_neg (of_decide_eq_false (by kernel_rfl))]; exact ⟨rfl, rfl⟩)
    (fun os started H enc _ => lift_true (H := H) (enc := enc) 15 Try.f15 Rows.fnExactParseColourSpec started (by kernel_rfl) Try.func15 rfl (by kernel_rfl) (by kernel_rfl)
      (fun ds h => match ds, h with | [_], _ => rfl)
      (ChangeSpec.witness6 (enc := enc) (C := Try.checked) false ⟨#[], #[.string ByteArray.empty], []⟩ 8 (by kernel_rfl) (by kernel_rfl) (by kernel_rfl) (by kernel_rfl))
      (fun W base args ds p hval hA => by
        rw [Try.params15] at hA hval
        obtain ⟨v0, d0, rfl, rfl, h0⟩ := trodAll_one hA
        obtain ⟨s0, rfl, a0⟩ := open_str (hval 0 _ v0 rfl rfl) h0
        exact walk s0 W a0))
#print axioms holds
end Go.Proofs.Ytljilmekmfnkbaa.wFnExactParseColour
