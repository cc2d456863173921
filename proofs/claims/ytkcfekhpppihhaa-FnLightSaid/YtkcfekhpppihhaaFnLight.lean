/-
  For every code: light goes through one part of a stack of drawn shards and then through the other as through all; only shards in which the point lies change it (FnLight returns true). No condition.
-/
import Derived.Test.YtkcfekhpppihhaaFnLightWalk
namespace Go.Proofs.Ytkcfekhpppihhaa.wFnLight
open Go.ChangeShapes Go.WideShapes Go.ChangeAt Go.RowKit Go.Joins

set_option maxRecDepth 100000 in
theorem holds : Rows.FnLightSaid :=
  OpenClaim.holds_of_wide 5 Try.f5 rfl rfl rfl rfl rfl rfl rfl ⟨rfl, rfl, rfl, rfl, rfl⟩ rfl rfl rfl rfl rfl (by kernel_rfl) Try.func5 (by kernel_rfl)
    (of_decide_eq_true (by kernel_rfl)) (by unfold Func.isWrapper; rw [if_neg (of_decide_eq_false (by kernel_rfl))]; exact ⟨rfl, rfl⟩)
    (fun os started H enc _ => lift_true (H := H) (enc := enc) 5 Try.f5 Rows.fnLightSpec started (by kernel_rfl) Try.func5 rfl (by kernel_rfl) (by kernel_rfl)
      (fun ds h => match ds, h with | [_], _ => rfl)
      (ChangeSpec.witness6 (enc := enc) (C := Try.checked) false ⟨#[], #[.slice Option.none 0 0], []⟩ 8 (by kernel_rfl) (by kernel_rfl) (by kernel_rfl) (by kernel_rfl))
      (fun W base args ds p hval hA => by
        rw [Try.params5] at hA hval
        obtain ⟨v0, d0, rfl, rfl, h0⟩ := trodAll_one hA
        obtain ⟨x0, len0, cap0, z0, rfl, a0⟩ := open_bytes (hval 0 _ v0 rfl rfl) h0
        exact walk x0 len0 cap0 z0 W a0))
#print axioms holds
end Go.Proofs.Ytkcfekhpppihhaa.wFnLight
