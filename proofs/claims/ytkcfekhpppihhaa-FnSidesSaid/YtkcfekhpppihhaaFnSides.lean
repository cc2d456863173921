/-
  For every code: sides are turned with all three points, and change their sign with a mirror; a shard and a point on which a symmetry acts lie to each other as before (FnSides returns true). No condition.
-/
import Derived.Test.YtkcfekhpppihhaaFnSidesWalk
namespace Go.Proofs.Ytkcfekhpppihhaa.wFnSides
open Go.ChangeShapes Go.WideShapes Go.ChangeAt Go.RowKit Go.Joins

set_option maxRecDepth 100000 in
theorem holds : Rows.FnSidesSaid :=
  OpenClaim.holds_of_wide 3 Try.f3 rfl rfl rfl rfl rfl rfl rfl ⟨rfl, rfl, rfl, rfl, rfl⟩ rfl rfl rfl rfl rfl (by kernel_rfl) Try.func3 (by kernel_rfl)
    (of_decide_eq_true (by kernel_rfl)) (by unfold Func.isWrapper; rw [if_neg (of_decide_eq_false (by kernel_rfl))]; exact ⟨rfl, rfl⟩)
    (fun os started H enc _ => lift_true (H := H) (enc := enc) 3 Try.f3 Rows.fnSidesSpec started (by kernel_rfl) Try.func3 rfl (by kernel_rfl) (by kernel_rfl)
      (fun ds h => match ds, h with | [_], _ => rfl)
      (ChangeSpec.witness6 (enc := enc) (C := Try.checked) false ⟨#[], #[.slice Option.none 0 0], []⟩ 8 (by kernel_rfl) (by kernel_rfl) (by kernel_rfl) (by kernel_rfl))
      (fun W base args ds p hval hA => by
        rw [Try.params3] at hA hval
        obtain ⟨v0, d0, rfl, rfl, h0⟩ := trodAll_one hA
        obtain ⟨x0, len0, cap0, z0, rfl, a0⟩ := open_bytes (hval 0 _ v0 rfl rfl) h0
        exact walk x0 len0 cap0 z0 W a0))
#print axioms holds
end Go.Proofs.Ytkcfekhpppihhaa.wFnSides
