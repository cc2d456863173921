/-
  For every code: the same mirrors again change no bead of a drawn show, and a light that is put in may as well come before another event: as many events are done, and the pictures and the tumbles are the same (FnMirrorsAgain returns true). No condition.
-/
import Derived.Test.YtfdgijmmgllmgaaGreatRFnMirrorsAgainWalk
import Derived.Test.YtfdgijmmgllmgaaGreatR43
namespace Go.Proofs.YtfdgijmmgllmgaaGreat.wFnMirrorsAgain
open Go.ChangeShapes Go.WideShapes Go.ChangeAt Go.RowKit Go.Joins
set_option maxHeartbeats 4000000 in
set_option maxRecDepth 100000 in
theorem holds : Rows.FnMirrorsAgainSaid :=
  OpenClaim.holds_of_wide 5 Tryz.f5 rfl rfl rfl rfl rfl rfl rfl ⟨rfl, rfl, rfl, rfl, rfl⟩ rfl rfl rfl rfl rfl (by as_aux_lemma => kernel_rfl) Tryz.func5
    (joined_mk (by as_aux_lemma => kernel_rfl) laidOut rowed (by as_aux_lemma => kernel_rfl) (by as_aux_lemma => kernel_rfl) (by as_aux_lemma => kernel_rfl) (by as_aux_lemma => kernel_rfl) (by as_aux_lemma => kernel_rfl) (by as_aux_lemma => kernel_rfl)
      (by as_aux_lemma => kernel_rfl) (by as_aux_lemma => kernel_rfl) (by as_aux_lemma => kernel_rfl) (by as_aux_lemma => kernel_rfl) (by as_aux_lemma => kernel_rfl) (by as_aux_lemma => kernel_rfl) (by as_aux_lemma => kernel_rfl) (by as_aux_lemma => kernel_rfl) (by as_aux_lemma => kernel_rfl)
      (by as_aux_lemma => kernel_rfl) (by as_aux_lemma => kernel_rfl) (by as_aux_lemma => kernel_rfl) (by as_aux_lemma => kernel_rfl) plain_yes (by as_aux_lemma => kernel_rfl) heard enters lifts_no (by as_aux_lemma => kernel_rfl) (by as_aux_lemma => kernel_rfl) (by as_aux_lemma => kernel_rfl) (by as_aux_lemma => kernel_rfl) (by as_aux_lemma => kernel_rfl))
    (of_decide_eq_true (by as_aux_lemma => kernel_rfl)) (by unfold Func.isWrapper; rw [if_neg (of_decide_eq_false (by as_aux_lemma => kernel_rfl))]; exact ⟨rfl, rfl⟩)
    (fun os started H enc _ => lift_true (H := H) (enc := enc) 5 Tryz.f5 Rows.fnMirrorsAgainSpec started (by as_aux_lemma => kernel_rfl) Tryz.func5 rfl (by as_aux_lemma => kernel_rfl) (by as_aux_lemma => kernel_rfl)
      (fun ds h => match ds, h with | [_], _ => rfl)
      (ChangeSpec.witness6 (enc := enc) (C := Tryz.checked) false ⟨#[], #[.slice Option.none 0 0], []⟩ 8 (by as_aux_lemma => kernel_rfl) (by as_aux_lemma => kernel_rfl) (by as_aux_lemma => kernel_rfl) (by as_aux_lemma => kernel_rfl))
      (fun W base args ds p hval hA => by
        rw [Tryz.params5] at hA hval
        obtain ⟨v0, d0, rfl, rfl, h0⟩ := trodAll_one hA
        obtain ⟨x0, len0, cap0, z0, rfl, a0⟩ := open_bytes (hval 0 _ v0 rfl rfl) h0
        exact walk x0 len0 cap0 z0 W a0))
#print axioms holds
end Go.Proofs.YtfdgijmmgllmgaaGreat.wFnMirrorsAgain
