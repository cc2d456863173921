/-
  For all integers, singles and colours, NaN and infinities too: NewShow of the program answers as NewShow of the model, to the last bit, and what it answers shares no memory with another answer. No condition.
-/
import Derived.Test.YtfdgijmmgllmgaaFnExactNewShowWalk
import Derived.Test.YtfdgijmmgllmgaaJoin
import Derived.Test.YtfdgijmmgllmgaaOpen
import Derived.Test.YtfdgijmmgllmgaaPlainYes
import Derived.Test.YtfdgijmmgllmgaaCopl
namespace Go.Proofs.Ytfdgijmmgllmgaa.wFnExactNewShow
open Go.ChangeShapes Go.WideShapes Go.ChangeAt Go.RowKit Go.Joins

set_option maxHeartbeats 4000000 in
set_option maxRecDepth 100000 in
theorem holds : Rows.FnExactNewShowSaid :=
  OpenClaim.holds_of_wide 5 Try.f5 rfl rfl rfl rfl rfl rfl rfl ⟨rfl, rfl, rfl, rfl, rfl⟩ rfl rfl rfl rfl rfl (by as_aux_lemma => kernel_rfl) Try.func5
    (joined_mk (by as_aux_lemma => kernel_rfl) laidOut rowed (by as_aux_lemma => kernel_rfl) (by as_aux_lemma => kernel_rfl) (by as_aux_lemma => kernel_rfl) (by as_aux_lemma => kernel_rfl) (by as_aux_lemma => kernel_rfl) (by as_aux_lemma => kernel_rfl)
      (by as_aux_lemma => kernel_rfl) (by as_aux_lemma => kernel_rfl) (by as_aux_lemma => kernel_rfl) (by as_aux_lemma => kernel_rfl) (by as_aux_lemma => kernel_rfl) (by as_aux_lemma => kernel_rfl) (by as_aux_lemma => kernel_rfl) (by as_aux_lemma => kernel_rfl) (by as_aux_lemma => kernel_rfl)
      (by as_aux_lemma => kernel_rfl) (by as_aux_lemma => kernel_rfl) (by as_aux_lemma => kernel_rfl) (by as_aux_lemma => kernel_rfl) plain_yes (by as_aux_lemma => kernel_rfl) heard enters lifts_no (by as_aux_lemma => kernel_rfl) (by as_aux_lemma => kernel_rfl) (by as_aux_lemma => kernel_rfl) (by as_aux_lemma => kernel_rfl) (by as_aux_lemma => kernel_rfl))
    (of_decide_eq_true (by as_aux_lemma => kernel_rfl)) (by unfold Func.isWrapper; rw [if_neg (of_decide_eq_false (by as_aux_lemma => kernel_rfl))]; exact ⟨rfl, rfl⟩)
    (fun os started H enc _ => lift_true (H := H) (enc := enc) 5 Try.f5 Rows.fnExactNewShowSpec started (by as_aux_lemma => kernel_rfl) Try.func5 rfl (by as_aux_lemma => kernel_rfl) (by as_aux_lemma => kernel_rfl)
      (fun ds h => match ds, h with | [_, _, _, _], _ => rfl)
      (ChangeSpec.witness6 (enc := enc) (C := Try.checked) false ⟨#[], #[.int .i64 0, .int .i64 0, .float .f32 0, .agg #[.float .f32 0, .float .f32 0, .float .f32 0]], []⟩ 8 (by as_aux_lemma => kernel_rfl) (by as_aux_lemma => kernel_rfl) (by as_aux_lemma => kernel_rfl) (by as_aux_lemma => kernel_rfl))
      (fun W base args ds p hval hA => by
        rw [Try.params5] at hA hval
        obtain ⟨v0, vs0, d0, ds0, p0, q0, hargs, rfl, rfl, h0, r0⟩ := trodAll_cons hA
        obtain ⟨v1, vs1, d1, ds1, p1, q1, rfl, rfl, rfl, h1, r1⟩ := trodAll_cons r0
        obtain ⟨v2, vs2, d2, ds2, p2, q2, rfl, rfl, rfl, h2, r2⟩ := trodAll_cons r1
        obtain ⟨v3, vs3, d3, ds3, p3, q3, rfl, rfl, rfl, h3, r3⟩ := trodAll_cons r2
        obtain ⟨rfl, rfl, rfl⟩ := trodAll_nil r3
        obtain rfl : args = #[v0, v1, v2, v3] := by cases args; simp_all
        obtain ⟨n0, rfl, a0, b0⟩ := open_i (hval 0 _ v0 rfl rfl) h0
        obtain ⟨n1, rfl, a1, b1⟩ := open_i (hval 1 _ v1 rfl rfl) h1
        obtain ⟨x2, rfl, a2⟩ := open_f (hval 2 _ v2 rfl rfl) h2
        obtain ⟨rr3, gg3, bb3, rfl, a3, c3, e3⟩ := open_lcol (hval 3 _ v3 rfl rfl) h3
        exact walk n0 n1 x2 rr3 gg3 bb3 W a0 b0 a1 b1 a2 a3 c3 e3))
#print axioms holds
end Go.Proofs.Ytfdgijmmgllmgaa.wFnExactNewShow
