/-
  For every kind of mirrors and every symmetry value: WordOfSym of the program answers as WordOfSym of the model, in memory of its own. No condition.
-/
import Derived.Test.YtbeefbmgbmgbfaaFnExactWordOfSymWalk
namespace Go.Proofs.Ytbeefbmgbmgbfaa.wFnExactWordOfSym
open Go.ChangeShapes Go.WideShapes Go.ChangeAt Go.RowKit Go.Joins

set_option maxRecDepth 100000 in
theorem holds : Rows.FnExactWordOfSymSaid :=
  OpenClaim.holds_of_wide 13 Try.f13 rfl rfl rfl rfl rfl rfl rfl ⟨rfl, rfl, rfl, rfl, rfl⟩ rfl rfl rfl rfl rfl (by kernel_rfl) Try.func13 (by kernel_rfl)
    (of_decide_eq_true (by kernel_rfl)) (by unfold Func.isWrapper; rw [if_neg (of_decide_eq_false (by kernel_rfl))]; exact ⟨rfl, rfl⟩)
    (fun os started H enc _ => lift_true (H := H) (enc := enc) 13 Try.f13 Rows.fnExactWordOfSymSpec started (by kernel_rfl) Try.func13 rfl (by kernel_rfl) (by kernel_rfl)
      (fun ds h => match ds, h with | [_, _], _ => rfl)
      (ChangeSpec.witness6 (enc := enc) (C := Try.checked) false ⟨#[], #[.int .i64 0, .agg #[.int .i64 0, .bool false]], []⟩ 8 (by kernel_rfl) (by kernel_rfl) (by kernel_rfl) (by kernel_rfl))
      (fun W base args ds p hval hA => by
        rw [Try.params13] at hA hval
        obtain ⟨v0, vs0, d0, ds0, p0, q0, hargs, rfl, rfl, h0, r0⟩ := trodAll_cons hA
        obtain ⟨v1, vs1, d1, ds1, p1, q1, rfl, rfl, rfl, h1, r1⟩ := trodAll_cons r0
        obtain ⟨rfl, rfl, rfl⟩ := trodAll_nil r1
        obtain rfl : args = #[v0, v1] := by cases args; simp_all
        obtain ⟨n0, rfl, a0, b0⟩ := open_i (hval 0 _ v0 rfl rfl) h0
        obtain ⟨t1, f1, rfl, a1, b1⟩ := open_lsym (hval 1 _ v1 rfl rfl) h1
        exact walk n0 t1 f1 W a0 b0 a1 b1))
#print axioms holds
end Go.Proofs.Ytbeefbmgbmgbfaa.wFnExactWordOfSym
