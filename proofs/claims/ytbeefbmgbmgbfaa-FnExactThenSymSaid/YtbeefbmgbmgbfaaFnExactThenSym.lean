/-
  For any two symmetry values: ThenSym of the program answers as ThenSym of the model. No condition.
-/
import Derived.Test.YtbeefbmgbmgbfaaFnExactThenSymWalk
namespace Go.Proofs.Ytbeefbmgbmgbfaa.wFnExactThenSym
open Go.ChangeShapes Go.WideShapes Go.ChangeAt Go.RowKit Go.Joins

set_option maxRecDepth 100000 in
theorem holds : Rows.FnExactThenSymSaid :=
  OpenClaim.holds_of_wide 9 Try.f9 rfl rfl rfl rfl rfl rfl rfl ⟨rfl, rfl, rfl, rfl, rfl⟩ rfl rfl rfl rfl rfl (by kernel_rfl) Try.func9 (by kernel_rfl)
    (of_decide_eq_true (by kernel_rfl)) (by unfold Func.isWrapper; rw [if_neg (of_decide_eq_false (by kernel_rfl))]; exact ⟨rfl, rfl⟩)
    (fun os started H enc _ => lift_true (H := H) (enc := enc) 9 Try.f9 Rows.fnExactThenSymSpec started (by kernel_rfl) Try.func9 rfl (by kernel_rfl) (by kernel_rfl)
      (fun ds h => match ds, h with | [_, _], _ => rfl)
      (ChangeSpec.witness6 (enc := enc) (C := Try.checked) false ⟨#[], #[.agg #[.int .i64 0, .bool false], .agg #[.int .i64 0, .bool false]], []⟩ 8 (by kernel_rfl) (by kernel_rfl) (by kernel_rfl) (by kernel_rfl))
      (fun W base args ds p hval hA => by
        rw [Try.params9] at hA hval
        obtain ⟨v0, vs0, d0, ds0, p0, q0, hargs, rfl, rfl, h0, r0⟩ := trodAll_cons hA
        obtain ⟨v1, vs1, d1, ds1, p1, q1, rfl, rfl, rfl, h1, r1⟩ := trodAll_cons r0
        obtain ⟨rfl, rfl, rfl⟩ := trodAll_nil r1
        obtain rfl : args = #[v0, v1] := by cases args; simp_all
        obtain ⟨t0, f0, rfl, a0, b0⟩ := open_lsym (hval 0 _ v0 rfl rfl) h0
        obtain ⟨t1, f1, rfl, a1, b1⟩ := open_lsym (hval 1 _ v1 rfl rfl) h1
        exact walk t0 f0 t1 f1 W a0 b0 a1 b1))
#print axioms holds
end Go.Proofs.Ytbeefbmgbmgbfaa.wFnExactThenSym
