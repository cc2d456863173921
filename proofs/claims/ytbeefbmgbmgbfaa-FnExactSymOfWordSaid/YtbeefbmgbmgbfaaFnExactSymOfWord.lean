/-
  For every kind of mirrors and every word of at most 2^20 letters (longer ones are passed over by the law itself): SymOfWord of the program answers as SymOfWord of the model and leaves the word as it was. No condition.
-/
import Derived.Test.YtbeefbmgbmgbfaaFnExactSymOfWordWalk
namespace Go.Proofs.Ytbeefbmgbmgbfaa.wFnExactSymOfWord
open Go.ChangeShapes Go.WideShapes Go.ChangeAt Go.RowKit Go.Joins

set_option maxRecDepth 100000 in
theorem holds : Rows.FnExactSymOfWordSaid :=
  OpenClaim.holds_of_wide 12 Try.f12 rfl rfl rfl rfl rfl rfl rfl ⟨rfl, rfl, rfl, rfl, rfl⟩ rfl rfl rfl rfl rfl (by kernel_rfl) Try.func12 (by kernel_rfl)
    (of_decide_eq_true (by kernel_rfl)) (by unfold Func.isWrapper; rw [if_neg (of_decide_eq_false (by kernel_rfl))]; exact ⟨rfl, rfl⟩)
    (fun os started H enc _ => lift_true (H := H) (enc := enc) 12 Try.f12 Rows.fnExactSymOfWordSpec started (by kernel_rfl) Try.func12 rfl (by kernel_rfl) (by kernel_rfl)
      (fun ds h => match ds, h with | [_, _], _ => rfl)
      (ChangeSpec.witness6 (enc := enc) (C := Try.checked) false ⟨#[], #[.int .i64 0, .slice Option.none 0 0], []⟩ 8 (by kernel_rfl) (by kernel_rfl) (by kernel_rfl) (by kernel_rfl))
      (fun W base args ds p hval hA => by
        rw [Try.params12] at hA hval
        obtain ⟨v0, vs0, d0, ds0, p0, q0, hargs, rfl, rfl, h0, r0⟩ := trodAll_cons hA
        obtain ⟨v1, vs1, d1, ds1, p1, q1, rfl, rfl, rfl, h1, r1⟩ := trodAll_cons r0
        obtain ⟨rfl, rfl, rfl⟩ := trodAll_nil r1
        obtain rfl : args = #[v0, v1] := by cases args; simp_all
        obtain ⟨n0, rfl, a0, b0⟩ := open_i (hval 0 _ v0 rfl rfl) h0
        obtain ⟨x1, len1, cap1, z1, rfl, a1⟩ := open_introw (hval 1 _ v1 rfl rfl) h1
        exact walk n0 x1 len1 cap1 z1 W a0 b0 a1))
#print axioms holds
end Go.Proofs.Ytbeefbmgbmgbfaa.wFnExactSymOfWord
