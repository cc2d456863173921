/-
  Singles times a unit, and plus nothing: what the program's product and sum give.
-/
import Derived.Test.YtfdgijmmgllmgaaCnum
namespace Go.Proofs.Ytfdgijmmgllmgaa
open Go.ChangeShapes Go.WideShapes Go.ChangeAt Go.RowKit Go.Joins
set_option linter.unusedSimpArgs false
set_option linter.unusedVariables false
set_option maxRecDepth 100000
attribute [local go_sem] store_f
open Ieee

/-- The negative of a word, 0 being its own. -/
def ngB (x : Nat) : Nat := if rungOf F32 x = 0 then 0 else F32.word (!negOf F32 x) (rungOf F32 x)

/-- A word of 32 bits that is finite, and 0 only as +0. -/
structure Cl (x : Nat) : Prop where
  fin : Fin32 x
  lt : x < 4294967296
  zero : rungOf F32 x = 0 → x = 0

theorem mag_unit : magOf F32 1065353216 = 2 ^ 149 := by decide +kernel
theorem rung_m1 : rungOf F32 3212836864 = 1065353216 := by decide +kernel
theorem neg_m1 : negOf F32 3212836864 = true := by decide +kernel
theorem rung_m0 : rungOf F32 2147483648 = 0 := by decide +kernel

theorem fin_rung {x : Nat} (h : Fin32 x) : rungOf F32 x < 2139095040 := by
  have h2 : rungOf F32 x < F32.infRung := h
  rw [F32_inf] at h2; exact h2

theorem clean_w (s : Bool) {r : Nat} (h : r < 2139095040) : cleanB (F32.word s r) = if r = 0 then 0 else F32.word s r := by
  rw [clean_eq (fin_word s h), rungOf_word F32 s (by rw [F32_sw]; omega)]

theorem cl_zero : Cl 0 := ⟨fin_of_lt (by omega), by omega, fun _ => rfl⟩
theorem cl_clean {x : Nat} (h : Fin32 x) (hx : x < 4294967296) : Cl (cleanB x) := by
  rw [clean_eq h]
  by_cases h0 : rungOf F32 x = 0
  · rw [if_pos h0]; exact cl_zero
  · rw [if_neg h0]; exact ⟨h, hx, fun h1 => absurd h1 h0⟩
theorem word_lt (s : Bool) {r : Nat} (h : r < 2147483648) : F32.word s r < 4294967296 := by
  have e : F32.word s r = (if s then 2147483648 else 0) + r := by
    unfold Format.word; rw [F32_sw]; cases s <;> simp
  rw [e]; cases s <;> simp <;> omega
theorem cl_ng {x : Nat} (h : Fin32 x) : Cl (ngB x) := by
  have hr := fin_rung h
  unfold ngB
  by_cases h0 : rungOf F32 x = 0
  · rw [if_pos h0]; exact cl_zero
  · rw [if_neg h0]
    refine ⟨fin_word _ hr, word_lt _ (by omega), fun h1 => ?_⟩
    rw [rungOf_word F32 _ (by rw [F32_sw]; omega)] at h1
    exact absurd h1 h0

theorem ng_ng {x : Nat} (h : Cl x) : ngB (ngB x) = x := by
  have hr := fin_rung h.fin
  unfold ngB
  by_cases h0 : rungOf F32 x = 0
  · rw [if_pos h0, h.zero h0]; decide +kernel
  · rw [if_neg h0, rungOf_word F32 _ (by rw [F32_sw]; omega), negOf_word F32 _ (by rw [F32_sw]; omega), if_neg h0, Bool.not_not]
    exact word_of F32 (by rw [F32_w]; exact h.lt)

theorem mul_unit {x : Nat} (h : Fin32 x) (hx : x < 4294967296) : ∃ r, F32.mul x 1065353216 = some r ∧ setB r = cleanB x := by
  have hr := fin_rung h
  have e := mul_fin F32 (q := 149) F32_lp h (fin_of_lt (x := 1065353216) (by omega))
  rw [rung_of_lt (x := 1065353216) (by omega), neg_of_lt (x := 1065353216) (by omega), mag_unit, Bool.xor_false] at e
  obtain ⟨e1, _⟩ := roundMul_eq 149 (negOf F32 x) (magOf F32 (rungOf F32 x) * 2 ^ 149) (R := rungOf F32 x) hr (Nat.le_refl _)
  rw [e1, rn_exact, word_of F32 (by rw [F32_w]; exact hx)] at e
  exact ⟨_, e, set_clean h⟩

theorem mul_munit {x : Nat} (h : Fin32 x) : ∃ r, F32.mul x 3212836864 = some r ∧ setB r = ngB x := by
  have hr := fin_rung h
  have f1 : Fin32 3212836864 := by unfold Fin32; rw [rung_m1, F32_inf]; decide
  have e := mul_fin F32 (q := 149) F32_lp h f1
  rw [rung_m1, neg_m1, mag_unit, Bool.xor_true] at e
  obtain ⟨e1, _⟩ := roundMul_eq 149 (!negOf F32 x) (magOf F32 (rungOf F32 x) * 2 ^ 149) (R := rungOf F32 x) hr (Nat.le_refl _)
  rw [e1, rn_exact] at e
  exact ⟨_, e, by rw [set_clean (fin_word _ hr), clean_w _ hr]; rfl⟩

theorem mul_none {x y : Nat} (h : Fin32 x) (hy : y = 0 ∨ y = 2147483648) : ∃ r, F32.mul x y = some r ∧ setB r = 0 := by
  have f0 : Fin32 y := by
    rcases hy with rfl | rfl
    · exact fin_of_lt (by omega)
    · unfold Fin32; rw [rung_m0, F32_inf]; decide
  have r0 : rungOf F32 y = 0 := by
    rcases hy with rfl | rfl
    · exact rung_of_lt (by omega)
    · exact rung_m0
  have e := mul_fin F32 (q := 149) F32_lp h f0
  rw [r0, magOf_zero, Nat.mul_zero] at e
  obtain ⟨e1, _⟩ := roundMul_eq 149 (negOf F32 x ^^ negOf F32 y) 0 (R := 0) (by omega) (by omega)
  rw [e1, rn_zero] at e
  exact ⟨_, e, by rw [set_clean (fin_word _ (by omega)), clean_w _ (by omega)]; rfl⟩

theorem rn_self {x : Nat} : rn F32 (valOf F32 x).natAbs 0 = rungOf F32 x := by
  have h := rn_exact F32 (rungOf F32 x) 0
  simp only [Nat.pow_zero, Nat.mul_one] at h
  have e : (valOf F32 x).natAbs = magOf F32 (rungOf F32 x) := by unfold valOf; split <;> omega
  rw [e]; exact h

theorem sign_val {x : Nat} (h : Cl x) (z : Bool) (hz : x = 0 → z = false) : (if valOf F32 x = 0 then z else decide (valOf F32 x < 0)) = negOf F32 x := by
  by_cases h0 : rungOf F32 x = 0
  · have := h.zero h0
    subst this
    rw [if_pos val_zero, hz rfl, neg_of_lt (by omega)]
  · have h1 : ¬ valOf F32 x = 0 := fun h => h0 (val_eq_zero.1 h)
    rw [if_neg h1]
    have := magOf_pos (r := rungOf F32 x) (by omega)
    unfold valOf
    cases negOf F32 x <;> simp <;> omega

theorem add_none {x : Nat} (h : Cl x) : ∃ r, F32.add x 0 = some r ∧ setB r = x := by
  have hr := fin_rung h.fin
  have e := add_fin F32 h.fin (fin_of_lt (x := 0) (by omega))
  rw [val_zero, Int.add_zero, neg_of_lt (x := 0) (by omega), Bool.and_false] at e
  obtain ⟨e1, _⟩ := roundTo_eq false (valOf F32 x) (R := rungOf F32 x) hr (by unfold valOf; split <;> omega)
  rw [e1, rn_self, sign_val h false (fun _ => rfl), word_of F32 (by rw [F32_w]; exact h.lt)] at e
  refine ⟨_, e, ?_⟩
  rw [set_clean h.fin, clean_eq h.fin]
  by_cases h0 : rungOf F32 x = 0
  · rw [if_pos h0, h.zero h0]
  · rw [if_neg h0]

theorem none_add {x : Nat} (h : Cl x) : ∃ r, F32.add 0 x = some r ∧ setB r = x := by
  have hr := fin_rung h.fin
  have e := add_fin F32 (fin_of_lt (x := 0) (by omega)) h.fin
  rw [val_zero, Int.zero_add, neg_of_lt (x := 0) (by omega), Bool.false_and] at e
  obtain ⟨e1, _⟩ := roundTo_eq false (valOf F32 x) (R := rungOf F32 x) hr (by unfold valOf; split <;> omega)
  rw [e1, rn_self, sign_val h false (fun _ => rfl), word_of F32 (by rw [F32_w]; exact h.lt)] at e
  refine ⟨_, e, ?_⟩
  rw [set_clean h.fin, clean_eq h.fin]
  by_cases h0 : rungOf F32 x = 0
  · rw [if_pos h0, h.zero h0]
  · rw [if_neg h0]
end Go.Proofs.Ytfdgijmmgllmgaa
