/-
  Steps of a part: sixteen times the part, cut towards zero, at most fifteen.
-/
import Derived.Test.YtljilmekmfnkbaaCop
namespace Go.Proofs.Ytljilmekmfnkbaa
open Ieee

theorem cut_down (neg : Bool) (n drop : Nat) : Toward.cut .zero neg n drop = n / 2 ^ drop := by
  unfold Toward.cut
  simp only [Nat.one_shiftLeft]
  by_cases h : drop ≤ n.log2 + 2
  · rw [Nat.min_eq_left h]; simp
  · rw [Nat.min_eq_right (by omega)]
    have h1 : n < 2 ^ (n.log2 + 1) := Nat.lt_log2_self
    have h2 : 2 ^ (n.log2 + 2) = 2 * 2 ^ (n.log2 + 1) := by rw [Nat.pow_succ, Nat.mul_comm]
    have h3 : 2 ^ (n.log2 + 2) ≤ 2 ^ drop := Nat.pow_le_pow_right (by omega) (by omega)
    have e1 : n / 2 ^ (n.log2 + 2) = 0 := Nat.div_eq_of_lt (by omega)
    have e2 : n / 2 ^ drop = 0 := Nat.div_eq_of_lt (by omega)
    rw [e1, e2]; rfl

/-- What is ahead of the point. -/
def wholeOf (r : Nat) : Nat := magOf F32 (rungOf F32 r) / 2 ^ 149

theorem whole_div (s u k : Nat) : (s <<< ((-(k : Int) + (u : Nat)).toNat)) / 2 ^ ((-(-(k : Int) + (u : Nat))).toNat) = s * 2 ^ u / 2 ^ k := by
  rw [Nat.shiftLeft_eq]
  rcases Nat.le_total k u with h | h
  · have e1 : (-(k : Int) + (u : Nat)).toNat = u - k := by omega
    have e2 : (-(-(k : Int) + (u : Nat))).toNat = 0 := by omega
    have e3 : 2 ^ u = 2 ^ (u - k) * 2 ^ k := by rw [← Nat.pow_add, Nat.sub_add_cancel h]
    rw [e1, e2, e3, ← Nat.mul_assoc, Nat.mul_div_cancel _ (Nat.two_pow_pos k), Nat.pow_zero, Nat.div_one]
  · have e1 : (-(k : Int) + (u : Nat)).toNat = 0 := by omega
    have e2 : (-(-(k : Int) + (u : Nat))).toNat = k - u := by omega
    have e3 : 2 ^ k = 2 ^ (k - u) * 2 ^ u := by rw [← Nat.pow_add, Nat.sub_add_cancel h]
    rw [e1, e2, e3, Nat.mul_div_mul_right _ _ (Nat.two_pow_pos u), Nat.pow_zero, Nat.mul_one]

theorem toInt_fin {r : Nat} (h : Fin32 r) (hn : negOf F32 r = true → rungOf F32 r = 0) (hb : wholeOf r ≤ 16) : floatToIntVal .f32 r .i64 = some (wholeOf r : Int) := by
  have e : (FloatKind.f32.decode r).toInt .zero = some (wholeOf r : Int) := by
    show (F32.read r).toInt .zero = _
    rw [read_fin F32 h]
    simp only [Datum.toInt, Datum.integral]
    rw [cut_down, F32_lp, whole_div]
    show some (signed _ (wholeOf r) 0) = _
    congr 1
    cases hs : negOf F32 r
    · simp [signed]
    · have : wholeOf r = 0 := by unfold wholeOf; rw [hn hs, magOf_zero, Nat.zero_div]
      rw [this]; simp [signed]
  unfold floatToIntVal
  rw [e]
  simp only
  rw [if_pos]
  constructor
  · have : IntKind.i64.min = -9223372036854775808 := by decide
    omega
  · have : IntKind.i64.max = 9223372036854775807 := by decide
    omega

theorem mag_16 : magOf F32 1098907648 = 16 * 2 ^ 149 := by decide +kernel

/-- Sixteen times a part. -/
def by16 (x : Nat) : Nat := roundMul F32 149 (negOf F32 x) (16 * 2 ^ 149 * pm x)

theorem mul16 {x : Nat} (h : Part x) : F32.mul 1098907648 x = some (by16 x) ∧ F32.mul x 1098907648 = some (by16 x) ∧ Fin32 (by16 x) ∧ (negOf F32 (by16 x) = true → rungOf F32 (by16 x) = 0) ∧ wholeOf (by16 x) ≤ 16 := by
  have f16 : Fin32 1098907648 := fin_of_lt (by omega)
  have r16 : rungOf F32 1098907648 = 1098907648 := rung_of_lt (by omega)
  have n16 : negOf F32 1098907648 = false := neg_of_lt (by omega)
  have e1 := mul_fin F32 (q := 149) F32_lp f16 h.fin
  have e2 := mul_fin F32 (q := 149) F32_lp h.fin f16
  rw [r16, n16, mag_16] at e1 e2
  have hN : 16 * 2 ^ 149 * pm x ≤ magOf F32 1098907648 * 2 ^ 149 := by rw [mag_16]; exact Nat.mul_le_mul_left _ h.pm_le
  obtain ⟨e3, l3⟩ := roundMul_eq 149 (negOf F32 x) (16 * 2 ^ 149 * pm x) (R := 1098907648) (by omega) hN
  have eb : by16 x = F32.word (negOf F32 x) (rn F32 (16 * 2 ^ 149 * pm x) 149) := e3
  have hr : rungOf F32 (by16 x) = rn F32 (16 * 2 ^ 149 * pm x) 149 := by rw [eb]; exact rungOf_word F32 _ (by rw [F32_sw]; omega)
  refine ⟨?_, ?_, ?_, ?_, ?_⟩
  · rw [e1]; simp only [Bool.false_xor]; rfl
  · rw [e2, Nat.mul_comm]; simp only [Bool.xor_false]; rfl
  · rw [eb]; exact fin_word _ (by omega)
  · intro hn
    have h1 : negOf F32 (by16 x) = negOf F32 x := by rw [eb]; exact negOf_word F32 _ (by rw [F32_sw]; omega)
    rw [h1] at hn
    have h2 : pm x = 0 := by unfold pm; rw [h.neg hn, magOf_zero]
    rw [hr, h2, Nat.mul_zero, rn_zero]
  · unfold wholeOf
    rw [hr]
    have h1 := magOf_le F32 l3
    rw [mag_16] at h1
    exact Nat.div_le_of_le_mul (Nat.le_trans h1 (Nat.le_of_eq (Nat.mul_comm _ _)))

theorem clean_whole {x : Nat} (h : Fin32 x) : wholeOf (cleanB x) = wholeOf x := by
  rw [clean_eq h]
  split
  · rename_i h0
    unfold wholeOf
    rw [h0, rung_of_lt (by omega)]
  · rfl

theorem clean_fin {x : Nat} (h : Fin32 x) : Fin32 (cleanB x) := by
  rw [clean_eq h]
  split
  · exact fin_of_lt (by omega)
  · exact h

theorem clean_neg {x : Nat} (h : Fin32 x) (hn : negOf F32 x = true → rungOf F32 x = 0) : negOf F32 (cleanB x) = true → rungOf F32 (cleanB x) = 0 := by
  rw [clean_eq h]
  split
  · intro _; exact rung_of_lt (by omega)
  · exact hn

/-- The step of a part. -/
def stepN (x : Nat) : Nat := min (wholeOf (by16 x)) 15
theorem stepN_le (x : Nat) : stepN x ≤ 15 := Nat.min_le_right _ _
end Go.Proofs.Ytljilmekmfnkbaa
