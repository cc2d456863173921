/-
  Singles as words: which are finite, how they compare, what is set to +0.
-/
import Derived.Test.YtfdgijmmgllmgaaFa
import Derived.Test.YtfdgijmmgllmgaaNumTwo
namespace Go.Proofs.Ytfdgijmmgllmgaa
open Ieee

/-- The format of singles. -/
abbrev F32 : Format := FloatKind.f32.format
theorem F32_sw : F32.signWeight = 2147483648 := by kernel_rfl
theorem F32_inf : F32.infRung = 2139095040 := by kernel_rfl
theorem F32_bin : F32.binade = 8388608 := by kernel_rfl
theorem F32_lp : F32.leastPlace = -(149 : Nat) := by kernel_rfl
theorem F32_w : 2 ^ F32.width = 4294967296 := by kernel_rfl
theorem F32_eb : 2 ≤ F32.exponentBits := by decide

/-- A finite word. -/
def Fin32 (x : Nat) : Prop := rungOf F32 x < F32.infRung

theorem fin_of_lt {x : Nat} (h : x < 2139095040) : Fin32 x := by
  unfold Fin32 rungOf
  rw [F32_inf, F32_sw, Nat.mod_eq_of_lt (by omega)]; exact h

theorem rung_of_lt {x : Nat} (h : x < 2147483648) : rungOf F32 x = x := by
  unfold rungOf; rw [F32_sw]; exact Nat.mod_eq_of_lt h

theorem neg_of_lt {x : Nat} (h : x < 2147483648) : negOf F32 x = false := by
  unfold negOf; rw [F32_sw, Nat.div_eq_of_lt h]; rfl

theorem val_of_lt {x : Nat} (h : x < 2147483648) : valOf F32 x = (magOf F32 x : Int) := by
  unfold valOf; rw [rung_of_lt h, neg_of_lt h]; rfl

theorem word_of_lt (r : Nat) : F32.word false r = r := rfl

theorem magOf_pos {r : Nat} (h : 0 < r) : 0 < magOf F32 r := by
  have := magOf_lt F32 h; rw [magOf_zero] at this; exact this

theorem val_zero : valOf F32 0 = 0 := by rw [val_of_lt (by omega), magOf_zero]; rfl

theorem order_zero {x : Nat} (h : Fin32 x) : F32.order x 0 = some (compare (valOf F32 x) 0) := by
  rw [order_fin F32 h (fin_of_lt (by omega)), val_zero]

theorem cmp_eq {a b : Int} : (some (compare a b) == some Ordering.eq) = decide (a = b) := by
  by_cases h : a < b
  · have h1 : ¬ a = b := by omega
    simp [compare, compareOfLessAndEq, h, h1]
  · by_cases h1 : a = b
    · simp [h1]
    · simp [compare, compareOfLessAndEq, h, h1]
theorem cmp_lt {a b : Int} : (some (compare a b) == some Ordering.lt) = decide (a < b) := by
  by_cases h : a < b
  · simp [compare, compareOfLessAndEq, h]
  · by_cases h1 : a = b
    · simp [h1]
    · simp [compare, compareOfLessAndEq, h, h1]
theorem cmp_gt {a b : Int} : (some (compare a b) == some Ordering.gt) = decide (b < a) := by
  by_cases h : a < b
  · have h1 : ¬ b < a := by omega
    simp [compare, compareOfLessAndEq, h, h1]
  · by_cases h1 : a = b
    · simp [h1]
    · have h2 : b < a := by omega
      simp [compare, compareOfLessAndEq, h, h1, h2]

theorem val_eq_zero {x : Nat} : valOf F32 x = 0 ↔ rungOf F32 x = 0 := by
  unfold valOf
  have key : magOf F32 (rungOf F32 x) = 0 ↔ rungOf F32 x = 0 := by
    constructor
    · intro h
      rcases Nat.eq_zero_or_pos (rungOf F32 x) with h1 | h1
      · exact h1
      · have := magOf_pos h1; omega
    · intro h; rw [h, magOf_zero]
  rw [← key]
  split <;> omega

theorem val_le_max {x : Nat} (h : Fin32 x) : -(magOf F32 2139095039 : Int) ≤ valOf F32 x ∧ valOf F32 x ≤ (magOf F32 2139095039 : Int) := by
  have h1 : rungOf F32 x ≤ 2139095039 := by have h2 : rungOf F32 x < F32.infRung := h; rw [F32_inf] at h2; omega
  have h3 := magOf_le F32 h1
  unfold valOf
  split <;> omega

theorem single_fin {x : Nat} (h : Fin32 x) : singleB x = true := by
  have hm := val_le_max h
  have f1 : Fin32 4286578687 := by unfold Fin32 rungOf; rw [F32_inf, F32_sw]; decide
  have f2 : Fin32 2139095039 := fin_of_lt (by omega)
  have v1 : valOf F32 4286578687 = -(magOf F32 2139095039 : Int) := by
    have e1 : rungOf F32 4286578687 = 2139095039 := by unfold rungOf; rw [F32_sw]
    have e2 : negOf F32 4286578687 = true := by unfold negOf; rw [F32_sw]; rfl
    unfold valOf; rw [e1, e2]; rfl
  have v2 := val_of_lt (x := 2139095039) (by omega)
  unfold singleB
  rw [order_fin F32 h f1, order_fin F32 h f2, v1, v2]
  simp only [cmp_eq, cmp_lt, cmp_gt]
  simp only [Bool.and_eq_true, Bool.or_eq_true, decide_eq_true_eq]
  omega

/-- What is set to +0 is the same on both sides. -/
theorem set_clean {x : Nat} (h : Fin32 x) : setB x = cleanB x := by
  unfold setB cleanB
  rw [single_fin h, Bool.and_true]
  cases h1 : (F32.order x 0 == some Ordering.eq)
  · have h2 : (F32.order x 0 != some Ordering.eq) = true := by rw [bne, h1]; rfl
    rw [if_pos h2, if_neg (by simp)]
  · have h2 : (F32.order x 0 != some Ordering.eq) = false := by rw [bne, h1]; rfl
    rw [if_neg (by rw [h2]; simp), if_pos rfl]

theorem clean_eq {x : Nat} (h : Fin32 x) : cleanB x = if rungOf F32 x = 0 then 0 else x := by
  unfold cleanB
  show (if (F32.order x 0 == some Ordering.eq) = true then _ else _) = _
  rw [order_zero h, cmp_eq]
  simp only [decide_eq_true_eq, val_eq_zero]

theorem fin_word (s : Bool) {r : Nat} (h : r < 2139095040) : Fin32 (F32.word s r) := by
  unfold Fin32
  rw [rungOf_word F32 s (by rw [F32_sw]; omega), F32_inf]; exact h

theorem rn_zero (Q : Nat) : rn F32 0 Q = 0 := by
  have := rn_le F32 (N := 0) (Q := Q) (r := 0) (by simp); omega

theorem sub_self {x : Nat} (h : Fin32 x) : F32.sub x x = some 0 := by
  rw [sub_fin F32 h h]
  have e : (negOf F32 x && !negOf F32 x) = false := by cases negOf F32 x <;> rfl
  rw [e, Int.sub_self]
  unfold roundTo
  simp [rn_zero, Format.word]

/-- Rounding a sum: its rung, where the sum is no greater than a finite word. -/
theorem roundTo_eq (z : Bool) (T : Int) {R : Nat} (hR : R < 2139095040) (h : T.natAbs ≤ magOf F32 R) :
    roundTo F32 z T = F32.word (if T = 0 then z else T < 0) (rn F32 T.natAbs 0) ∧ rn F32 T.natAbs 0 ≤ R := by
  have h1 : rn F32 T.natAbs 0 ≤ R := rn_le F32 (by simpa using h)
  refine ⟨?_, h1⟩
  unfold roundTo
  rw [Nat.min_eq_left (by rw [F32_inf]; omega)]

theorem roundMul_eq (q : Nat) (s : Bool) (N : Nat) {R : Nat} (hR : R < 2139095040) (h : N ≤ magOf F32 R * 2 ^ q) :
    roundMul F32 q s N = F32.word s (rn F32 N q) ∧ rn F32 N q ≤ R := by
  have h1 : rn F32 N q ≤ R := rn_le F32 h
  refine ⟨?_, h1⟩
  unfold roundMul
  rw [Nat.min_eq_left (by rw [F32_inf]; omega)]
end Go.Proofs.Ytfdgijmmgllmgaa
