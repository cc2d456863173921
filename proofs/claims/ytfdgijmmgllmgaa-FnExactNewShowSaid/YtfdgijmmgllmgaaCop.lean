/-
  Sums, differences and products of parts of colours as whole numbers.
-/
import Derived.Test.YtfdgijmmgllmgaaCpart
namespace Go.Proofs.Ytfdgijmmgllmgaa
open Ieee

theorem cutAt_mono {n m g : Nat} (h : n ≤ m) : cutAt n g ≤ cutAt m g := by
  have hq : n / g ≤ m / g := Nat.div_le_div_right h
  rcases Nat.eq_or_lt_of_le hq with e | l
  · unfold cutAt
    have h1 := Nat.div_add_mod n g
    have h2 := Nat.div_add_mod m g
    rw [e] at h1 ⊢
    have hr : n % g ≤ m % g := by omega
    have : (decide (g < 2 * (n % g)) || (g == 2 * (n % g) && m / g % 2 == 1)).toNat ≤ (decide (g < 2 * (m % g)) || (g == 2 * (m % g) && m / g % 2 == 1)).toNat := by
      by_cases c1 : g < 2 * (m % g)
      · simp only [c1, decide_true, Bool.true_or]
        exact Bool.toNat_le _
      · have c2 : ¬ g < 2 * (n % g) := by omega
        by_cases c3 : g = 2 * (n % g)
        · have c4 : g = 2 * (m % g) := by omega
          have e1 : (g == 2 * (n % g)) = true := by simpa using c3
          have e2 : (g == 2 * (m % g)) = true := by simpa using c4
          rw [e1, e2, decide_eq_false c1, decide_eq_false c2]
          exact Nat.le_refl _
        · have e1 : (g == 2 * (n % g)) = false := by simpa using c3
          rw [e1, decide_eq_false c2]
          simp
    omega
  · have h1 : cutAt n g ≤ n / g + 1 := by unfold cutAt; have := Bool.toNat_le (decide (g < 2 * (n % g)) || (g == 2 * (n % g) && n / g % 2 == 1)); omega
    have h2 : m / g ≤ cutAt m g := by unfold cutAt; omega
    omega

theorem log2_mono {n m : Nat} (h : n ≤ m) : n.log2 ≤ m.log2 := by
  rcases Nat.eq_zero_or_pos n with e | e
  · subst e; simp
  · exact (Nat.le_log2 (by omega)).2 (Nat.le_trans ((Nat.le_log2 (by omega)).1 (Nat.le_refl _)) h)

theorem rn_mono (f : Format) {N M Q : Nat} (h : N ≤ M) : rn f N Q ≤ rn f M Q := by
  have hk := rn_kept f N Q
  have hm := rn_kept f M Q
  have hl := log2_mono h
  unfold rn
  generalize hu : N.log2 - (f.fractionBits + Q) = u at hk ⊢
  generalize hv : M.log2 - (f.fractionBits + Q) = v at hm ⊢
  have huv : u ≤ v := by omega
  rcases Nat.eq_or_lt_of_le huv with e | l
  · subst e
    exact Nat.add_le_add_left (cutAt_mono h) _
  · have h1 : (u + 1) * f.binade ≤ v * f.binade := Nat.mul_le_mul_right _ l
    rw [Nat.add_mul] at h1
    omega

/-- The magnitude of a part, in units of the least place. -/
def pm (x : Nat) : Nat := magOf F32 (rungOf F32 x)

theorem mag_one : magOf F32 1065353216 = 2 ^ 149 := by decide +kernel

theorem Part.rung {x : Nat} (h : Part x) : rungOf F32 x ≤ 1065353216 := by
  rcases h with h | h
  · rw [rung_of_lt (by omega)]; exact h
  · subst h; unfold rungOf; rw [F32_sw]; decide

theorem Part.pm_le {x : Nat} (h : Part x) : pm x ≤ 2 ^ 149 := by
  rw [← mag_one]; exact magOf_le F32 h.rung

theorem Part.neg {x : Nat} (h : Part x) : negOf F32 x = true → rungOf F32 x = 0 := by
  intro hn
  rcases h with h | h
  · rw [neg_of_lt (by omega)] at hn; cases hn
  · subst h; unfold rungOf; rw [F32_sw]

theorem Part.val {x : Nat} (h : Part x) : valOf F32 x = (pm x : Int) := by
  unfold valOf pm
  cases hn : negOf F32 x
  · rfl
  · rw [h.neg hn, magOf_zero]; rfl

theorem Part.order {a b : Nat} (ha : Part a) (hb : Part b) : F32.order a b = some (compare (pm a : Int) (pm b : Int)) := by
  rw [order_fin F32 ha.fin hb.fin, ha.val, hb.val]

theorem pm_word {r : Nat} (h : r < 2147483648) : pm r = magOf F32 r := by unfold pm; rw [rung_of_lt h]

theorem part_of_le {x : Nat} (h : x ≤ 1065353216) : Part x := Or.inl h
theorem part_one : Part 1065353216 := Or.inl (Nat.le_refl _)
theorem part_zero : Part 0 := Or.inl (by omega)
theorem pm_one : pm 1065353216 = 2 ^ 149 := by rw [pm_word (by omega), mag_one]
theorem pm_zero : pm 0 = 0 := by rw [pm_word (by omega), magOf_zero]

/-- What an operation gives, set to +0 where it is 0. -/
def opB (o : Option Nat) : Nat := match o with | some r => cleanB r | none => 0
def mulB (a b : Nat) : Nat := opB (F32.mul a b)
def subB (a b : Nat) : Nat := opB (F32.sub a b)
def addB (a b : Nat) : Nat := opB (F32.add a b)

theorem clean_word (s : Bool) {r : Nat} (h : r < 2139095040) : cleanB (F32.word s r) = if r = 0 then 0 else F32.word s r := by
  rw [clean_eq (fin_word s h), rungOf_word F32 s (by rw [F32_sw]; omega)]

theorem mul_part {a b : Nat} (ha : Part a) (hb : Part b) :
    ∃ r, F32.mul a b = some r ∧ Fin32 r ∧ cleanB r = rn F32 (pm a * pm b) 149 ∧ rn F32 (pm a * pm b) 149 ≤ rungOf F32 a ∧ rn F32 (pm a * pm b) 149 ≤ rungOf F32 b := by
  have e := mul_fin F32 (q := 149) F32_lp ha.fin hb.fin
  have hN : pm a * pm b ≤ magOf F32 (rungOf F32 a) * 2 ^ 149 := Nat.mul_le_mul_left _ hb.pm_le
  have hN2 : pm a * pm b ≤ magOf F32 (rungOf F32 b) * 2 ^ 149 := by rw [Nat.mul_comm]; exact Nat.mul_le_mul_left _ ha.pm_le
  have hra := ha.rung
  obtain ⟨e1, l1⟩ := roundMul_eq 149 (negOf F32 a ^^ negOf F32 b) (pm a * pm b) (R := rungOf F32 a) (by omega) hN
  have l2 : rn F32 (pm a * pm b) 149 ≤ rungOf F32 b := rn_le F32 hN2
  refine ⟨_, e, ?_, ?_, l1, l2⟩
  · show Fin32 (roundMul F32 149 (negOf F32 a ^^ negOf F32 b) (pm a * pm b))
    rw [e1]; exact fin_word _ (by omega)
  · show cleanB (roundMul F32 149 (negOf F32 a ^^ negOf F32 b) (pm a * pm b)) = _
    rw [e1, clean_word _ (by omega)]
    by_cases h0 : rn F32 (pm a * pm b) 149 = 0
    · rw [if_pos h0, h0]
    · rw [if_neg h0]
      cases hs : (negOf F32 a ^^ negOf F32 b)
      · rfl
      · exfalso; apply h0
        have : pm a * pm b = 0 := by
          unfold pm
          cases na : negOf F32 a
          · cases nb : negOf F32 b
            · rw [na, nb] at hs; cases hs
            · rw [hb.neg nb, magOf_zero, Nat.mul_zero]
          · rw [ha.neg na, magOf_zero, Nat.zero_mul]
        rw [this, rn_zero]

theorem mulB_part {a b : Nat} (ha : Part a) (hb : Part b) : mulB a b = rn F32 (pm a * pm b) 149 ∧ mulB a b ≤ rungOf F32 a ∧ mulB a b ≤ rungOf F32 b := by
  obtain ⟨r, e, _, e1, l1, l2⟩ := mul_part ha hb
  unfold mulB; rw [e]
  show cleanB r = _ ∧ cleanB r ≤ _ ∧ cleanB r ≤ _
  rw [e1]; exact ⟨rfl, l1, l2⟩

theorem Part.mul {a b : Nat} (ha : Part a) (hb : Part b) : Part (mulB a b) := part_of_le (by have := (mulB_part ha hb).2.1; have := ha.rung; omega)

/-- A difference, whichever is greater. -/
theorem sub_part {a b : Nat} (ha : Part a) (hb : Part b) : ∃ r, F32.sub a b = some r ∧ Fin32 r ∧
    (pm b ≤ pm a → cleanB r = rn F32 (pm a - pm b) 0 ∧ rn F32 (pm a - pm b) 0 ≤ rungOf F32 a) := by
  have e := sub_fin F32 ha.fin hb.fin
  rw [ha.val, hb.val] at e
  have h1 := ha.pm_le
  have h2 := hb.pm_le
  have hra := ha.rung
  obtain ⟨e1, l1⟩ := roundTo_eq (negOf F32 a && !negOf F32 b) ((pm a : Int) - (pm b : Int)) (R := 1065353216) (by omega) (by rw [mag_one]; omega)
  rw [e1] at e
  refine ⟨_, e, fin_word _ (by omega), fun hle => ?_⟩
  have hn : ((pm a : Int) - (pm b : Int)).natAbs = pm a - pm b := by omega
  rw [hn]
  have l2 : rn F32 (pm a - pm b) 0 ≤ rungOf F32 a := rn_le F32 (by rw [Nat.pow_zero, Nat.mul_one]; exact Nat.sub_le _ _)
  refine ⟨?_, l2⟩
  rw [clean_word _ (by omega)]
  by_cases h0 : rn F32 (pm a - pm b) 0 = 0
  · rw [if_pos h0, h0]
  · rw [if_neg h0]
    have hT : ¬ ((pm a : Int) - (pm b : Int)) = 0 := by
      intro h; apply h0
      have : pm a - pm b = 0 := by omega
      rw [this, rn_zero]
    have hT2 : ¬ ((pm a : Int) - (pm b : Int)) < 0 := by omega
    rw [if_neg hT, decide_eq_false hT2]; rfl

theorem subB_part {a b : Nat} (ha : Part a) (hb : Part b) (h : pm b ≤ pm a) : subB a b = rn F32 (pm a - pm b) 0 ∧ subB a b ≤ rungOf F32 a := by
  obtain ⟨r, e, _, e1⟩ := sub_part ha hb
  unfold subB; rw [e]
  show cleanB r = _ ∧ cleanB r ≤ _
  rw [(e1 h).1]; exact ⟨rfl, (e1 h).2⟩

theorem Part.sub {a b : Nat} (ha : Part a) (hb : Part b) (h : pm b ≤ pm a) : Part (subB a b) := part_of_le (by have := (subB_part ha hb h).2; have := ha.rung; omega)

theorem mag_two : magOf F32 1073741824 = 2 ^ 150 := by decide +kernel

theorem add_part {a b : Nat} (ha : Part a) (hb : Part b) : ∃ r, F32.add a b = some r ∧ Fin32 r ∧ cleanB r = rn F32 (pm a + pm b) 0 ∧ rn F32 (pm a + pm b) 0 ≤ 1073741824 := by
  have e := add_fin F32 ha.fin hb.fin
  rw [ha.val, hb.val] at e
  have h1 := ha.pm_le
  have h2 := hb.pm_le
  have hn : ((pm a : Int) + (pm b : Int)).natAbs = pm a + pm b := by omega
  obtain ⟨e1, l1⟩ := roundTo_eq (negOf F32 a && negOf F32 b) ((pm a : Int) + (pm b : Int)) (R := 1073741824) (by omega) (by rw [mag_two, hn]; omega)
  rw [e1] at e
  rw [hn] at e l1
  refine ⟨_, e, fin_word _ (by omega), ?_, l1⟩
  rw [clean_word _ (by omega)]
  by_cases h0 : rn F32 (pm a + pm b) 0 = 0
  · rw [if_pos h0, h0]
  · rw [if_neg h0]
    have hT : ¬ ((pm a : Int) + (pm b : Int)) = 0 := by
      intro h; apply h0
      have : pm a + pm b = 0 := by omega
      rw [this, rn_zero]
    have hT2 : ¬ ((pm a : Int) + (pm b : Int)) < 0 := by omega
    rw [if_neg hT, decide_eq_false hT2]; rfl

theorem addB_part {a b : Nat} (ha : Part a) (hb : Part b) : addB a b = rn F32 (pm a + pm b) 0 ∧ addB a b ≤ 1073741824 := by
  obtain ⟨r, e, _, e1, l1⟩ := add_part ha hb
  unfold addB; rw [e]
  show cleanB r = _ ∧ cleanB r ≤ _
  rw [e1]; exact ⟨rfl, l1⟩
end Go.Proofs.Ytfdgijmmgllmgaa
