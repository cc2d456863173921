/- Rounding of dyadic numbers to the words of a binary format, as whole-number facts. -/
import Derived.Laws.FloatArith
namespace Go.Proofs.Ytfdgijmmgllmgaa
open Ieee

/-- n / gap to the nearest, ties to even. -/
def cutAt (n gap : Nat) : Nat := n / gap + (decide (gap < 2 * (n % gap)) || (gap == 2 * (n % gap) && n / gap % 2 == 1)).toNat

theorem cut_eq (neg : Bool) (n drop : Nat) : Toward.cut .even neg n drop = cutAt n (2 ^ drop) := by
  unfold Toward.cut cutAt
  simp only [Nat.one_shiftLeft]
  by_cases h : drop ≤ n.log2 + 2
  · rw [Nat.min_eq_left h]
  · rw [Nat.min_eq_right (by omega)]
    have h1 : n < 2 ^ (n.log2 + 1) := Nat.lt_log2_self
    have h2 : 2 ^ (n.log2 + 2) = 2 * 2 ^ (n.log2 + 1) := by rw [Nat.pow_succ, Nat.mul_comm]
    have h3 : 2 ^ (n.log2 + 2) ≤ 2 ^ drop := Nat.pow_le_pow_right (by omega) (by omega)
    have e1 : n / 2 ^ (n.log2 + 2) = 0 := Nat.div_eq_of_lt (by omega)
    have e2 : n / 2 ^ drop = 0 := Nat.div_eq_of_lt (by omega)
    have e3 : n % 2 ^ (n.log2 + 2) = n := Nat.mod_eq_of_lt (by omega)
    have e4 : n % 2 ^ drop = n := Nat.mod_eq_of_lt (by omega)
    rw [e1, e2, e3, e4]
    have d1 : ¬ 2 ^ (n.log2 + 2) < 2 * n := by omega
    have d2 : ¬ 2 ^ drop < 2 * n := by omega
    simp [d1, d2]

theorem cutAt_le {n g K : Nat} (hg : 0 < g) (h : n ≤ K * g) : cutAt n g ≤ K := by
  unfold cutAt
  have hd := Nat.div_add_mod n g
  have hm := Nat.mod_lt n hg
  have hq : n / g ≤ K := Nat.div_le_of_le_mul (by rw [Nat.mul_comm]; exact h)
  rcases Nat.lt_or_ge (n / g) K with hl | hl
  · have : (decide (g < 2 * (n % g)) || (g == 2 * (n % g) && n / g % 2 == 1)).toNat ≤ 1 := Bool.toNat_le _
    omega
  · have e : n / g = K := Nat.le_antisymm hq hl
    rw [e] at hd
    have hr : n % g = 0 := by rw [Nat.mul_comm] at h; omega
    rw [hr, e]
    have d3 : (g == 0) = false := by simp; omega
    simp [d3]

theorem cutAt_ge {n g K : Nat} (hg : 0 < g) (h : K * g ≤ n) : K ≤ cutAt n g := by
  unfold cutAt
  have : K ≤ n / g := (Nat.le_div_iff_mul_le hg).2 h
  omega

theorem cutAt_scale {n g c : Nat} (hc : 0 < c) : cutAt (n * c) (g * c) = cutAt n g := by
  unfold cutAt
  rw [Nat.mul_div_mul_right _ _ hc, Nat.mul_mod_mul_right]
  have e1 : (g * c < 2 * (n % g * c)) ↔ (g < 2 * (n % g)) := by rw [← Nat.mul_assoc, Nat.mul_lt_mul_right hc]
  have e2 : (g * c = 2 * (n % g * c)) ↔ (g = 2 * (n % g)) := by
    rw [← Nat.mul_assoc]; exact ⟨Nat.eq_of_mul_eq_mul_right hc, fun h => by rw [← h]⟩
  have b1 : decide (g * c < 2 * (n % g * c)) = decide (g < 2 * (n % g)) := decide_eq_decide.2 e1
  have b2 : (g * c == 2 * (n % g * c)) = (g == 2 * (n % g)) := by
    rw [Bool.eq_iff_iff]; simp only [beq_iff_eq]; exact e2
  rw [b1, b2]

section
variable (f : Format)

theorem binade_pos : 0 < f.binade := Nat.two_pow_pos _

/-- The significand of a rung. -/
def sigOf (r : Nat) : Nat := if r < f.binade then r else f.binade + r % f.binade
/-- Its place above the least one. -/
def upOf (r : Nat) : Nat := r / f.binade - 1
/-- The magnitude of a rung, in units of the least place. -/
def magOf (r : Nat) : Nat := sigOf f r * 2 ^ upOf f r

theorem sigOf_lt (r : Nat) : sigOf f r < 2 * f.binade := by
  have := binade_pos f
  have := Nat.mod_lt r this
  unfold sigOf; split <;> omega

/-- The rung of a kept significand. -/
theorem magOf_rung {u k : Nat} (hk : k ≤ 2 * f.binade) (hu : u = 0 ∨ f.binade ≤ k) : magOf f (u * f.binade + k) = k * 2 ^ u := by
  have hB := binade_pos f
  unfold magOf sigOf upOf
  rcases Nat.lt_or_ge k f.binade with h | h
  · have : u = 0 := by omega
    subst this
    simp [h, Nat.div_eq_of_lt h]
  · rcases Nat.lt_or_ge k (2 * f.binade) with h2 | h2
    · have e1 : (u * f.binade + k) / f.binade = u + 1 := by
        rw [Nat.mul_comm, Nat.mul_add_div hB]
        have : k / f.binade = 1 := by
          have h1 : k / f.binade < 2 := Nat.div_lt_of_lt_mul (by rw [Nat.mul_comm]; exact h2)
          have h3 : 1 ≤ k / f.binade := (Nat.le_div_iff_mul_le hB).2 (by omega)
          omega
        omega
      have e2 : (u * f.binade + k) % f.binade = k - f.binade := by
        rw [Nat.mul_comm, Nat.mul_add_mod]
        rw [Nat.mod_eq_sub_mod h, Nat.mod_eq_of_lt (by omega)]
      have n1 : ¬ u * f.binade + k < f.binade := by omega
      rw [if_neg n1, e1, e2, Nat.add_sub_cancel]
      congr 1; omega
    · have hk2 : k = 2 * f.binade := Nat.le_antisymm hk h2
      subst hk2
      have e0 : u * f.binade + 2 * f.binade = f.binade * (u + 2) := by rw [← Nat.add_mul, Nat.mul_comm]
      have n1 : ¬ f.binade * (u + 2) < f.binade := by
        have : f.binade * 1 ≤ f.binade * (u + 2) := Nat.mul_le_mul_left _ (by omega)
        omega
      rw [e0, if_neg n1, Nat.mul_div_cancel_left _ hB, Nat.mul_mod_right]
      have : u + 2 - 1 = u + 1 := by omega
      rw [this, Nat.pow_succ, Nat.add_zero, Nat.mul_comm 2 f.binade, Nat.mul_assoc, Nat.mul_comm 2 (2 ^ u)]

theorem magOf_succ (r : Nat) : magOf f r < magOf f (r + 1) := by
  have hB := binade_pos f
  -- r = u * B + k with k < 2 B
  have key : ∀ u k, k < 2 * f.binade → (u = 0 ∨ f.binade ≤ k) → magOf f (u * f.binade + k) < magOf f (u * f.binade + k + 1) := by
    intro u k hk hu
    rw [magOf_rung f (by omega) hu, Nat.add_assoc, magOf_rung f (by omega) (by omega)]
    exact Nat.mul_lt_mul_of_pos_right (by omega) (Nat.two_pow_pos _)
  rcases Nat.lt_or_ge r f.binade with h | h
  · have := key 0 r (by omega) (Or.inl rfl)
    simpa using this
  · have hd := Nat.div_add_mod r f.binade
    have hm := Nat.mod_lt r hB
    have h1 : 1 ≤ r / f.binade := (Nat.le_div_iff_mul_le hB).2 (by omega)
    have := key (r / f.binade - 1) (f.binade + r % f.binade) (by omega) (Or.inr (by omega))
    have e : (r / f.binade - 1) * f.binade + (f.binade + r % f.binade) = r := by
      obtain ⟨q, hq⟩ : ∃ q, r / f.binade = q + 1 := ⟨r / f.binade - 1, by omega⟩
      rw [hq] at hd ⊢
      rw [Nat.mul_add, Nat.mul_one] at hd
      rw [Nat.add_sub_cancel, Nat.mul_comm]; omega
    rw [e] at this
    exact this

theorem magOf_lt {r s : Nat} (h : r < s) : magOf f r < magOf f s := by
  induction s with
  | zero => omega
  | succ s ih =>
    rcases Nat.lt_or_ge r s with h1 | h1
    · exact Nat.lt_trans (ih h1) (magOf_succ f s)
    · have : r = s := by omega
      subst this; exact magOf_succ f r

theorem magOf_le {r s : Nat} (h : r ≤ s) : magOf f r ≤ magOf f s := by
  rcases Nat.lt_or_ge r s with h1 | h1
  · exact Nat.le_of_lt (magOf_lt f h1)
  · have : r = s := by omega
    subst this; exact Nat.le_refl _

theorem le_of_magOf {r s : Nat} (h : magOf f r ≤ magOf f s) : r ≤ s := by
  rcases Nat.lt_or_ge s r with h1 | h1
  · have := magOf_lt f h1; omega
  · exact h1

theorem magOf_inj {r s : Nat} (h : magOf f r = magOf f s) : r = s :=
  Nat.le_antisymm (le_of_magOf f (Nat.le_of_eq h)) (le_of_magOf f (Nat.le_of_eq h.symm))

theorem magOf_zero : magOf f 0 = 0 := by
  have := binade_pos f
  simp [magOf, sigOf, this]

/-- The rung nearest to N / 2 ^ Q units. -/
def rn (N Q : Nat) : Nat := (N.log2 - (f.fractionBits + Q)) * f.binade + cutAt N (2 ^ (Q + (N.log2 - (f.fractionBits + Q))))

theorem rn_kept (N Q : Nat) :
    cutAt N (2 ^ (Q + (N.log2 - (f.fractionBits + Q)))) ≤ 2 * f.binade ∧
    (N.log2 - (f.fractionBits + Q) = 0 ∨ f.binade ≤ cutAt N (2 ^ (Q + (N.log2 - (f.fractionBits + Q))))) := by
  have hl : N < 2 ^ (N.log2 + 1) := Nat.lt_log2_self
  constructor
  · refine cutAt_le (Nat.two_pow_pos _) ?_
    have e : 2 * f.binade * 2 ^ (Q + (N.log2 - (f.fractionBits + Q))) = 2 ^ (1 + f.fractionBits + (Q + (N.log2 - (f.fractionBits + Q)))) := by
      rw [show f.binade = 2 ^ f.fractionBits from rfl, Nat.pow_add 2 (1 + f.fractionBits), Nat.pow_add 2 1, Nat.pow_one]
    rw [e]
    exact Nat.le_trans (Nat.le_of_lt hl) (Nat.pow_le_pow_right (by omega) (by omega))
  · rcases Nat.eq_zero_or_pos (N.log2 - (f.fractionBits + Q)) with h | h
    · exact Or.inl h
    · refine Or.inr (cutAt_ge (Nat.two_pow_pos _) ?_)
      have hN : N ≠ 0 := by intro e; subst e; simp at h
      have e : f.binade * 2 ^ (Q + (N.log2 - (f.fractionBits + Q))) = 2 ^ (f.fractionBits + (Q + (N.log2 - (f.fractionBits + Q)))) := by
        rw [show f.binade = 2 ^ f.fractionBits from rfl, ← Nat.pow_add]
      rw [e]
      exact (Nat.le_log2 hN).1 (by omega)

theorem magOf_rn (N Q : Nat) : magOf f (rn f N Q) = cutAt N (2 ^ (Q + (N.log2 - (f.fractionBits + Q)))) * 2 ^ (N.log2 - (f.fractionBits + Q)) :=
  magOf_rung f (rn_kept f N Q).1 (rn_kept f N Q).2

theorem magOf_small {r u : Nat} (h : upOf f r < u) : magOf f r < f.binade * 2 ^ u := by
  have h1 := sigOf_lt f r
  unfold magOf
  have h2 : sigOf f r * 2 ^ upOf f r < 2 * f.binade * 2 ^ upOf f r := Nat.mul_lt_mul_of_pos_right h1 (Nat.two_pow_pos _)
  have h3 : 2 * f.binade * 2 ^ upOf f r = f.binade * 2 ^ (upOf f r + 1) := by
    rw [Nat.pow_succ, Nat.mul_comm 2 f.binade, Nat.mul_assoc, Nat.mul_comm 2]
  have h4 : f.binade * 2 ^ (upOf f r + 1) ≤ f.binade * 2 ^ u := Nat.mul_le_mul_left _ (Nat.pow_le_pow_right (by omega) (by omega))
  omega

theorem magOf_split {r u : Nat} (h : u ≤ upOf f r) : ∃ K, magOf f r = K * 2 ^ u :=
  ⟨sigOf f r * 2 ^ (upOf f r - u), by
    unfold magOf
    rw [Nat.mul_assoc, ← Nat.pow_add, Nat.sub_add_cancel h]⟩

theorem rn_le {N Q r : Nat} (h : N ≤ magOf f r * 2 ^ Q) : rn f N Q ≤ r := by
  refine le_of_magOf f ?_
  rw [magOf_rn]
  have hk := rn_kept f N Q
  generalize hu : N.log2 - (f.fractionBits + Q) = u at hk ⊢
  rcases Nat.lt_or_ge (upOf f r) u with hl | hl
  · exfalso
    have hN : N ≠ 0 := by intro e; subst e; simp at hu; omega
    have h1 := magOf_small f hl
    have h2 : 2 ^ (f.fractionBits + u + Q) ≤ N := (Nat.le_log2 hN).1 (by omega)
    have h3 : magOf f r * 2 ^ Q < f.binade * 2 ^ u * 2 ^ Q := Nat.mul_lt_mul_of_pos_right h1 (Nat.two_pow_pos _)
    have h4 : f.binade * 2 ^ u * 2 ^ Q = 2 ^ (f.fractionBits + u + Q) := by rw [Nat.pow_add, Nat.pow_add]; rfl
    omega
  · obtain ⟨K, hK⟩ := magOf_split f hl
    rw [hK] at h ⊢
    refine Nat.mul_le_mul_right _ (cutAt_le (Nat.two_pow_pos _) ?_)
    rw [Nat.pow_add, Nat.mul_comm (2 ^ Q), ← Nat.mul_assoc]; exact h

theorem rn_ge {N Q r : Nat} (h : magOf f r * 2 ^ Q ≤ N) : r ≤ rn f N Q := by
  refine le_of_magOf f ?_
  rw [magOf_rn]
  have hk := rn_kept f N Q
  generalize hu : N.log2 - (f.fractionBits + Q) = u at hk ⊢
  rcases Nat.lt_or_ge (upOf f r) u with hl | hl
  · have h1 := magOf_small f hl
    have h2 : f.binade * 2 ^ u ≤ cutAt N (2 ^ (Q + u)) * 2 ^ u := Nat.mul_le_mul_right _ (by omega)
    omega
  · obtain ⟨K, hK⟩ := magOf_split f hl
    rw [hK] at h ⊢
    refine Nat.mul_le_mul_right _ (cutAt_ge (Nat.two_pow_pos _) ?_)
    rw [Nat.pow_add, Nat.mul_comm (2 ^ Q), ← Nat.mul_assoc]; exact h

theorem rn_exact (r Q : Nat) : rn f (magOf f r * 2 ^ Q) Q = r :=
  Nat.le_antisymm (rn_le f (Nat.le_refl _)) (rn_ge f (Nat.le_refl _))

theorem log2_shift {N k : Nat} (h : N ≠ 0) : (N * 2 ^ k).log2 = N.log2 + k := by
  have hp := Nat.two_pow_pos k
  have h0 : N * 2 ^ k ≠ 0 := Nat.mul_ne_zero h (by omega)
  have a : N.log2 + k ≤ (N * 2 ^ k).log2 := (Nat.le_log2 h0).2 (by
    rw [Nat.pow_add]; exact Nat.mul_le_mul_right _ ((Nat.le_log2 h).1 (Nat.le_refl _)))
  have b : (N * 2 ^ k).log2 < N.log2 + k + 1 := (Nat.log2_lt h0).2 (by
    have : N < 2 ^ (N.log2 + 1) := Nat.lt_log2_self
    have e : N.log2 + k + 1 = N.log2 + 1 + k := by omega
    rw [e, Nat.pow_add]; exact Nat.mul_lt_mul_of_pos_right this hp)
  omega

theorem rn_scale {N k Q : Nat} : rn f (N * 2 ^ k) (Q + k) = rn f N Q := by
  rcases Nat.eq_zero_or_pos N with h | h
  · subst h
    have a : rn f (0 * 2 ^ k) (Q + k) ≤ 0 := rn_le f (by simp)
    have b : rn f 0 Q ≤ 0 := rn_le f (by simp)
    omega
  · unfold rn
    rw [log2_shift (by omega)]
    have e : N.log2 + k - (f.fractionBits + (Q + k)) = N.log2 - (f.fractionBits + Q) := by omega
    rw [e]
    have e2 : Q + k + (N.log2 - (f.fractionBits + Q)) = Q + (N.log2 - (f.fractionBits + Q)) + k := by omega
    rw [e2, Nat.pow_add 2 _ k, cutAt_scale (Nat.two_pow_pos k)]

/-- 'nearest' by rungs: N = mag * 2 ^ P is the magnitude in units of 2 ^ b, where the least place is b + Q. -/
theorem nearest_rn (neg : Bool) (mag : Nat) (place b : Int) (P Q : Nat) (hP : place = b + P) (hQ : f.leastPlace = b + Q) :
    f.nearest neg mag place = f.word neg (min (rn f (mag * 2 ^ P) Q) f.infRung) := by
  unfold Format.nearest
  by_cases h : mag = 0
  · subst h
    have a : rn f (0 * 2 ^ P) Q ≤ 0 := rn_le f (by simp)
    have : rn f (0 * 2 ^ P) Q = 0 := by omega
    simp only [if_true]
    rw [this]; simp
  · rw [if_neg h]
    dsimp only
    rw [cut_eq]
    have hu : (max (place + mag.log2 - f.fractionBits) f.leastPlace - f.leastPlace).toNat = (mag * 2 ^ P).log2 - (f.fractionBits + Q) := by
      rw [log2_shift h]; omega
    have key : cutAt (mag <<< (place - max (place + mag.log2 - f.fractionBits) f.leastPlace).toNat) (2 ^ (max (place + mag.log2 - f.fractionBits) f.leastPlace - place).toNat) = cutAt (mag * 2 ^ P) (2 ^ (Q + ((mag * 2 ^ P).log2 - (f.fractionBits + Q)))) := by
      have hu2 : (mag * 2 ^ P).log2 = mag.log2 + P := log2_shift h
      generalize hl : max (place + mag.log2 - f.fractionBits) f.leastPlace = last at hu ⊢
      rw [← hu, Nat.shiftLeft_eq]
      have hlast : last = b + (Q + (last - f.leastPlace).toNat : Nat) := by omega
      generalize (Q + (last - f.leastPlace).toNat : Nat) = T at hlast ⊢
      subst hlast
      rw [hP]
      rcases Nat.le_total P T with hle | hle
      · have e1 : (b + (P : Int) - (b + (T : Int))).toNat = 0 := by omega
        have e2 : (b + (T : Int) - (b + (P : Int))).toNat = T - P := by omega
        rw [e1, e2]
        have e3 : 2 ^ T = 2 ^ (T - P) * 2 ^ P := by rw [← Nat.pow_add, Nat.sub_add_cancel hle]
        rw [e3, cutAt_scale (Nat.two_pow_pos P)]
        simp
      · have e1 : (b + (P : Int) - (b + (T : Int))).toNat = P - T := by omega
        have e2 : (b + (T : Int) - (b + (P : Int))).toNat = 0 := by omega
        rw [e1, e2]
        have e3 : mag * 2 ^ P = mag * 2 ^ (P - T) * 2 ^ T := by rw [Nat.mul_assoc, ← Nat.pow_add, Nat.sub_add_cancel hle]
        have e4 := cutAt_scale (n := mag * 2 ^ (P - T)) (g := 1) (c := 2 ^ T) (Nat.two_pow_pos T)
        rw [Nat.one_mul] at e4
        rw [e3, e4, Nat.pow_zero]
    rw [key, hu]
    rfl
end
end Go.Proofs.Ytfdgijmmgllmgaa
