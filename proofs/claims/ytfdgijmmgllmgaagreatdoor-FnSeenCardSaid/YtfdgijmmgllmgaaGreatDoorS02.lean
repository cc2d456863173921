/-
  Texts Num NumTwo Cnum Fu, joined.
-/
import Derived.Laws.FloatArith
import Derived.Test.YtfdgijmmgllmgaaGreatDoorS01
namespace Go.Proofs.YtfdgijmmgllmgaaGreatDoor
open Ieee
def cutAt (n gap : Nat) : Nat := n / gap + (decide (gap < 2 * (n % gap)) || (gap == 2 * (n % gap) && n / gap % 2 == 1)).toNat
theorem cut_eq (neg : Bool) (n drop : Nat) : Toward.cut .even neg n drop = cutAt n (2 ^ drop) := by
  unfold Toward.cut cutAt
  simp only [Nat.one_shiftLeft]
  by_cases h : drop ≤ n.log2 + 2
  · rw [Nat.min_eq_left h]
  · rw [Nat.min_eq_right (by omega)]
    have h1 : n < 2 ^ (n.log2 + 1) := Nat.lt_log2_self
    have h2 : 2 ^ (n.log2 + 2) = 2 * 2 ^ (n.log2 + 1) := by rw [Nat.pow_succ, Nat.mul_comm]
    have h3 : 2 ^ (n.log2 + 2) ≤ 2 ^ drop := Nat.pow_le_pow_right (by omega) (by omega)
    have e1 : n / 2 ^ (n.log2 + 2) = 0 := Nat.div_eq_of_lt (by omega)
    have e2 : n / 2 ^ drop = 0 := Nat.div_eq_of_lt (by omega)
    have e3 : n % 2 ^ (n.log2 + 2) = n := Nat.mod_eq_of_lt (by omega)
    have e4 : n % 2 ^ drop = n := Nat.mod_eq_of_lt (by omega)
    rw [e1, e2, e3, e4]
    have d1 : ¬ 2 ^ (n.log2 + 2) < 2 * n := by omega
    have d2 : ¬ 2 ^ drop < 2 * n := by omega
    simp [d1, d2]
theorem cutAt_le {n g K : Nat} (hg : 0 < g) (h : n ≤ K * g) : cutAt n g ≤ K := by
  unfold cutAt
  have hd := Nat.div_add_mod n g
  have hm := Nat.mod_lt n hg
  have hq : n / g ≤ K := Nat.div_le_of_le_mul (by rw [Nat.mul_comm]; exact h)
  rcases Nat.lt_or_ge (n / g) K with hl | hl
  · have : (decide (g < 2 * (n % g)) || (g == 2 * (n % g) && n / g % 2 == 1)).toNat ≤ 1 := Bool.toNat_le _
    omega
  · have e : n / g = K := Nat.le_antisymm hq hl
    rw [e] at hd
    have hr : n % g = 0 := by rw [Nat.mul_comm] at h; omega
    rw [hr, e]
    have d3 : (g == 0) = false := by simp; omega
    simp [d3]
theorem cutAt_ge {n g K : Nat} (hg : 0 < g) (h : K * g ≤ n) : K ≤ cutAt n g := by
  unfold cutAt
  have : K ≤ n / g := (Nat.le_div_iff_mul_le hg).2 h
  omega
theorem cutAt_scale {n g c : Nat} (hc : 0 < c) : cutAt (n * c) (g * c) = cutAt n g := by
  unfold cutAt
  rw [Nat.mul_div_mul_right _ _ hc, Nat.mul_mod_mul_right]
  have e1 : (g * c < 2 * (n % g * c)) ↔ (g < 2 * (n % g)) := by rw [← Nat.mul_assoc, Nat.mul_lt_mul_right hc]
  have e2 : (g * c = 2 * (n % g * c)) ↔ (g = 2 * (n % g)) := by
    rw [← Nat.mul_assoc]; exact ⟨Nat.eq_of_mul_eq_mul_right hc, fun h => by rw [← h]⟩
  have b1 : decide (g * c < 2 * (n % g * c)) = decide (g < 2 * (n % g)) := decide_eq_decide.2 e1
  have b2 : (g * c == 2 * (n % g * c)) = (g == 2 * (n % g)) := by
    rw [Bool.eq_iff_iff]; simp only [beq_iff_eq]; exact e2
  rw [b1, b2]
section
variable (f : Format)
theorem binade_pos : 0 < f.binade := Nat.two_pow_pos _
def sigOf (r : Nat) : Nat := if r < f.binade then r else f.binade + r % f.binade
def upOf (r : Nat) : Nat := r / f.binade - 1
def magOf (r : Nat) : Nat := sigOf f r * 2 ^ upOf f r
theorem sigOf_lt (r : Nat) : sigOf f r < 2 * f.binade := by
  have := binade_pos f
  have := Nat.mod_lt r this
  unfold sigOf; split <;> omega
theorem magOf_rung {u k : Nat} (hk : k ≤ 2 * f.binade) (hu : u = 0 ∨ f.binade ≤ k) : magOf f (u * f.binade + k) = k * 2 ^ u := by
  have hB := binade_pos f
  unfold magOf sigOf upOf
  rcases Nat.lt_or_ge k f.binade with h | h
  · have : u = 0 := by omega
    subst this
    simp [h, Nat.div_eq_of_lt h]
  · rcases Nat.lt_or_ge k (2 * f.binade) with h2 | h2
    · have e1 : (u * f.binade + k) / f.binade = u + 1 := by
        rw [Nat.mul_comm, Nat.mul_add_div hB]
        have : k / f.binade = 1 := by
          have h1 : k / f.binade < 2 := Nat.div_lt_of_lt_mul (by rw [Nat.mul_comm]; exact h2)
          have h3 : 1 ≤ k / f.binade := (Nat.le_div_iff_mul_le hB).2 (by omega)
          omega
        omega
      have e2 : (u * f.binade + k) % f.binade = k - f.binade := by
        rw [Nat.mul_comm, Nat.mul_add_mod]
        rw [Nat.mod_eq_sub_mod h, Nat.mod_eq_of_lt (by omega)]
      have n1 : ¬ u * f.binade + k < f.binade := by omega
      rw [if_neg n1, e1, e2, Nat.add_sub_cancel]
      congr 1; omega
    · have hk2 : k = 2 * f.binade := Nat.le_antisymm hk h2
      subst hk2
      have e0 : u * f.binade + 2 * f.binade = f.binade * (u + 2) := by rw [← Nat.add_mul, Nat.mul_comm]
      have n1 : ¬ f.binade * (u + 2) < f.binade := by
        have : f.binade * 1 ≤ f.binade * (u + 2) := Nat.mul_le_mul_left _ (by omega)
        omega
      rw [e0, if_neg n1, Nat.mul_div_cancel_left _ hB, Nat.mul_mod_right]
      have : u + 2 - 1 = u + 1 := by omega
      rw [this, Nat.pow_succ, Nat.add_zero, Nat.mul_comm 2 f.binade, Nat.mul_assoc, Nat.mul_comm 2 (2 ^ u)]
theorem magOf_succ (r : Nat) : magOf f r < magOf f (r + 1) := by
  have hB := binade_pos f
  -- r = u * B + k with k < 2 B
  have key : ∀ u k, k < 2 * f.binade → (u = 0 ∨ f.binade ≤ k) → magOf f (u * f.binade + k) < magOf f (u * f.binade + k + 1) := by
    intro u k hk hu
    rw [magOf_rung f (by omega) hu, Nat.add_assoc, magOf_rung f (by omega) (by omega)]
    exact Nat.mul_lt_mul_of_pos_right (by omega) (Nat.two_pow_pos _)
  rcases Nat.lt_or_ge r f.binade with h | h
  · have := key 0 r (by omega) (Or.inl rfl)
    simpa using this
  · have hd := Nat.div_add_mod r f.binade
    have hm := Nat.mod_lt r hB
    have h1 : 1 ≤ r / f.binade := (Nat.le_div_iff_mul_le hB).2 (by omega)
    have := key (r / f.binade - 1) (f.binade + r % f.binade) (by omega) (Or.inr (by omega))
    have e : (r / f.binade - 1) * f.binade + (f.binade + r % f.binade) = r := by
      obtain ⟨q, hq⟩ : ∃ q, r / f.binade = q + 1 := ⟨r / f.binade - 1, by omega⟩
      rw [hq] at hd ⊢
      rw [Nat.mul_add, Nat.mul_one] at hd
      rw [Nat.add_sub_cancel, Nat.mul_comm]; omega
    rw [e] at this
    exact this
theorem magOf_lt {r s : Nat} (h : r < s) : magOf f r < magOf f s := by
  induction s with
  | zero => omega
  | succ s ih =>
    rcases Nat.lt_or_ge r s with h1 | h1
    · exact Nat.lt_trans (ih h1) (magOf_succ f s)
    · have : r = s := by omega
      subst this; exact magOf_succ f r
theorem magOf_le {r s : Nat} (h : r ≤ s) : magOf f r ≤ magOf f s := by
  rcases Nat.lt_or_ge r s with h1 | h1
  · exact Nat.le_of_lt (magOf_lt f h1)
  · have : r = s := by omega
    subst this; exact Nat.le_refl _
theorem le_of_magOf {r s : Nat} (h : magOf f r ≤ magOf f s) : r ≤ s := by
  rcases Nat.lt_or_ge s r with h1 | h1
  · have := magOf_lt f h1; omega
  · exact h1
theorem magOf_inj {r s : Nat} (h : magOf f r = magOf f s) : r = s :=
  Nat.le_antisymm (le_of_magOf f (Nat.le_of_eq h)) (le_of_magOf f (Nat.le_of_eq h.symm))
theorem magOf_zero : magOf f 0 = 0 := by
  have := binade_pos f
  simp [magOf, sigOf, this]
def rn (N Q : Nat) : Nat := (N.log2 - (f.fractionBits + Q)) * f.binade + cutAt N (2 ^ (Q + (N.log2 - (f.fractionBits + Q))))
theorem rn_kept (N Q : Nat) :
    cutAt N (2 ^ (Q + (N.log2 - (f.fractionBits + Q)))) ≤ 2 * f.binade ∧
    (N.log2 - (f.fractionBits + Q) = 0 ∨ f.binade ≤ cutAt N (2 ^ (Q + (N.log2 - (f.fractionBits + Q))))) := by
  have hl : N < 2 ^ (N.log2 + 1) := Nat.lt_log2_self
  constructor
  · refine cutAt_le (Nat.two_pow_pos _) ?_
    have e : 2 * f.binade * 2 ^ (Q + (N.log2 - (f.fractionBits + Q))) = 2 ^ (1 + f.fractionBits + (Q + (N.log2 - (f.fractionBits + Q)))) := by
      rw [show f.binade = 2 ^ f.fractionBits from rfl, Nat.pow_add 2 (1 + f.fractionBits), Nat.pow_add 2 1, Nat.pow_one]
    rw [e]
    exact Nat.le_trans (Nat.le_of_lt hl) (Nat.pow_le_pow_right (by omega) (by omega))
  · rcases Nat.eq_zero_or_pos (N.log2 - (f.fractionBits + Q)) with h | h
    · exact Or.inl h
    · refine Or.inr (cutAt_ge (Nat.two_pow_pos _) ?_)
      have hN : N ≠ 0 := by intro e; subst e; simp at h
      have e : f.binade * 2 ^ (Q + (N.log2 - (f.fractionBits + Q))) = 2 ^ (f.fractionBits + (Q + (N.log2 - (f.fractionBits + Q)))) := by
        rw [show f.binade = 2 ^ f.fractionBits from rfl, ← Nat.pow_add]
      rw [e]
      exact (Nat.le_log2 hN).1 (by omega)
theorem magOf_rn (N Q : Nat) : magOf f (rn f N Q) = cutAt N (2 ^ (Q + (N.log2 - (f.fractionBits + Q)))) * 2 ^ (N.log2 - (f.fractionBits + Q)) :=
  magOf_rung f (rn_kept f N Q).1 (rn_kept f N Q).2
theorem magOf_small {r u : Nat} (h : upOf f r < u) : magOf f r < f.binade * 2 ^ u := by
  have h1 := sigOf_lt f r
  unfold magOf
  have h2 : sigOf f r * 2 ^ upOf f r < 2 * f.binade * 2 ^ upOf f r := Nat.mul_lt_mul_of_pos_right h1 (Nat.two_pow_pos _)
  have h3 : 2 * f.binade * 2 ^ upOf f r = f.binade * 2 ^ (upOf f r + 1) := by
    rw [Nat.pow_succ, Nat.mul_comm 2 f.binade, Nat.mul_assoc, Nat.mul_comm 2]
  have h4 : f.binade * 2 ^ (upOf f r + 1) ≤ f.binade * 2 ^ u := Nat.mul_le_mul_left _ (Nat.pow_le_pow_right (by omega) (by omega))
  omega
theorem magOf_split {r u : Nat} (h : u ≤ upOf f r) : ∃ K, magOf f r = K * 2 ^ u :=
  ⟨sigOf f r * 2 ^ (upOf f r - u), by
    unfold magOf
    rw [Nat.mul_assoc, ← Nat.pow_add, Nat.sub_add_cancel h]⟩
theorem rn_le {N Q r : Nat} (h : N ≤ magOf f r * 2 ^ Q) : rn f N Q ≤ r := by
  refine le_of_magOf f ?_
  rw [magOf_rn]
  have hk := rn_kept f N Q
  generalize hu : N.log2 - (f.fractionBits + Q) = u at hk ⊢
  rcases Nat.lt_or_ge (upOf f r) u with hl | hl
  · exfalso
    have hN : N ≠ 0 := by intro e; subst e; simp at hu; omega
    have h1 := magOf_small f hl
    have h2 : 2 ^ (f.fractionBits + u + Q) ≤ N := (Nat.le_log2 hN).1 (by omega)
    have h3 : magOf f r * 2 ^ Q < f.binade * 2 ^ u * 2 ^ Q := Nat.mul_lt_mul_of_pos_right h1 (Nat.two_pow_pos _)
    have h4 : f.binade * 2 ^ u * 2 ^ Q = 2 ^ (f.fractionBits + u + Q) := by rw [Nat.pow_add, Nat.pow_add]; rfl
    omega
  · obtain ⟨K, hK⟩ := magOf_split f hl
    rw [hK] at h ⊢
    refine Nat.mul_le_mul_right _ (cutAt_le (Nat.two_pow_pos _) ?_)
    rw [Nat.pow_add, Nat.mul_comm (2 ^ Q), ← Nat.mul_assoc]; exact h
theorem rn_ge {N Q r : Nat} (h : magOf f r * 2 ^ Q ≤ N) : r ≤ rn f N Q := by
  refine le_of_magOf f ?_
  rw [magOf_rn]
  have hk := rn_kept f N Q
  generalize hu : N.log2 - (f.fractionBits + Q) = u at hk ⊢
  rcases Nat.lt_or_ge (upOf f r) u with hl | hl
  · have h1 := magOf_small f hl
    have h2 : f.binade * 2 ^ u ≤ cutAt N (2 ^ (Q + u)) * 2 ^ u := Nat.mul_le_mul_right _ (by omega)
    omega
  · obtain ⟨K, hK⟩ := magOf_split f hl
    rw [hK] at h ⊢
    refine Nat.mul_le_mul_right _ (cutAt_ge (Nat.two_pow_pos _) ?_)
    rw [Nat.pow_add, Nat.mul_comm (2 ^ Q), ← Nat.mul_assoc]; exact h
theorem rn_exact (r Q : Nat) : rn f (magOf f r * 2 ^ Q) Q = r :=
  Nat.le_antisymm (rn_le f (Nat.le_refl _)) (rn_ge f (Nat.le_refl _))
theorem log2_shift {N k : Nat} (h : N ≠ 0) : (N * 2 ^ k).log2 = N.log2 + k := by
  have hp := Nat.two_pow_pos k
  have h0 : N * 2 ^ k ≠ 0 := Nat.mul_ne_zero h (by omega)
  have a : N.log2 + k ≤ (N * 2 ^ k).log2 := (Nat.le_log2 h0).2 (by
    rw [Nat.pow_add]; exact Nat.mul_le_mul_right _ ((Nat.le_log2 h).1 (Nat.le_refl _)))
  have b : (N * 2 ^ k).log2 < N.log2 + k + 1 := (Nat.log2_lt h0).2 (by
    have : N < 2 ^ (N.log2 + 1) := Nat.lt_log2_self
    have e : N.log2 + k + 1 = N.log2 + 1 + k := by omega
    rw [e, Nat.pow_add]; exact Nat.mul_lt_mul_of_pos_right this hp)
  omega
theorem rn_scale {N k Q : Nat} : rn f (N * 2 ^ k) (Q + k) = rn f N Q := by
  rcases Nat.eq_zero_or_pos N with h | h
  · subst h
    have a : rn f (0 * 2 ^ k) (Q + k) ≤ 0 := rn_le f (by simp)
    have b : rn f 0 Q ≤ 0 := rn_le f (by simp)
    omega
  · unfold rn
    rw [log2_shift (by omega)]
    have e : N.log2 + k - (f.fractionBits + (Q + k)) = N.log2 - (f.fractionBits + Q) := by omega
    rw [e]
    have e2 : Q + k + (N.log2 - (f.fractionBits + Q)) = Q + (N.log2 - (f.fractionBits + Q)) + k := by omega
    rw [e2, Nat.pow_add 2 _ k, cutAt_scale (Nat.two_pow_pos k)]
theorem nearest_rn (neg : Bool) (mag : Nat) (place b : Int) (P Q : Nat) (hP : place = b + P) (hQ : f.leastPlace = b + Q) :
    f.nearest neg mag place = f.word neg (min (rn f (mag * 2 ^ P) Q) f.infRung) := by
  unfold Format.nearest
  by_cases h : mag = 0
  · subst h
    have a : rn f (0 * 2 ^ P) Q ≤ 0 := rn_le f (by simp)
    have : rn f (0 * 2 ^ P) Q = 0 := by omega
    simp only [if_true]
    rw [this]; simp
  · rw [if_neg h]
    dsimp only
    rw [cut_eq]
    have hu : (max (place + mag.log2 - f.fractionBits) f.leastPlace - f.leastPlace).toNat = (mag * 2 ^ P).log2 - (f.fractionBits + Q) := by
      rw [log2_shift h]; omega
    have key : cutAt (mag <<< (place - max (place + mag.log2 - f.fractionBits) f.leastPlace).toNat) (2 ^ (max (place + mag.log2 - f.fractionBits) f.leastPlace - place).toNat) = cutAt (mag * 2 ^ P) (2 ^ (Q + ((mag * 2 ^ P).log2 - (f.fractionBits + Q)))) := by
      have hu2 : (mag * 2 ^ P).log2 = mag.log2 + P := log2_shift h
      generalize hl : max (place + mag.log2 - f.fractionBits) f.leastPlace = last at hu ⊢
      rw [← hu, Nat.shiftLeft_eq]
      have hlast : last = b + (Q + (last - f.leastPlace).toNat : Nat) := by omega
      generalize (Q + (last - f.leastPlace).toNat : Nat) = T at hlast ⊢
      subst hlast
      rw [hP]
      rcases Nat.le_total P T with hle | hle
      · have e1 : (b + (P : Int) - (b + (T : Int))).toNat = 0 := by omega
        have e2 : (b + (T : Int) - (b + (P : Int))).toNat = T - P := by omega
        rw [e1, e2]
        have e3 : 2 ^ T = 2 ^ (T - P) * 2 ^ P := by rw [← Nat.pow_add, Nat.sub_add_cancel hle]
        rw [e3, cutAt_scale (Nat.two_pow_pos P)]
        simp
      · have e1 : (b + (P : Int) - (b + (T : Int))).toNat = P - T := by omega
        have e2 : (b + (T : Int) - (b + (P : Int))).toNat = 0 := by omega
        rw [e1, e2]
        have e3 : mag * 2 ^ P = mag * 2 ^ (P - T) * 2 ^ T := by rw [Nat.mul_assoc, ← Nat.pow_add, Nat.sub_add_cancel hle]
        have e4 := cutAt_scale (n := mag * 2 ^ (P - T)) (g := 1) (c := 2 ^ T) (Nat.two_pow_pos T)
        rw [Nat.one_mul] at e4
        rw [e3, e4, Nat.pow_zero]
    rw [key, hu]
    rfl
end
end Go.Proofs.YtfdgijmmgllmgaaGreatDoor
namespace Go.Proofs.YtfdgijmmgllmgaaGreatDoor
open Ieee
section
variable (f : Format)
def rungOf (w : Nat) : Nat := w % f.signWeight
def negOf (w : Nat) : Bool := w / f.signWeight % 2 == 1
def valOf (w : Nat) : Int := if negOf f w then -(magOf f (rungOf f w) : Int) else (magOf f (rungOf f w) : Int)
theorem rungOf_word (s : Bool) {r : Nat} (h : r < f.signWeight) : rungOf f (f.word s r) = r := by
  unfold rungOf Format.word
  cases s
  · simp [Nat.mod_eq_of_lt h]
  · simp [Nat.mod_eq_of_lt h]
theorem negOf_word (s : Bool) {r : Nat} (h : r < f.signWeight) : negOf f (f.word s r) = s := by
  have hp : 0 < f.signWeight := Nat.two_pow_pos _
  unfold negOf Format.word
  cases s
  · simp [Nat.div_eq_of_lt h]
  · rw [if_pos rfl, Nat.add_div_left _ hp, Nat.div_eq_of_lt h]; rfl
theorem word_of {w : Nat} (h : w < 2 ^ f.width) : f.word (negOf f w) (rungOf f w) = w := by
  have hp : 0 < f.signWeight := Nat.two_pow_pos _
  have two : 2 ^ f.width = 2 * f.signWeight := by
    unfold Format.width Format.signWeight
    rw [Nat.add_assoc, Nat.add_comm 1, Nat.pow_succ, Nat.mul_comm]
  have hd := Nat.div_add_mod w f.signWeight
  have hlt : w / f.signWeight < 2 := Nat.div_lt_of_lt_mul (by omega)
  unfold negOf rungOf Format.word
  have hc : w / f.signWeight = 0 ∨ w / f.signWeight = 1 := by generalize w / f.signWeight = x at hlt; omega
  rcases hc with e | e
  · rw [e] at hd ⊢; simp at hd ⊢; omega
  · rw [e] at hd ⊢; simp at hd ⊢; omega
theorem valOf_word (s : Bool) {r : Nat} (h : r < f.signWeight) : valOf f (f.word s r) = if s then -(magOf f r : Int) else (magOf f r : Int) := by
  unfold valOf; rw [rungOf_word f s h, negOf_word f s h]
theorem read_fin {w : Nat} (h : rungOf f w < f.infRung) :
    f.read w = .number (negOf f w) (sigOf f (rungOf f w)) (f.leastPlace + (upOf f (rungOf f w) : Nat)) := by
  have hB := binade_pos f
  unfold Format.read
  simp only
  show (if rungOf f w < f.binade then _ else _) = _
  by_cases h1 : rungOf f w < f.binade
  · rw [if_pos h1]
    have e1 : sigOf f (rungOf f w) = rungOf f w := by unfold sigOf; rw [if_pos h1]
    have e2 : upOf f (rungOf f w) = 0 := by unfold upOf; rw [Nat.div_eq_of_lt h1]
    rw [e1, e2]; simp [negOf, rungOf]
  · rw [if_neg h1]
    rw [if_pos (show w % f.signWeight < f.infRung from h)]
    have e1 : sigOf f (rungOf f w) = f.binade + rungOf f w % f.binade := by unfold sigOf; rw [if_neg h1]
    rw [e1]; rfl
theorem read_inf {w : Nat} (h : rungOf f w = f.infRung) (hE : 2 ≤ f.exponentBits) : f.read w = .infinity (negOf f w) := by
  unfold Format.read
  simp only
  show (if rungOf f w < f.binade then _ else _) = _
  have hB : f.binade ≤ f.infRung := by
    unfold Format.infRung
    have : 2 ^ 2 ≤ 2 ^ f.exponentBits := Nat.pow_le_pow_right (by omega) hE
    exact Nat.le_mul_of_pos_left _ (by omega)
  rw [if_neg (by omega)]
  have h2 : w % f.signWeight = f.infRung := h
  rw [if_neg (by omega), if_pos h2]; rfl
theorem read_nan {w : Nat} (h : f.infRung < rungOf f w) (hE : 2 ≤ f.exponentBits) : f.read w = .nan (negOf f w) (rungOf f w - f.infRung) := by
  unfold Format.read
  simp only
  show (if rungOf f w < f.binade then _ else _) = _
  have hB : f.binade ≤ f.infRung := by
    unfold Format.infRung
    have : 2 ^ 2 ≤ 2 ^ f.exponentBits := Nat.pow_le_pow_right (by omega) hE
    exact Nat.le_mul_of_pos_left _ (by omega)
  rw [if_neg (by omega)]
  have h2 : f.infRung < w % f.signWeight := h
  rw [if_neg (by omega), if_neg (by omega)]; rfl
theorem signed_scale (s : Bool) (m u : Nat) (c : Nat) (hc : c ≤ u) : signed s m (u - c) * (2 ^ c : Nat) = if s then -((m * 2 ^ u : Nat) : Int) else ((m * 2 ^ u : Nat) : Int) := by
  have e : m * 2 ^ (u - c) * 2 ^ c = m * 2 ^ u := by rw [Nat.mul_assoc, ← Nat.pow_add, Nat.sub_add_cancel hc]
  unfold signed
  rw [Nat.shiftLeft_eq]
  cases s
  · simp only [Bool.false_eq_true, if_false]; exact_mod_cast congrArg (Nat.cast (R := Int)) e
  · simp only [if_true]; rw [Int.neg_mul]; exact_mod_cast congrArg (fun n : Nat => -(n : Int)) e
theorem compare_scale (a b : Int) (c : Nat) (hc : 0 < c) : compare (a * c) (b * c) = compare a b := by
  have hc' : (0 : Int) < c := by omega
  rcases Int.lt_trichotomy a b with h | h | h
  · have h2 : a * c < b * c := Int.mul_lt_mul_of_pos_right h hc'
    simp [compare, compareOfLessAndEq, h, h2]
  · subst h; simp
  · have h2 : b * c < a * c := Int.mul_lt_mul_of_pos_right h hc'
    have n1 : ¬ a < b := by omega
    have n2 : ¬ a * c < b * c := by omega
    have n3 : ¬ a = b := by omega
    have n4 : ¬ a * c = b * c := by omega
    simp [compare, compareOfLessAndEq, n1, n2, n3, n4]
theorem order_fin {w v : Nat} (hw : rungOf f w < f.infRung) (hv : rungOf f v < f.infRung) :
    f.order w v = some (compare (valOf f w) (valOf f v)) := by
  unfold Format.order
  rw [read_fin f hw, read_fin f hv]
  simp only [Datum.order]
  congr 1
  generalize hu1 : upOf f (rungOf f w) = u1
  generalize hu2 : upOf f (rungOf f v) = u2
  have e1 : (f.leastPlace + (u1 : Int) - min (f.leastPlace + (u1 : Int)) (f.leastPlace + (u2 : Int))).toNat = u1 - min u1 u2 := by omega
  have e2 : (f.leastPlace + (u2 : Int) - min (f.leastPlace + (u1 : Int)) (f.leastPlace + (u2 : Int))).toNat = u2 - min u1 u2 := by omega
  rw [e1, e2, ← compare_scale _ _ (2 ^ min u1 u2) (Nat.two_pow_pos _), signed_scale _ _ _ _ (Nat.min_le_left ..), signed_scale _ _ _ _ (Nat.min_le_right ..)]
  unfold valOf magOf
  rw [hu1, hu2]
def roundTo (z : Bool) (T : Int) : Nat := f.word (if T = 0 then z else T < 0) (min (rn f T.natAbs 0) f.infRung)
theorem sum_fin (z s t : Bool) (m n u v : Nat) (hz : z = (s && t)) :
    ((Datum.number s m (f.leastPlace + (u : Nat))).sum (.number t n (f.leastPlace + (v : Nat)))).map f.write =
    some (roundTo f z ((if s then -((m * 2 ^ u : Nat) : Int) else ((m * 2 ^ u : Nat) : Int)) + (if t then -((n * 2 ^ v : Nat) : Int) else ((n * 2 ^ v : Nat) : Int)))) := by
  subst hz
  simp only [Datum.sum, Option.map_some]
  congr 1
  have e1 : (f.leastPlace + (u : Int) - min (f.leastPlace + (u : Int)) (f.leastPlace + (v : Int))).toNat = u - min u v := by omega
  have e2 : (f.leastPlace + (v : Int) - min (f.leastPlace + (u : Int)) (f.leastPlace + (v : Int))).toNat = v - min u v := by omega
  rw [e1, e2, ← signed_scale s m u (min u v) (Nat.min_le_left ..), ← signed_scale t n v (min u v) (Nat.min_le_right ..), ← Int.add_mul]
  generalize signed s m (u - min u v) + signed t n (v - min u v) = T
  unfold Format.write
  dsimp only
  have hp := Nat.two_pow_pos (min u v)
  have hm : min (f.leastPlace + (u : Int)) (f.leastPlace + (v : Int)) = f.leastPlace + (min u v : Nat) := by omega
  rw [hm]
  rw [nearest_rn f _ _ _ f.leastPlace (min u v) 0 (by omega) (by omega)]
  unfold roundTo
  have e3 : (T * ((2 ^ min u v : Nat) : Int)).natAbs = T.natAbs * 2 ^ min u v := by rw [Int.natAbs_mul]; rfl
  have e4 : (T * ((2 ^ min u v : Nat) : Int) = 0) ↔ T = 0 := by
    constructor
    · intro h; rcases Int.mul_eq_zero.1 h with h | h
      · exact h
      · omega
    · intro h; rw [h]; simp
  have e5 : (T * ((2 ^ min u v : Nat) : Int) < 0) ↔ T < 0 := by
    constructor
    · intro h
      by_cases h1 : T < 0
      · exact h1
      · have : 0 ≤ T * ((2 ^ min u v : Nat) : Int) := Int.mul_nonneg (by omega) (by omega)
        omega
    · intro h; exact Int.mul_neg_of_neg_of_pos h (by omega)
  rw [e3]
  simp only [e4, e5]
theorem add_fin {w v : Nat} (hw : rungOf f w < f.infRung) (hv : rungOf f v < f.infRung) :
    f.add w v = some (roundTo f (negOf f w && negOf f v) (valOf f w + valOf f v)) := by
  unfold Format.add
  rw [read_fin f hw, read_fin f hv, sum_fin f _ _ _ _ _ _ _ rfl]
  rfl
theorem sub_fin {w v : Nat} (hw : rungOf f w < f.infRung) (hv : rungOf f v < f.infRung) :
    f.sub w v = some (roundTo f (negOf f w && !negOf f v) (valOf f w - valOf f v)) := by
  unfold Format.sub
  rw [read_fin f hw, read_fin f hv]
  simp only [Datum.opposite]
  rw [sum_fin f _ _ _ _ _ _ _ rfl]
  congr 2
  unfold valOf magOf
  cases negOf f v <;> simp <;> omega
def roundMul (q : Nat) (s : Bool) (N : Nat) : Nat := f.word s (min (rn f N q) f.infRung)
theorem mul_fin {w v q : Nat} (hq : f.leastPlace = -(q : Int)) (hw : rungOf f w < f.infRung) (hv : rungOf f v < f.infRung) :
    f.mul w v = some (roundMul f q (negOf f w ^^ negOf f v) (magOf f (rungOf f w) * magOf f (rungOf f v))) := by
  unfold Format.mul
  rw [read_fin f hw, read_fin f hv]
  simp only [Datum.product, Option.map_some]
  congr 1
  unfold Format.write
  dsimp only
  rw [nearest_rn f _ _ _ (2 * f.leastPlace) (upOf f (rungOf f w) + upOf f (rungOf f v)) q (by omega) (by omega)]
  unfold roundMul magOf
  congr 2
  congr 1
  rw [Nat.pow_add, Nat.mul_assoc, Nat.mul_assoc]
  congr 1
  rw [← Nat.mul_assoc, Nat.mul_comm (sigOf f (rungOf f v)), Nat.mul_assoc]
end
end Go.Proofs.YtfdgijmmgllmgaaGreatDoor
namespace Go.Proofs.YtfdgijmmgllmgaaGreatDoor
open Ieee
abbrev F32 : Format := FloatKind.f32.format
theorem F32_sw : F32.signWeight = 2147483648 := by kernel_rfl
theorem F32_inf : F32.infRung = 2139095040 := by kernel_rfl
theorem F32_bin : F32.binade = 8388608 := by kernel_rfl
theorem F32_lp : F32.leastPlace = -(149 : Nat) := by kernel_rfl
theorem F32_w : 2 ^ F32.width = 4294967296 := by kernel_rfl
theorem F32_eb : 2 ≤ F32.exponentBits := by decide
def Fin32 (x : Nat) : Prop := rungOf F32 x < F32.infRung
theorem fin_of_lt {x : Nat} (h : x < 2139095040) : Fin32 x := by
  unfold Fin32 rungOf
  rw [F32_inf, F32_sw, Nat.mod_eq_of_lt (by omega)]; exact h
theorem rung_of_lt {x : Nat} (h : x < 2147483648) : rungOf F32 x = x := by
  unfold rungOf; rw [F32_sw]; exact Nat.mod_eq_of_lt h
theorem neg_of_lt {x : Nat} (h : x < 2147483648) : negOf F32 x = false := by
  unfold negOf; rw [F32_sw, Nat.div_eq_of_lt h]; rfl
theorem val_of_lt {x : Nat} (h : x < 2147483648) : valOf F32 x = (magOf F32 x : Int) := by
  unfold valOf; rw [rung_of_lt h, neg_of_lt h]; rfl
theorem magOf_pos {r : Nat} (h : 0 < r) : 0 < magOf F32 r := by
  have := magOf_lt F32 h; rw [magOf_zero] at this; exact this
theorem val_zero : valOf F32 0 = 0 := by rw [val_of_lt (by omega), magOf_zero]; rfl
theorem order_zero {x : Nat} (h : Fin32 x) : F32.order x 0 = some (compare (valOf F32 x) 0) := by
  rw [order_fin F32 h (fin_of_lt (by omega)), val_zero]
theorem cmp_eq {a b : Int} : (some (compare a b) == some Ordering.eq) = decide (a = b) := by
  by_cases h : a < b
  · have h1 : ¬ a = b := by omega
    simp [compare, compareOfLessAndEq, h, h1]
  · by_cases h1 : a = b
    · simp [h1]
    · simp [compare, compareOfLessAndEq, h, h1]
theorem cmp_lt {a b : Int} : (some (compare a b) == some Ordering.lt) = decide (a < b) := by
  by_cases h : a < b
  · simp [compare, compareOfLessAndEq, h]
  · by_cases h1 : a = b
    · simp [h1]
    · simp [compare, compareOfLessAndEq, h, h1]
theorem cmp_gt {a b : Int} : (some (compare a b) == some Ordering.gt) = decide (b < a) := by
  by_cases h : a < b
  · have h1 : ¬ b < a := by omega
    simp [compare, compareOfLessAndEq, h, h1]
  · by_cases h1 : a = b
    · simp [h1]
    · have h2 : b < a := by omega
      simp [compare, compareOfLessAndEq, h, h1, h2]
theorem val_eq_zero {x : Nat} : valOf F32 x = 0 ↔ rungOf F32 x = 0 := by
  unfold valOf
  have key : magOf F32 (rungOf F32 x) = 0 ↔ rungOf F32 x = 0 := by
    constructor
    · intro h
      rcases Nat.eq_zero_or_pos (rungOf F32 x) with h1 | h1
      · exact h1
      · have := magOf_pos h1; omega
    · intro h; rw [h, magOf_zero]
  rw [← key]
  split <;> omega
theorem val_le_max {x : Nat} (h : Fin32 x) : -(magOf F32 2139095039 : Int) ≤ valOf F32 x ∧ valOf F32 x ≤ (magOf F32 2139095039 : Int) := by
  have h1 : rungOf F32 x ≤ 2139095039 := by have h2 : rungOf F32 x < F32.infRung := h; rw [F32_inf] at h2; omega
  have h3 := magOf_le F32 h1
  unfold valOf
  split <;> omega
theorem single_fin {x : Nat} (h : Fin32 x) : singleB x = true := by
  have hm := val_le_max h
  have f1 : Fin32 4286578687 := by unfold Fin32 rungOf; rw [F32_inf, F32_sw]; decide
  have f2 : Fin32 2139095039 := fin_of_lt (by omega)
  have v1 : valOf F32 4286578687 = -(magOf F32 2139095039 : Int) := by
    have e1 : rungOf F32 4286578687 = 2139095039 := by unfold rungOf; rw [F32_sw]
    have e2 : negOf F32 4286578687 = true := by unfold negOf; rw [F32_sw]; rfl
    unfold valOf; rw [e1, e2]; rfl
  have v2 := val_of_lt (x := 2139095039) (by omega)
  unfold singleB
  rw [order_fin F32 h f1, order_fin F32 h f2, v1, v2]
  simp only [cmp_eq, cmp_lt, cmp_gt]
  simp only [Bool.and_eq_true, Bool.or_eq_true, decide_eq_true_eq]
  omega
theorem set_clean {x : Nat} (h : Fin32 x) : setB x = cleanB x := by
  unfold setB cleanB
  rw [single_fin h, Bool.and_true]
  cases h1 : (F32.order x 0 == some Ordering.eq)
  · have h2 : (F32.order x 0 != some Ordering.eq) = true := by rw [bne, h1]; rfl
    rw [if_pos h2, if_neg (by simp)]
  · have h2 : (F32.order x 0 != some Ordering.eq) = false := by rw [bne, h1]; rfl
    rw [if_neg (by rw [h2]; simp), if_pos rfl]
theorem clean_eq {x : Nat} (h : Fin32 x) : cleanB x = if rungOf F32 x = 0 then 0 else x := by
  unfold cleanB
  show (if (F32.order x 0 == some Ordering.eq) = true then _ else _) = _
  rw [order_zero h, cmp_eq]
  simp only [decide_eq_true_eq, val_eq_zero]
theorem fin_word (s : Bool) {r : Nat} (h : r < 2139095040) : Fin32 (F32.word s r) := by
  unfold Fin32
  rw [rungOf_word F32 s (by rw [F32_sw]; omega), F32_inf]; exact h
theorem rn_zero (Q : Nat) : rn F32 0 Q = 0 := by
  have := rn_le F32 (N := 0) (Q := Q) (r := 0) (by simp); omega
theorem sub_self {x : Nat} (h : Fin32 x) : F32.sub x x = some 0 := by
  rw [sub_fin F32 h h]
  have e : (negOf F32 x && !negOf F32 x) = false := by cases negOf F32 x <;> rfl
  rw [e, Int.sub_self]
  unfold roundTo
  simp [rn_zero, Format.word]
theorem roundTo_eq (z : Bool) (T : Int) {R : Nat} (hR : R < 2139095040) (h : T.natAbs ≤ magOf F32 R) :
    roundTo F32 z T = F32.word (if T = 0 then z else T < 0) (rn F32 T.natAbs 0) ∧ rn F32 T.natAbs 0 ≤ R := by
  have h1 : rn F32 T.natAbs 0 ≤ R := rn_le F32 (by simpa using h)
  refine ⟨?_, h1⟩
  unfold roundTo
  rw [Nat.min_eq_left (by rw [F32_inf]; omega)]
theorem roundMul_eq (q : Nat) (s : Bool) (N : Nat) {R : Nat} (hR : R < 2139095040) (h : N ≤ magOf F32 R * 2 ^ q) :
    roundMul F32 q s N = F32.word s (rn F32 N q) ∧ rn F32 N q ≤ R := by
  have h1 : rn F32 N q ≤ R := rn_le F32 h
  refine ⟨?_, h1⟩
  unfold roundMul
  rw [Nat.min_eq_left (by rw [F32_inf]; omega)]
end Go.Proofs.YtfdgijmmgllmgaaGreatDoor
namespace Go.Proofs.YtfdgijmmgllmgaaGreatDoor
open Go.ChangeShapes Go.WideShapes Go.ChangeAt Go.RowKit Go.Joins
set_option linter.unusedSimpArgs false
set_option linter.unusedVariables false
set_option maxRecDepth 100000
attribute [local go_sem] store_f
open Ieee
def ngB (x : Nat) : Nat := if rungOf F32 x = 0 then 0 else F32.word (!negOf F32 x) (rungOf F32 x)
structure Cl (x : Nat) : Prop where
  fin : Fin32 x
  lt : x < 4294967296
  zero : rungOf F32 x = 0 → x = 0
theorem mag_unit : magOf F32 1065353216 = 2 ^ 149 := by decide +kernel
theorem rung_m1 : rungOf F32 3212836864 = 1065353216 := by decide +kernel
theorem neg_m1 : negOf F32 3212836864 = true := by decide +kernel
theorem rung_m0 : rungOf F32 2147483648 = 0 := by decide +kernel
theorem fin_rung {x : Nat} (h : Fin32 x) : rungOf F32 x < 2139095040 := by
  have h2 : rungOf F32 x < F32.infRung := h
  rw [F32_inf] at h2; exact h2
theorem clean_w (s : Bool) {r : Nat} (h : r < 2139095040) : cleanB (F32.word s r) = if r = 0 then 0 else F32.word s r := by
  rw [clean_eq (fin_word s h), rungOf_word F32 s (by rw [F32_sw]; omega)]
theorem cl_zero : Cl 0 := ⟨fin_of_lt (by omega), by omega, fun _ => rfl⟩
theorem cl_clean {x : Nat} (h : Fin32 x) (hx : x < 4294967296) : Cl (cleanB x) := by
  rw [clean_eq h]
  by_cases h0 : rungOf F32 x = 0
  · rw [if_pos h0]; exact cl_zero
  · rw [if_neg h0]; exact ⟨h, hx, fun h1 => absurd h1 h0⟩
theorem word_lt (s : Bool) {r : Nat} (h : r < 2147483648) : F32.word s r < 4294967296 := by
  have e : F32.word s r = (if s then 2147483648 else 0) + r := by
    unfold Format.word; rw [F32_sw]; cases s <;> simp
  rw [e]; cases s <;> simp <;> omega
theorem cl_ng {x : Nat} (h : Fin32 x) : Cl (ngB x) := by
  have hr := fin_rung h
  unfold ngB
  by_cases h0 : rungOf F32 x = 0
  · rw [if_pos h0]; exact cl_zero
  · rw [if_neg h0]
    refine ⟨fin_word _ hr, word_lt _ (by omega), fun h1 => ?_⟩
    rw [rungOf_word F32 _ (by rw [F32_sw]; omega)] at h1
    exact absurd h1 h0
theorem ng_ng {x : Nat} (h : Cl x) : ngB (ngB x) = x := by
  have hr := fin_rung h.fin
  unfold ngB
  by_cases h0 : rungOf F32 x = 0
  · rw [if_pos h0, h.zero h0]; decide +kernel
  · rw [if_neg h0, rungOf_word F32 _ (by rw [F32_sw]; omega), negOf_word F32 _ (by rw [F32_sw]; omega), if_neg h0, Bool.not_not]
    exact word_of F32 (by rw [F32_w]; exact h.lt)
theorem mul_unit {x : Nat} (h : Fin32 x) (hx : x < 4294967296) : ∃ r, F32.mul x 1065353216 = some r ∧ setB r = cleanB x := by
  have hr := fin_rung h
  have e := mul_fin F32 (q := 149) F32_lp h (fin_of_lt (x := 1065353216) (by omega))
  rw [rung_of_lt (x := 1065353216) (by omega), neg_of_lt (x := 1065353216) (by omega), mag_unit, Bool.xor_false] at e
  obtain ⟨e1, _⟩ := roundMul_eq 149 (negOf F32 x) (magOf F32 (rungOf F32 x) * 2 ^ 149) (R := rungOf F32 x) hr (Nat.le_refl _)
  rw [e1, rn_exact, word_of F32 (by rw [F32_w]; exact hx)] at e
  exact ⟨_, e, set_clean h⟩
theorem mul_munit {x : Nat} (h : Fin32 x) : ∃ r, F32.mul x 3212836864 = some r ∧ setB r = ngB x := by
  have hr := fin_rung h
  have f1 : Fin32 3212836864 := by unfold Fin32; rw [rung_m1, F32_inf]; decide
  have e := mul_fin F32 (q := 149) F32_lp h f1
  rw [rung_m1, neg_m1, mag_unit, Bool.xor_true] at e
  obtain ⟨e1, _⟩ := roundMul_eq 149 (!negOf F32 x) (magOf F32 (rungOf F32 x) * 2 ^ 149) (R := rungOf F32 x) hr (Nat.le_refl _)
  rw [e1, rn_exact] at e
  exact ⟨_, e, by rw [set_clean (fin_word _ hr), clean_w _ hr]; rfl⟩
theorem mul_none {x y : Nat} (h : Fin32 x) (hy : y = 0 ∨ y = 2147483648) : ∃ r, F32.mul x y = some r ∧ setB r = 0 := by
  have f0 : Fin32 y := by
    rcases hy with rfl | rfl
    · exact fin_of_lt (by omega)
    · unfold Fin32; rw [rung_m0, F32_inf]; decide
  have r0 : rungOf F32 y = 0 := by
    rcases hy with rfl | rfl
    · exact rung_of_lt (by omega)
    · exact rung_m0
  have e := mul_fin F32 (q := 149) F32_lp h f0
  rw [r0, magOf_zero, Nat.mul_zero] at e
  obtain ⟨e1, _⟩ := roundMul_eq 149 (negOf F32 x ^^ negOf F32 y) 0 (R := 0) (by omega) (by omega)
  rw [e1, rn_zero] at e
  exact ⟨_, e, by rw [set_clean (fin_word _ (by omega)), clean_w _ (by omega)]; rfl⟩
theorem rn_self {x : Nat} : rn F32 (valOf F32 x).natAbs 0 = rungOf F32 x := by
  have h := rn_exact F32 (rungOf F32 x) 0
  simp only [Nat.pow_zero, Nat.mul_one] at h
  have e : (valOf F32 x).natAbs = magOf F32 (rungOf F32 x) := by unfold valOf; split <;> omega
  rw [e]; exact h
theorem sign_val {x : Nat} (h : Cl x) (z : Bool) (hz : x = 0 → z = false) : (if valOf F32 x = 0 then z else decide (valOf F32 x < 0)) = negOf F32 x := by
  by_cases h0 : rungOf F32 x = 0
  · have := h.zero h0
    subst this
    rw [if_pos val_zero, hz rfl, neg_of_lt (by omega)]
  · have h1 : ¬ valOf F32 x = 0 := fun h => h0 (val_eq_zero.1 h)
    rw [if_neg h1]
    have := magOf_pos (r := rungOf F32 x) (by omega)
    unfold valOf
    cases negOf F32 x <;> simp <;> omega
theorem add_none {x : Nat} (h : Cl x) : ∃ r, F32.add x 0 = some r ∧ setB r = x := by
  have hr := fin_rung h.fin
  have e := add_fin F32 h.fin (fin_of_lt (x := 0) (by omega))
  rw [val_zero, Int.add_zero, neg_of_lt (x := 0) (by omega), Bool.and_false] at e
  obtain ⟨e1, _⟩ := roundTo_eq false (valOf F32 x) (R := rungOf F32 x) hr (by unfold valOf; split <;> omega)
  rw [e1, rn_self, sign_val h false (fun _ => rfl), word_of F32 (by rw [F32_w]; exact h.lt)] at e
  refine ⟨_, e, ?_⟩
  rw [set_clean h.fin, clean_eq h.fin]
  by_cases h0 : rungOf F32 x = 0
  · rw [if_pos h0, h.zero h0]
  · rw [if_neg h0]
theorem none_add {x : Nat} (h : Cl x) : ∃ r, F32.add 0 x = some r ∧ setB r = x := by
  have hr := fin_rung h.fin
  have e := add_fin F32 (fin_of_lt (x := 0) (by omega)) h.fin
  rw [val_zero, Int.zero_add, neg_of_lt (x := 0) (by omega), Bool.false_and] at e
  obtain ⟨e1, _⟩ := roundTo_eq false (valOf F32 x) (R := rungOf F32 x) hr (by unfold valOf; split <;> omega)
  rw [e1, rn_self, sign_val h false (fun _ => rfl), word_of F32 (by rw [F32_w]; exact h.lt)] at e
  refine ⟨_, e, ?_⟩
  rw [set_clean h.fin, clean_eq h.fin]
  by_cases h0 : rungOf F32 x = 0
  · rw [if_pos h0, h.zero h0]
  · rw [if_neg h0]
end Go.Proofs.YtfdgijmmgllmgaaGreatDoor
