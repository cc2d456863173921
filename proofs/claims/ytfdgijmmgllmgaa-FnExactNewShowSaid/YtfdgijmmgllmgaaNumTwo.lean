/- Words of a binary format as signed magnitudes; sums, differences, products and comparisons of finite words. -/
import Derived.Test.YtfdgijmmgllmgaaNum
namespace Go.Proofs.Ytfdgijmmgllmgaa
open Ieee

section
variable (f : Format)

def rungOf (w : Nat) : Nat := w % f.signWeight
def negOf (w : Nat) : Bool := w / f.signWeight % 2 == 1
/-- The signed magnitude of a word, in units of the least place. -/
def valOf (w : Nat) : Int := if negOf f w then -(magOf f (rungOf f w) : Int) else (magOf f (rungOf f w) : Int)

theorem rungOf_word (s : Bool) {r : Nat} (h : r < f.signWeight) : rungOf f (f.word s r) = r := by
  unfold rungOf Format.word
  cases s
  · simp [Nat.mod_eq_of_lt h]
  · simp [Nat.mod_eq_of_lt h]

theorem negOf_word (s : Bool) {r : Nat} (h : r < f.signWeight) : negOf f (f.word s r) = s := by
  have hp : 0 < f.signWeight := Nat.two_pow_pos _
  unfold negOf Format.word
  cases s
  · simp [Nat.div_eq_of_lt h]
  · rw [if_pos rfl, Nat.add_div_left _ hp, Nat.div_eq_of_lt h]; rfl

theorem word_of {w : Nat} (h : w < 2 ^ f.width) : f.word (negOf f w) (rungOf f w) = w := by
  have hp : 0 < f.signWeight := Nat.two_pow_pos _
  have two : 2 ^ f.width = 2 * f.signWeight := by
    unfold Format.width Format.signWeight
    rw [Nat.add_assoc, Nat.add_comm 1, Nat.pow_succ, Nat.mul_comm]
  have hd := Nat.div_add_mod w f.signWeight
  have hlt : w / f.signWeight < 2 := Nat.div_lt_of_lt_mul (by omega)
  unfold negOf rungOf Format.word
  have hc : w / f.signWeight = 0 ∨ w / f.signWeight = 1 := by generalize w / f.signWeight = x at hlt; omega
  rcases hc with e | e
  · rw [e] at hd ⊢; simp at hd ⊢; omega
  · rw [e] at hd ⊢; simp at hd ⊢; omega

theorem infRung_lt : f.infRung < f.signWeight := f.infRung_lt

theorem valOf_word (s : Bool) {r : Nat} (h : r < f.signWeight) : valOf f (f.word s r) = if s then -(magOf f r : Int) else (magOf f r : Int) := by
  unfold valOf; rw [rungOf_word f s h, negOf_word f s h]

theorem read_fin {w : Nat} (h : rungOf f w < f.infRung) :
    f.read w = .number (negOf f w) (sigOf f (rungOf f w)) (f.leastPlace + (upOf f (rungOf f w) : Nat)) := by
  have hB := binade_pos f
  unfold Format.read
  simp only
  show (if rungOf f w < f.binade then _ else _) = _
  by_cases h1 : rungOf f w < f.binade
  · rw [if_pos h1]
    have e1 : sigOf f (rungOf f w) = rungOf f w := by unfold sigOf; rw [if_pos h1]
    have e2 : upOf f (rungOf f w) = 0 := by unfold upOf; rw [Nat.div_eq_of_lt h1]
    rw [e1, e2]; simp [negOf, rungOf]
  · rw [if_neg h1]
    rw [if_pos (show w % f.signWeight < f.infRung from h)]
    have e1 : sigOf f (rungOf f w) = f.binade + rungOf f w % f.binade := by unfold sigOf; rw [if_neg h1]
    rw [e1]; rfl

theorem read_inf {w : Nat} (h : rungOf f w = f.infRung) (hE : 2 ≤ f.exponentBits) : f.read w = .infinity (negOf f w) := by
  unfold Format.read
  simp only
  show (if rungOf f w < f.binade then _ else _) = _
  have hB : f.binade ≤ f.infRung := by
    unfold Format.infRung
    have : 2 ^ 2 ≤ 2 ^ f.exponentBits := Nat.pow_le_pow_right (by omega) hE
    exact Nat.le_mul_of_pos_left _ (by omega)
  rw [if_neg (by omega)]
  have h2 : w % f.signWeight = f.infRung := h
  rw [if_neg (by omega), if_pos h2]; rfl

theorem read_nan {w : Nat} (h : f.infRung < rungOf f w) (hE : 2 ≤ f.exponentBits) : f.read w = .nan (negOf f w) (rungOf f w - f.infRung) := by
  unfold Format.read
  simp only
  show (if rungOf f w < f.binade then _ else _) = _
  have hB : f.binade ≤ f.infRung := by
    unfold Format.infRung
    have : 2 ^ 2 ≤ 2 ^ f.exponentBits := Nat.pow_le_pow_right (by omega) hE
    exact Nat.le_mul_of_pos_left _ (by omega)
  rw [if_neg (by omega)]
  have h2 : f.infRung < w % f.signWeight := h
  rw [if_neg (by omega), if_neg (by omega)]; rfl

theorem signed_scale (s : Bool) (m u : Nat) (c : Nat) (hc : c ≤ u) : signed s m (u - c) * (2 ^ c : Nat) = if s then -((m * 2 ^ u : Nat) : Int) else ((m * 2 ^ u : Nat) : Int) := by
  have e : m * 2 ^ (u - c) * 2 ^ c = m * 2 ^ u := by rw [Nat.mul_assoc, ← Nat.pow_add, Nat.sub_add_cancel hc]
  unfold signed
  rw [Nat.shiftLeft_eq]
  cases s
  · simp only [Bool.false_eq_true, if_false]; exact_mod_cast congrArg (Nat.cast (R := Int)) e
  · simp only [if_true]; rw [Int.neg_mul]; exact_mod_cast congrArg (fun n : Nat => -(n : Int)) e

theorem compare_scale (a b : Int) (c : Nat) (hc : 0 < c) : compare (a * c) (b * c) = compare a b := by
  have hc' : (0 : Int) < c := by omega
  rcases Int.lt_trichotomy a b with h | h | h
  · have h2 : a * c < b * c := Int.mul_lt_mul_of_pos_right h hc'
    simp [compare, compareOfLessAndEq, h, h2]
  · subst h; simp
  · have h2 : b * c < a * c := Int.mul_lt_mul_of_pos_right h hc'
    have n1 : ¬ a < b := by omega
    have n2 : ¬ a * c < b * c := by omega
    have n3 : ¬ a = b := by omega
    have n4 : ¬ a * c = b * c := by omega
    simp [compare, compareOfLessAndEq, n1, n2, n3, n4]

theorem order_fin {w v : Nat} (hw : rungOf f w < f.infRung) (hv : rungOf f v < f.infRung) :
    f.order w v = some (compare (valOf f w) (valOf f v)) := by
  unfold Format.order
  rw [read_fin f hw, read_fin f hv]
  simp only [Datum.order]
  congr 1
  generalize hu1 : upOf f (rungOf f w) = u1
  generalize hu2 : upOf f (rungOf f v) = u2
  have e1 : (f.leastPlace + (u1 : Int) - min (f.leastPlace + (u1 : Int)) (f.leastPlace + (u2 : Int))).toNat = u1 - min u1 u2 := by omega
  have e2 : (f.leastPlace + (u2 : Int) - min (f.leastPlace + (u1 : Int)) (f.leastPlace + (u2 : Int))).toNat = u2 - min u1 u2 := by omega
  rw [e1, e2, ← compare_scale _ _ (2 ^ min u1 u2) (Nat.two_pow_pos _), signed_scale _ _ _ _ (Nat.min_le_left ..), signed_scale _ _ _ _ (Nat.min_le_right ..)]
  unfold valOf magOf
  rw [hu1, hu2]

/-- A signed number of units, rounded; 'z' is the sign of a zero. -/
def roundTo (z : Bool) (T : Int) : Nat := f.word (if T = 0 then z else T < 0) (min (rn f T.natAbs 0) f.infRung)

theorem sum_fin (z s t : Bool) (m n u v : Nat) (hz : z = (s && t)) :
    ((Datum.number s m (f.leastPlace + (u : Nat))).sum (.number t n (f.leastPlace + (v : Nat)))).map f.write =
    some (roundTo f z ((if s then -((m * 2 ^ u : Nat) : Int) else ((m * 2 ^ u : Nat) : Int)) + (if t then -((n * 2 ^ v : Nat) : Int) else ((n * 2 ^ v : Nat) : Int)))) := by
  subst hz
  simp only [Datum.sum, Option.map_some]
  congr 1
  have e1 : (f.leastPlace + (u : Int) - min (f.leastPlace + (u : Int)) (f.leastPlace + (v : Int))).toNat = u - min u v := by omega
  have e2 : (f.leastPlace + (v : Int) - min (f.leastPlace + (u : Int)) (f.leastPlace + (v : Int))).toNat = v - min u v := by omega
  rw [e1, e2, ← signed_scale s m u (min u v) (Nat.min_le_left ..), ← signed_scale t n v (min u v) (Nat.min_le_right ..), ← Int.add_mul]
  generalize signed s m (u - min u v) + signed t n (v - min u v) = T
  unfold Format.write
  dsimp only
  have hp := Nat.two_pow_pos (min u v)
  have hm : min (f.leastPlace + (u : Int)) (f.leastPlace + (v : Int)) = f.leastPlace + (min u v : Nat) := by omega
  rw [hm]
  rw [nearest_rn f _ _ _ f.leastPlace (min u v) 0 (by omega) (by omega)]
  unfold roundTo
  have e3 : (T * ((2 ^ min u v : Nat) : Int)).natAbs = T.natAbs * 2 ^ min u v := by rw [Int.natAbs_mul]; rfl
  have e4 : (T * ((2 ^ min u v : Nat) : Int) = 0) ↔ T = 0 := by
    constructor
    · intro h; rcases Int.mul_eq_zero.1 h with h | h
      · exact h
      · omega
    · intro h; rw [h]; simp
  have e5 : (T * ((2 ^ min u v : Nat) : Int) < 0) ↔ T < 0 := by
    constructor
    · intro h
      by_cases h1 : T < 0
      · exact h1
      · have : 0 ≤ T * ((2 ^ min u v : Nat) : Int) := Int.mul_nonneg (by omega) (by omega)
        omega
    · intro h; exact Int.mul_neg_of_neg_of_pos h (by omega)
  rw [e3]
  simp only [e4, e5]

theorem add_fin {w v : Nat} (hw : rungOf f w < f.infRung) (hv : rungOf f v < f.infRung) :
    f.add w v = some (roundTo f (negOf f w && negOf f v) (valOf f w + valOf f v)) := by
  unfold Format.add
  rw [read_fin f hw, read_fin f hv, sum_fin f _ _ _ _ _ _ _ rfl]
  rfl

theorem sub_fin {w v : Nat} (hw : rungOf f w < f.infRung) (hv : rungOf f v < f.infRung) :
    f.sub w v = some (roundTo f (negOf f w && !negOf f v) (valOf f w - valOf f v)) := by
  unfold Format.sub
  rw [read_fin f hw, read_fin f hv]
  simp only [Datum.opposite]
  rw [sum_fin f _ _ _ _ _ _ _ rfl]
  congr 2
  unfold valOf magOf
  cases negOf f v <;> simp <;> omega

/-- The product of two magnitudes, each in units, rounded; the least place is -q. -/
def roundMul (q : Nat) (s : Bool) (N : Nat) : Nat := f.word s (min (rn f N q) f.infRung)

theorem mul_fin {w v q : Nat} (hq : f.leastPlace = -(q : Int)) (hw : rungOf f w < f.infRung) (hv : rungOf f v < f.infRung) :
    f.mul w v = some (roundMul f q (negOf f w ^^ negOf f v) (magOf f (rungOf f w) * magOf f (rungOf f v))) := by
  unfold Format.mul
  rw [read_fin f hw, read_fin f hv]
  simp only [Datum.product, Option.map_some]
  congr 1
  unfold Format.write
  dsimp only
  rw [nearest_rn f _ _ _ (2 * f.leastPlace) (upOf f (rungOf f w) + upOf f (rungOf f v)) q (by omega) (by omega)]
  unfold roundMul magOf
  congr 2
  congr 1
  rw [Nat.pow_add, Nat.mul_assoc, Nat.mul_assoc]
  congr 1
  rw [← Nat.mul_assoc, Nat.mul_comm (sigOf f (rungOf f v)), Nat.mul_assoc]
end
end Go.Proofs.Ytfdgijmmgllmgaa
