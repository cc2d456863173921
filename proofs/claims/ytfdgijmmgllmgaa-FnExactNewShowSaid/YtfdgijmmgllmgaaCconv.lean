/-
  Singles as doubles and back: exact one way; a product of two singles reckoned in doubles is rounded once.
-/
import Derived.Test.YtfdgijmmgllmgaaCop
namespace Go.Proofs.Ytfdgijmmgllmgaa
open Ieee

abbrev F64 : Format := FloatKind.f64.format
theorem F64_sw : F64.signWeight = 9223372036854775808 := by kernel_rfl
theorem F64_inf : F64.infRung = 9218868437227405312 := by kernel_rfl
theorem F64_bin : F64.binade = 4503599627370496 := by kernel_rfl
theorem F64_lp : F64.leastPlace = -(1074 : Nat) := by kernel_rfl
theorem F64_eb : 2 ≤ F64.exponentBits := by decide
def Fin64 (x : Nat) : Prop := rungOf F64 x < F64.infRung

/-- A number with no more digits than the format keeps is not rounded. -/
theorem mag_exact (f : Format) {m P : Nat} (h : m < 2 * f.binade) : magOf f (rn f (m * 2 ^ P) 0) = m * 2 ^ P := by
  rcases Nat.eq_zero_or_pos m with e | e
  · subst e
    have : rn f (0 * 2 ^ P) 0 ≤ 0 := rn_le f (by simp)
    have : rn f (0 * 2 ^ P) 0 = 0 := by omega
    rw [this, magOf_zero]; simp
  · rw [magOf_rn, log2_shift (by omega)]
    have h1 : m.log2 ≤ f.fractionBits := by
      have : m.log2 < f.fractionBits + 1 := (Nat.log2_lt (by omega)).2 (by rw [Nat.pow_succ, Nat.mul_comm]; exact h)
      omega
    generalize hu : m.log2 + P - (f.fractionBits + 0) = u
    have hle : u ≤ P := by omega
    have e2 : m * 2 ^ P = m * 2 ^ (P - u) * 2 ^ u := by rw [Nat.mul_assoc, ← Nat.pow_add, Nat.sub_add_cancel hle]
    rw [e2, Nat.zero_add]
    have h2 := cutAt_le (n := m * 2 ^ (P - u) * 2 ^ u) (g := 2 ^ u) (K := m * 2 ^ (P - u)) (Nat.two_pow_pos u) (Nat.le_refl _)
    have h3 := cutAt_ge (n := m * 2 ^ (P - u) * 2 ^ u) (g := 2 ^ u) (K := m * 2 ^ (P - u)) (Nat.two_pow_pos u) (Nat.le_refl _)
    rw [Nat.le_antisymm h2 h3]

theorem up_le {x : Nat} (h : Fin32 x) : upOf F32 (rungOf F32 x) ≤ 253 := by
  have h1 : rungOf F32 x < F32.infRung := h
  unfold upOf
  rw [F32_inf] at h1
  rw [F32_bin]
  omega

theorem sig_lt (x : Nat) : sigOf F32 (rungOf F32 x) < 16777216 := by
  have := sigOf_lt F32 (rungOf F32 x)
  rw [F32_bin] at this
  omega

/-- The rung of a finite single as a double; of a product of two magnitudes of singles. -/
def wrung (x : Nat) : Nat := rn F64 (magOf F32 (rungOf F32 x) * 2 ^ 925) 0
def prung (N : Nat) : Nat := rn F64 (N * 2 ^ 776) 0

theorem one_scale (s u k : Nat) : s * 2 ^ u * 2 ^ k = s * 2 ^ (u + k) := by rw [Nat.mul_assoc, ← Nat.pow_add]
theorem two_scales (x y a b c : Nat) (h : a + a = b + c) : x * 2 ^ a * (y * 2 ^ a) = x * y * 2 ^ b * 2 ^ c := by
  rw [Nat.mul_assoc (x * y), ← Nat.pow_add, Nat.mul_assoc x, Nat.mul_left_comm (2 ^ a), ← Nat.pow_add, ← Nat.mul_assoc, h]
theorem two_sigs (s t u v k : Nat) : s * 2 ^ u * (t * 2 ^ v) * 2 ^ k = s * t * 2 ^ (u + v + k) := by
  simp only [Nat.pow_add]; ac_rfl
theorem rn_scale0 (f : Format) (N k : Nat) : rn f (N * 2 ^ k) k = rn f N 0 := by
  have := rn_scale f (N := N) (k := k) (Q := 0)
  rw [Nat.zero_add] at this; exact this

/-- The bits of a finite single as a double. -/
def wide (x : Nat) : Nat := F64.word (negOf F32 x) (wrung x)

theorem wide_rn {x : Nat} (h : Fin32 x) : wrung x ≤ 5188146770730811392 ∧ magOf F64 (wrung x) = magOf F32 (rungOf F32 x) * 2 ^ 925 := by
  have hs := sig_lt x
  have hu := up_le h
  have e : magOf F32 (rungOf F32 x) * 2 ^ 925 = sigOf F32 (rungOf F32 x) * 2 ^ (upOf F32 (rungOf F32 x) + 925) := one_scale _ _ 925
  constructor
  · unfold wrung
    refine rn_le F64 ?_
    rw [e, Nat.pow_zero, Nat.mul_one]
    have h1 := Nat.mul_le_mul (Nat.le_of_lt hs) (Nat.pow_le_pow_right (n := 2) (by decide) (Nat.add_le_add_right hu 925))
    have h2 : 16777216 * 2 ^ (253 + 925) ≤ magOf F64 5188146770730811392 := by decide +kernel
    exact Nat.le_trans h1 h2
  · unfold wrung
    rw [e]
    exact mag_exact F64 (by rw [F64_bin]; omega)

theorem wide_fin {x : Nat} (h : Fin32 x) : Fin64 (wide x) := by
  unfold Fin64 wide
  have := (wide_rn h).1
  rw [rungOf_word F64 _ (by rw [F64_sw]; omega), F64_inf]
  omega

theorem wide_rung {x : Nat} (h : Fin32 x) : rungOf F64 (wide x) = wrung x := by
  unfold wide
  have := (wide_rn h).1
  rw [rungOf_word F64 _ (by rw [F64_sw]; omega)]

theorem wide_neg {x : Nat} (h : Fin32 x) : negOf F64 (wide x) = negOf F32 x := by
  unfold wide
  have := (wide_rn h).1
  rw [negOf_word F64 _ (by rw [F64_sw]; omega)]

theorem wide_mag {x : Nat} (h : Fin32 x) : magOf F64 (rungOf F64 (wide x)) = magOf F32 (rungOf F32 x) * 2 ^ 925 := by
  rw [wide_rung h]; exact (wide_rn h).2

theorem not_inf64 {s : Bool} {r : Nat} (h : r < 9218868437227405312) : (F64.read (F64.word s r)).isInfinity = false := by
  have : rungOf F64 (F64.word s r) < F64.infRung := by rw [rungOf_word F64 s (by rw [F64_sw]; omega), F64_inf]; exact h
  rw [read_fin F64 this]; rfl

/-- 'float64(x)'. -/
theorem wide_bits {x : Nat} (h : Fin32 x) : floatToFloatBits .f32 x .f64 = some (wide x) := by
  have e : F64.write (.number (negOf F32 x) (sigOf F32 (rungOf F32 x)) (F32.leastPlace + (upOf F32 (rungOf F32 x) : Nat))) = wide x := by
    show F64.nearest _ _ _ = _
    rw [nearest_rn F64 _ _ _ F64.leastPlace (upOf F32 (rungOf F32 x) + 925) 0 (by rw [F32_lp, F64_lp]; omega) (by omega)]
    have e2 : sigOf F32 (rungOf F32 x) * 2 ^ (upOf F32 (rungOf F32 x) + 925) = magOf F32 (rungOf F32 x) * 2 ^ 925 := (one_scale _ _ 925).symm
    rw [e2]
    show F64.word (negOf F32 x) (min (wrung x) F64.infRung) = _
    rw [Nat.min_eq_left (by have := (wide_rn h).1; rw [F64_inf]; omega)]
    rfl
  have hni : (F64.read (wide x)).isInfinity = false := not_inf64 (by have := (wide_rn h).1; omega)
  unfold floatToFloatBits
  rw [if_neg (by decide)]
  have hr : FloatKind.f32.decode x = .number (negOf F32 x) (sigOf F32 (rungOf F32 x)) (F32.leastPlace + (upOf F32 (rungOf F32 x) : Nat)) := read_fin F32 h
  rw [hr]
  show (if (F64.read (F64.write _)).isInfinity = true then none else some (F64.write _)) = _
  rw [e, hni]; rfl

theorem not_inf32 {s : Bool} {r : Nat} (h : r < 2139095040) : (F32.read (F32.word s r)).isInfinity = false := by
  have : rungOf F32 (F32.word s r) < F32.infRung := fin_word s h
  rw [read_fin F32 this]; rfl

/-- 'float32(float64(a) * float64(b))' is 'a * b', for parts. -/
theorem wide_mul {a b : Nat} (ha : Part a) (hb : Part b) :
    ∃ z r, F64.mul (wide a) (wide b) = some z ∧ floatToFloatBits .f64 z .f32 = some r ∧ F32.mul a b = some r := by
  have fa := ha.fin
  have fb := hb.fin
  have e1 := mul_fin F64 (q := 1074) F64_lp (wide_fin fa) (wide_fin fb)
  rw [wide_neg fa, wide_neg fb, wide_mag fa, wide_mag fb] at e1
  have eN : magOf F32 (rungOf F32 a) * 2 ^ 925 * (magOf F32 (rungOf F32 b) * 2 ^ 925) = (pm a * pm b * 2 ^ 776) * 2 ^ 1074 := two_scales _ _ 925 776 1074 (by omega)
  have hscale : rn F64 ((pm a * pm b * 2 ^ 776) * 2 ^ 1074) 1074 = prung (pm a * pm b) := rn_scale0 F64 _ 1074
  have hbound : pm a * pm b * 2 ^ 776 ≤ magOf F64 4607182418800017408 := by
    have h1 : pm a * pm b ≤ 2 ^ 149 * 2 ^ 149 := Nat.mul_le_mul ha.pm_le hb.pm_le
    have h2 : 2 ^ 149 * 2 ^ 149 * 2 ^ 776 ≤ magOf F64 4607182418800017408 := by decide +kernel
    exact Nat.le_trans (Nat.mul_le_mul_right _ h1) h2
  have hle : prung (pm a * pm b) ≤ 4607182418800017408 := rn_le F64 (by rw [Nat.pow_zero, Nat.mul_one]; exact hbound)
  have hexact : magOf F64 (prung (pm a * pm b)) = pm a * pm b * 2 ^ 776 := by
    have e : pm a * pm b * 2 ^ 776 = sigOf F32 (rungOf F32 a) * sigOf F32 (rungOf F32 b) * 2 ^ (upOf F32 (rungOf F32 a) + upOf F32 (rungOf F32 b) + 776) := two_sigs _ _ _ _ 776
    unfold prung
    rw [e]
    refine mag_exact F64 ?_
    have h1 := sig_lt a
    have h2 := sig_lt b
    have : sigOf F32 (rungOf F32 a) * sigOf F32 (rungOf F32 b) ≤ 16777216 * 16777216 := Nat.mul_le_mul (by omega) (by omega)
    rw [F64_bin]; omega
  rw [eN] at e1
  have e1' : F64.mul (wide a) (wide b) = some (F64.word (negOf F32 a ^^ negOf F32 b) (prung (pm a * pm b))) := by
    rw [e1]
    unfold roundMul
    rw [hscale, Nat.min_eq_left (by rw [F64_inf]; omega)]
  have e32 := mul_fin F32 (q := 149) F32_lp fa fb
  have hN : pm a * pm b ≤ magOf F32 (rungOf F32 a) * 2 ^ 149 := Nat.mul_le_mul_left _ hb.pm_le
  have hra := ha.rung
  obtain ⟨r1, l1⟩ := roundMul_eq 149 (negOf F32 a ^^ negOf F32 b) (pm a * pm b) (R := rungOf F32 a) (by omega) hN
  refine ⟨_, F32.word (negOf F32 a ^^ negOf F32 b) (rn F32 (pm a * pm b) 149), e1', ?_, e32.trans (congrArg some r1)⟩
  have hz : rungOf F64 (F64.word (negOf F32 a ^^ negOf F32 b) (prung (pm a * pm b))) = prung (pm a * pm b) := rungOf_word F64 _ (by rw [F64_sw]; omega)
  have hzn : negOf F64 (F64.word (negOf F32 a ^^ negOf F32 b) (prung (pm a * pm b))) = (negOf F32 a ^^ negOf F32 b) := negOf_word F64 _ (by rw [F64_sw]; omega)
  have hzf : rungOf F64 (F64.word (negOf F32 a ^^ negOf F32 b) (prung (pm a * pm b))) < F64.infRung := by rw [hz, F64_inf]; omega
  unfold floatToFloatBits
  rw [if_neg (by decide)]
  have hr : FloatKind.f64.decode (F64.word (negOf F32 a ^^ negOf F32 b) (prung (pm a * pm b))) = .number (negOf F32 a ^^ negOf F32 b) (sigOf F64 (prung (pm a * pm b))) (F64.leastPlace + (upOf F64 (prung (pm a * pm b)) : Nat)) := by
    have := read_fin F64 hzf
    rw [hz, hzn] at this
    exact this
  rw [hr]
  have e : F32.write (.number (negOf F32 a ^^ negOf F32 b) (sigOf F64 (prung (pm a * pm b))) (F64.leastPlace + (upOf F64 (prung (pm a * pm b)) : Nat))) = F32.word (negOf F32 a ^^ negOf F32 b) (rn F32 (pm a * pm b) 149) := by
    show F32.nearest _ _ _ = _
    rw [nearest_rn F32 _ _ _ F64.leastPlace (upOf F64 (prung (pm a * pm b))) 925 rfl (by rw [F32_lp, F64_lp]; omega)]
    have e2 : sigOf F64 (prung (pm a * pm b)) * 2 ^ upOf F64 (prung (pm a * pm b)) = pm a * pm b * 2 ^ 776 := hexact
    have e3 : rn F32 (pm a * pm b * 2 ^ 776) 925 = rn F32 (pm a * pm b) 149 := rn_scale F32 (N := pm a * pm b) (k := 776) (Q := 149)
    rw [e2, e3, Nat.min_eq_left (by rw [F32_inf]; omega)]
  have hni : (F32.read (F32.word (negOf F32 a ^^ negOf F32 b) (rn F32 (pm a * pm b) 149))).isInfinity = false := not_inf32 (by omega)
  show (if (F32.read (F32.write _)).isInfinity = true then none else some (F32.write _)) = _
  rw [e, hni]; rfl

/-- A double holds against itself. -/
theorem wide_same {x : Nat} (h : Fin32 x) : F64.order (wide x) (wide x) = some .eq := by
  rw [order_fin F64 (wide_fin h) (wide_fin h)]; simp

theorem zero64_fin : rungOf F64 0 < F64.infRung := by unfold rungOf; rw [F64_sw, F64_inf]; decide

/-- What is 0 is the double +0 where it has no sign. -/
theorem wide_zero {x : Nat} (h : Fin32 x) (hx : x < 2147483648) : F64.order (wide x) 0 = some .eq → wide x = 0 := by
  intro he
  rw [order_fin F64 (wide_fin h) zero64_fin] at he
  have hv : valOf F64 0 = 0 := by
    unfold valOf rungOf negOf
    rw [F64_sw]; simp [magOf_zero]
  have hn : negOf F32 x = false := neg_of_lt hx
  have hval : valOf F64 (wide x) = (magOf F64 (rungOf F64 (wide x)) : Int) := by
    unfold valOf; rw [wide_neg h, hn]; rfl
  rw [hv, hval] at he
  have h0 : (magOf F64 (rungOf F64 (wide x)) : Int) = 0 := by
    have : (some (compare (magOf F64 (rungOf F64 (wide x)) : Int) 0) == some Ordering.eq) = true := by rw [he]; rfl
    rw [cmp_eq] at this; simpa using this
  have h1 : rungOf F64 (wide x) = 0 := magOf_inj F64 (by rw [magOf_zero]; omega)
  rw [wide_rung h] at h1
  unfold wide
  rw [h1, hn]; rfl
end Go.Proofs.Ytfdgijmmgllmgaa
