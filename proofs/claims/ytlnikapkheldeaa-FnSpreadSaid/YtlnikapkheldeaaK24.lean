/-
  Texts of this proof, joined: Cconv, Cs, Ct.
-/
import Derived.Test.YtlnikapkheldeaaK21
import Derived.Test.YtlnikapkheldeaaK11
/-
  Singles as doubles and back: exact one way; a product of two singles reckoned in doubles is rounded once.
-/
namespace Go.Proofs.Ytlnikapkheldeaa
open Ieee

abbrev F64 : Format := FloatKind.f64.format
theorem F64_sw : F64.signWeight = 9223372036854775808 := by kernel_rfl
theorem F64_inf : F64.infRung = 9218868437227405312 := by kernel_rfl
theorem F64_bin : F64.binade = 4503599627370496 := by kernel_rfl
theorem F64_lp : F64.leastPlace = -(1074 : Nat) := by kernel_rfl
theorem F64_eb : 2 ≤ F64.exponentBits := by decide
def Fin64 (x : Nat) : Prop := rungOf F64 x < F64.infRung

/-- A number with no more digits than the format keeps is not rounded. -/
theorem mag_exact (f : Format) {m P : Nat} (h : m < 2 * f.binade) : magOf f (rn f (m * 2 ^ P) 0) = m * 2 ^ P := by
  rcases Nat.eq_zero_or_pos m with e | e
  · subst e
    have : rn f (0 * 2 ^ P) 0 ≤ 0 := rn_le f (by simp)
    have : rn f (0 * 2 ^ P) 0 = 0 := by omega
    rw [this, magOf_zero]; simp
  · rw [magOf_rn, log2_shift (by omega)]
    have h1 : m.log2 ≤ f.fractionBits := by
      have : m.log2 < f.fractionBits + 1 := (Nat.log2_lt (by omega)).2 (by rw [Nat.pow_succ, Nat.mul_comm]; exact h)
      omega
    generalize hu : m.log2 + P - (f.fractionBits + 0) = u
    have hle : u ≤ P := by omega
    have e2 : m * 2 ^ P = m * 2 ^ (P - u) * 2 ^ u := by rw [Nat.mul_assoc, ← Nat.pow_add, Nat.sub_add_cancel hle]
    rw [e2, Nat.zero_add]
    have h2 := cutAt_le (n := m * 2 ^ (P - u) * 2 ^ u) (g := 2 ^ u) (K := m * 2 ^ (P - u)) (Nat.two_pow_pos u) (Nat.le_refl _)
    have h3 := cutAt_ge (n := m * 2 ^ (P - u) * 2 ^ u) (g := 2 ^ u) (K := m * 2 ^ (P - u)) (Nat.two_pow_pos u) (Nat.le_refl _)
    rw [Nat.le_antisymm h2 h3]

theorem up_le {x : Nat} (h : Fin32 x) : upOf F32 (rungOf F32 x) ≤ 253 := by
  have h1 : rungOf F32 x < F32.infRung := h
  unfold upOf
  rw [F32_inf] at h1
  rw [F32_bin]
  omega

theorem sig_lt (x : Nat) : sigOf F32 (rungOf F32 x) < 16777216 := by
  have := sigOf_lt F32 (rungOf F32 x)
  rw [F32_bin] at this
  omega

/-- The rung of a finite single as a double; of a product of two magnitudes of singles. -/
def wrung (x : Nat) : Nat := rn F64 (magOf F32 (rungOf F32 x) * 2 ^ 925) 0
def prung (N : Nat) : Nat := rn F64 (N * 2 ^ 776) 0

theorem one_scale (s u k : Nat) : s * 2 ^ u * 2 ^ k = s * 2 ^ (u + k) := by rw [Nat.mul_assoc, ← Nat.pow_add]
theorem two_scales (x y a b c : Nat) (h : a + a = b + c) : x * 2 ^ a * (y * 2 ^ a) = x * y * 2 ^ b * 2 ^ c := by
  rw [Nat.mul_assoc (x * y), ← Nat.pow_add, Nat.mul_assoc x, Nat.mul_left_comm (2 ^ a), ← Nat.pow_add, ← Nat.mul_assoc, h]
theorem two_sigs (s t u v k : Nat) : s * 2 ^ u * (t * 2 ^ v) * 2 ^ k = s * t * 2 ^ (u + v + k) := by
  simp only [Nat.pow_add]; ac_rfl
theorem rn_scale0 (f : Format) (N k : Nat) : rn f (N * 2 ^ k) k = rn f N 0 := by
  have := rn_scale f (N := N) (k := k) (Q := 0)
  rw [Nat.zero_add] at this; exact this

/-- The bits of a finite single as a double. -/
def wide (x : Nat) : Nat := F64.word (negOf F32 x) (wrung x)

theorem wide_rn {x : Nat} (h : Fin32 x) : wrung x ≤ 5188146770730811392 ∧ magOf F64 (wrung x) = magOf F32 (rungOf F32 x) * 2 ^ 925 := by
  have hs := sig_lt x
  have hu := up_le h
  have e : magOf F32 (rungOf F32 x) * 2 ^ 925 = sigOf F32 (rungOf F32 x) * 2 ^ (upOf F32 (rungOf F32 x) + 925) := one_scale _ _ 925
  constructor
  · unfold wrung
    refine rn_le F64 ?_
    rw [e, Nat.pow_zero, Nat.mul_one]
    have h1 := Nat.mul_le_mul (Nat.le_of_lt hs) (Nat.pow_le_pow_right (n := 2) (by decide) (Nat.add_le_add_right hu 925))
    have h2 : 16777216 * 2 ^ (253 + 925) ≤ magOf F64 5188146770730811392 := by decide +kernel
    exact Nat.le_trans h1 h2
  · unfold wrung
    rw [e]
    exact mag_exact F64 (by rw [F64_bin]; omega)

theorem wide_fin {x : Nat} (h : Fin32 x) : Fin64 (wide x) := by
  unfold Fin64 wide
  have := (wide_rn h).1
  rw [rungOf_word F64 _ (by rw [F64_sw]; omega), F64_inf]
  omega

theorem wide_rung {x : Nat} (h : Fin32 x) : rungOf F64 (wide x) = wrung x := by
  unfold wide
  have := (wide_rn h).1
  rw [rungOf_word F64 _ (by rw [F64_sw]; omega)]

theorem wide_neg {x : Nat} (h : Fin32 x) : negOf F64 (wide x) = negOf F32 x := by
  unfold wide
  have := (wide_rn h).1
  rw [negOf_word F64 _ (by rw [F64_sw]; omega)]

theorem wide_mag {x : Nat} (h : Fin32 x) : magOf F64 (rungOf F64 (wide x)) = magOf F32 (rungOf F32 x) * 2 ^ 925 := by
  rw [wide_rung h]; exact (wide_rn h).2

theorem not_inf64 {s : Bool} {r : Nat} (h : r < 9218868437227405312) : (F64.read (F64.word s r)).isInfinity = false := by
  have : rungOf F64 (F64.word s r) < F64.infRung := by rw [rungOf_word F64 s (by rw [F64_sw]; omega), F64_inf]; exact h
  rw [read_fin F64 this]; rfl

/-- 'float64(x)'. -/
theorem wide_bits {x : Nat} (h : Fin32 x) : floatToFloatBits .f32 x .f64 = some (wide x) := by
  have e : F64.write (.number (negOf F32 x) (sigOf F32 (rungOf F32 x)) (F32.leastPlace + (upOf F32 (rungOf F32 x) : Nat))) = wide x := by
    show F64.nearest _ _ _ = _
    rw [nearest_rn F64 _ _ _ F64.leastPlace (upOf F32 (rungOf F32 x) + 925) 0 (by rw [F32_lp, F64_lp]; omega) (by omega)]
    have e2 : sigOf F32 (rungOf F32 x) * 2 ^ (upOf F32 (rungOf F32 x) + 925) = magOf F32 (rungOf F32 x) * 2 ^ 925 := (one_scale _ _ 925).symm
    rw [e2]
    show F64.word (negOf F32 x) (min (wrung x) F64.infRung) = _
    rw [Nat.min_eq_left (by have := (wide_rn h).1; rw [F64_inf]; omega)]
    rfl
  have hni : (F64.read (wide x)).isInfinity = false := not_inf64 (by have := (wide_rn h).1; omega)
  unfold floatToFloatBits
  rw [if_neg (by decide)]
  have hr : FloatKind.f32.decode x = .number (negOf F32 x) (sigOf F32 (rungOf F32 x)) (F32.leastPlace + (upOf F32 (rungOf F32 x) : Nat)) := read_fin F32 h
  rw [hr]
  show (if (F64.read (F64.write _)).isInfinity = true then none else some (F64.write _)) = _
  rw [e, hni]; rfl

theorem not_inf32 {s : Bool} {r : Nat} (h : r < 2139095040) : (F32.read (F32.word s r)).isInfinity = false := by
  have : rungOf F32 (F32.word s r) < F32.infRung := fin_word s h
  rw [read_fin F32 this]; rfl

/-- 'float32(float64(a) * float64(b))' is 'a * b', for parts. -/
theorem wide_mul {a b : Nat} (ha : Part a) (hb : Part b) :
    ∃ z r, F64.mul (wide a) (wide b) = some z ∧ floatToFloatBits .f64 z .f32 = some r ∧ F32.mul a b = some r := by
  have fa := ha.fin
  have fb := hb.fin
  have e1 := mul_fin F64 (q := 1074) F64_lp (wide_fin fa) (wide_fin fb)
  rw [wide_neg fa, wide_neg fb, wide_mag fa, wide_mag fb] at e1
  have eN : magOf F32 (rungOf F32 a) * 2 ^ 925 * (magOf F32 (rungOf F32 b) * 2 ^ 925) = (pm a * pm b * 2 ^ 776) * 2 ^ 1074 := two_scales _ _ 925 776 1074 (by omega)
  have hscale : rn F64 ((pm a * pm b * 2 ^ 776) * 2 ^ 1074) 1074 = prung (pm a * pm b) := rn_scale0 F64 _ 1074
  have hbound : pm a * pm b * 2 ^ 776 ≤ magOf F64 4607182418800017408 := by
    have h1 : pm a * pm b ≤ 2 ^ 149 * 2 ^ 149 := Nat.mul_le_mul ha.pm_le hb.pm_le
    have h2 : 2 ^ 149 * 2 ^ 149 * 2 ^ 776 ≤ magOf F64 4607182418800017408 := by decide +kernel
    exact Nat.le_trans (Nat.mul_le_mul_right _ h1) h2
  have hle : prung (pm a * pm b) ≤ 4607182418800017408 := rn_le F64 (by rw [Nat.pow_zero, Nat.mul_one]; exact hbound)
  have hexact : magOf F64 (prung (pm a * pm b)) = pm a * pm b * 2 ^ 776 := by
    have e : pm a * pm b * 2 ^ 776 = sigOf F32 (rungOf F32 a) * sigOf F32 (rungOf F32 b) * 2 ^ (upOf F32 (rungOf F32 a) + upOf F32 (rungOf F32 b) + 776) := two_sigs _ _ _ _ 776
    unfold prung
    rw [e]
    refine mag_exact F64 ?_
    have h1 := sig_lt a
    have h2 := sig_lt b
    have : sigOf F32 (rungOf F32 a) * sigOf F32 (rungOf F32 b) ≤ 16777216 * 16777216 := Nat.mul_le_mul (by omega) (by omega)
    rw [F64_bin]; omega
  rw [eN] at e1
  have e1' : F64.mul (wide a) (wide b) = some (F64.word (negOf F32 a ^^ negOf F32 b) (prung (pm a * pm b))) := by
    rw [e1]
    unfold roundMul
    rw [hscale, Nat.min_eq_left (by rw [F64_inf]; omega)]
  have e32 := mul_fin F32 (q := 149) F32_lp fa fb
  have hN : pm a * pm b ≤ magOf F32 (rungOf F32 a) * 2 ^ 149 := Nat.mul_le_mul_left _ hb.pm_le
  have hra := ha.rung
  obtain ⟨r1, l1⟩ := roundMul_eq 149 (negOf F32 a ^^ negOf F32 b) (pm a * pm b) (R := rungOf F32 a) (by omega) hN
  refine ⟨_, F32.word (negOf F32 a ^^ negOf F32 b) (rn F32 (pm a * pm b) 149), e1', ?_, e32.trans (congrArg some r1)⟩
  have hz : rungOf F64 (F64.word (negOf F32 a ^^ negOf F32 b) (prung (pm a * pm b))) = prung (pm a * pm b) := rungOf_word F64 _ (by rw [F64_sw]; omega)
  have hzn : negOf F64 (F64.word (negOf F32 a ^^ negOf F32 b) (prung (pm a * pm b))) = (negOf F32 a ^^ negOf F32 b) := negOf_word F64 _ (by rw [F64_sw]; omega)
  have hzf : rungOf F64 (F64.word (negOf F32 a ^^ negOf F32 b) (prung (pm a * pm b))) < F64.infRung := by rw [hz, F64_inf]; omega
  unfold floatToFloatBits
  rw [if_neg (by decide)]
  have hr : FloatKind.f64.decode (F64.word (negOf F32 a ^^ negOf F32 b) (prung (pm a * pm b))) = .number (negOf F32 a ^^ negOf F32 b) (sigOf F64 (prung (pm a * pm b))) (F64.leastPlace + (upOf F64 (prung (pm a * pm b)) : Nat)) := by
    have := read_fin F64 hzf
    rw [hz, hzn] at this
    exact this
  rw [hr]
  have e : F32.write (.number (negOf F32 a ^^ negOf F32 b) (sigOf F64 (prung (pm a * pm b))) (F64.leastPlace + (upOf F64 (prung (pm a * pm b)) : Nat))) = F32.word (negOf F32 a ^^ negOf F32 b) (rn F32 (pm a * pm b) 149) := by
    show F32.nearest _ _ _ = _
    rw [nearest_rn F32 _ _ _ F64.leastPlace (upOf F64 (prung (pm a * pm b))) 925 rfl (by rw [F32_lp, F64_lp]; omega)]
    have e2 : sigOf F64 (prung (pm a * pm b)) * 2 ^ upOf F64 (prung (pm a * pm b)) = pm a * pm b * 2 ^ 776 := hexact
    have e3 : rn F32 (pm a * pm b * 2 ^ 776) 925 = rn F32 (pm a * pm b) 149 := rn_scale F32 (N := pm a * pm b) (k := 776) (Q := 149)
    rw [e2, e3, Nat.min_eq_left (by rw [F32_inf]; omega)]
  have hni : (F32.read (F32.word (negOf F32 a ^^ negOf F32 b) (rn F32 (pm a * pm b) 149))).isInfinity = false := not_inf32 (by omega)
  show (if (F32.read (F32.write _)).isInfinity = true then none else some (F32.write _)) = _
  rw [e, hni]; rfl

/-- A double holds against itself. -/
theorem wide_same {x : Nat} (h : Fin32 x) : F64.order (wide x) (wide x) = some .eq := by
  rw [order_fin F64 (wide_fin h) (wide_fin h)]; simp

theorem zero64_fin : rungOf F64 0 < F64.infRung := by unfold rungOf; rw [F64_sw, F64_inf]; decide

/-- What is 0 is the double +0 where it has no sign. -/
theorem wide_zero {x : Nat} (h : Fin32 x) (hx : x < 2147483648) : F64.order (wide x) 0 = some .eq → wide x = 0 := by
  intro he
  rw [order_fin F64 (wide_fin h) zero64_fin] at he
  have hv : valOf F64 0 = 0 := by
    unfold valOf rungOf negOf
    rw [F64_sw]; simp [magOf_zero]
  have hn : negOf F32 x = false := neg_of_lt hx
  have hval : valOf F64 (wide x) = (magOf F64 (rungOf F64 (wide x)) : Int) := by
    unfold valOf; rw [wide_neg h, hn]; rfl
  rw [hv, hval] at he
  have h0 : (magOf F64 (rungOf F64 (wide x)) : Int) = 0 := by
    have : (some (compare (magOf F64 (rungOf F64 (wide x)) : Int) 0) == some Ordering.eq) = true := by rw [he]; rfl
    rw [cmp_eq] at this; simpa using this
  have h1 : rungOf F64 (wide x) = 0 := magOf_inj F64 (by rw [magOf_zero]; omega)
  rw [wide_rung h] at h1
  unfold wide
  rw [h1, hn]; rfl
end Go.Proofs.Ytlnikapkheldeaa

/-
  Operations on parts: contracts of both sides, by one and the same whole-number answer.
-/
namespace Go.Proofs.Ytlnikapkheldeaa
open Go.ChangeShapes Go.WideShapes Go.ChangeAt Go.RowKit Go.Joins
set_option linter.unusedSimpArgs false
set_option linter.unusedVariables false
set_option maxRecDepth 100000
attribute [local go_sem] store_f

theorem productOf_p {a b : Nat} (ha : Part a) (hb : Part b) (w : World) :
    Calls Try.prog 81 #[.float .f32 a, .float .f32 b] w fun e w' => e = .returned (.float .f32 (mulB a b)) ∧ w' = w := by
  obtain ⟨r, e, hf, _⟩ := mul_part ha hb
  have h := productOf_i a b r w e
  rw [set_clean hf] at h
  have e2 : mulB a b = cleanB r := by unfold mulB; rw [e]; rfl
  rw [e2]; exact h

theorem l1Times_p {a b : Nat} (ha : Part a) (hb : Part b) (w : World) :
    Calls Try.prog 201 #[.float .f32 a, .float .f32 b] w fun e w' => e = .returned (.float .f32 (mulB a b)) ∧ w' = w := by
  obtain ⟨r, e, hf, _⟩ := mul_part ha hb
  have h := l1Times_s a b r w e (sub_self hf)
  have e2 : mulB a b = cleanB r := by unfold mulB; rw [e]; rfl
  rw [e2]; exact h

theorem differenceOf_p {a b : Nat} (ha : Part a) (hb : Part b) (w : World) :
    Calls Try.prog 175 #[.float .f32 a, .float .f32 b] w fun e w' => e = .returned (.float .f32 (subB a b)) ∧ w' = w := by
  obtain ⟨r, e, hf, _⟩ := sub_part ha hb
  have h := differenceOf_i a b r w e
  rw [set_clean hf] at h
  have e2 : subB a b = cleanB r := by unfold subB; rw [e]; rfl
  rw [e2]; exact h

theorem l1Minus_p {a b : Nat} (ha : Part a) (hb : Part b) (w : World) :
    Calls Try.prog 163 #[.float .f32 a, .float .f32 b] w fun e w' => e = .returned (.float .f32 (subB a b)) ∧ w' = w := by
  obtain ⟨r, e, hf, _⟩ := sub_part ha hb
  have h := l1Minus_s a b r w e (sub_self hf)
  have e2 : subB a b = cleanB r := by unfold subB; rw [e]; rfl
  rw [e2]; exact h

theorem sumOf_p {a b : Nat} (ha : Part a) (hb : Part b) (w : World) :
    Calls Try.prog 80 #[.float .f32 a, .float .f32 b] w fun e w' => e = .returned (.float .f32 (addB a b)) ∧ w' = w := by
  obtain ⟨r, e, hf, _⟩ := add_part ha hb
  have h := sumOf_i a b r w e
  rw [set_clean hf] at h
  have e2 : addB a b = cleanB r := by unfold addB; rw [e]; rfl
  rw [e2]; exact h

theorem l1Plus_p {a b : Nat} (ha : Part a) (hb : Part b) (w : World) :
    Calls Try.prog 162 #[.float .f32 a, .float .f32 b] w fun e w' => e = .returned (.float .f32 (addB a b)) ∧ w' = w := by
  obtain ⟨r, e, hf, _⟩ := add_part ha hb
  have h := l1Plus_s a b r w e (sub_self hf)
  have e2 : addB a b = cleanB r := by unfold addB; rw [e]; rfl
  rw [e2]; exact h

theorem filterPart_i {a b : Nat} (ha : Part a) (hb : Part b) (w : World) :
    Calls Try.prog 180 #[.agg #[.float .f32 a, .float .f32 b]] w fun e w' => e = .returned (.float .f32 (mulB a b)) ∧ Below w.heap.size w w' := by
  have K : Hid (∀ w : World, Calls Try.prog 81 #[.float .f32 a, .float .f32 b] w fun e w' => e = .returned (.float .f32 (mulB a b)) ∧ w' = w) := fun w => productOf_p ha hb w
  clear ha hb
  go_enter Try.func180, Try.ntmps180
  go_wp2_with (go_at_call 81; refine (K.out _).mono ?_; rintro e w1 ⟨rfl, rfl⟩)
  go_returns; exact ⟨rfl, by (repeat' (first | (with_reducible exact Below.refl _ _) | (with_reducible assumption) | (with_reducible refine Below.alloc ?_ ?_ _) | (with_reducible refine Below.drew ?_) | (with_reducible refine Below.setCell ?_ ?_ _) | (with_reducible refine Below.trans ?_ (Below.mono (by assumption) ?_)) | (with_reducible exact Nat.le_refl _) | omega | (simp only [World.size_alloc, World.size_setCell, World.size_drew]; omega) | (simp; omega) | (simp; done)))⟩

theorem pairsOf_i (a b c x y z : Nat) (w : World) :
    Calls Try.prog 154 #[colV a b c, colV x y z] w fun e w' => e = .returned (.agg #[.float .f32 a, .float .f32 x, .float .f32 b, .float .f32 y, .float .f32 c, .float .f32 z]) ∧ Below w.heap.size w w' := by
  unfold colV
  go_enter Try.func154, Try.ntmps154
  go_wp2
  go_returns; exact ⟨rfl, by (repeat' (first | (with_reducible exact Below.refl _ _) | (with_reducible assumption) | (with_reducible refine Below.alloc ?_ ?_ _) | (with_reducible refine Below.drew ?_) | (with_reducible refine Below.setCell ?_ ?_ _) | (with_reducible refine Below.trans ?_ (Below.mono (by assumption) ?_)) | (with_reducible exact Nat.le_refl _) | omega | (simp only [World.size_alloc, World.size_setCell, World.size_drew]; omega) | (simp; omega) | (simp; done)))⟩
end Go.Proofs.Ytlnikapkheldeaa

/-
  Two colours of the same bits hold as equal in the law; shares in doubles; what is kept in bounds.
-/
namespace Go.Proofs.Ytlnikapkheldeaa
open Go.ChangeShapes Go.WideShapes Go.ChangeAt Go.RowKit Go.Joins
set_option linter.unusedSimpArgs false
set_option linter.unusedVariables false
set_option maxRecDepth 100000
attribute [local go_sem] store_f

theorem sameFloat_zero (w : World) :
    Calls Try.prog 66 #[.float .f64 0, .float .f64 0] w fun e w' => e = .returned (.bool true) ∧ w' = w := by
  have hq := fun t w => run_float_arith (P := Try.prog) w .quo t .f64 4607182418800017408 0 9218868437227405312 (by kernel_rfl)
  have h0 : (FloatKind.f64.format.order 0 0 != some .eq) = false := by kernel_rfl
  have h1 : (FloatKind.f64.format.order 0 0 == some .eq) = true := by kernel_rfl
  go_enter Try.func66, Try.ntmps66
  go_wp2_with (simp only [hq])
  all_goals (go_ret; exact ⟨by simp_all, rfl⟩)

theorem sameFloat_other (y : Nat) (hs : FloatKind.f64.format.order y y = some .eq) (hz : ¬ FloatKind.f64.format.order y 0 = some .eq) (w : World) :
    Calls Try.prog 66 #[.float .f64 y, .float .f64 y] w fun e w' => e = .returned (.bool true) ∧ w' = w := by
  have h1 : (FloatKind.f64.format.order y y == some .eq) = true := by rw [hs]; rfl
  have h0 : (FloatKind.f64.format.order y y != some .eq) = false := by rw [hs]; rfl
  have h2 : (FloatKind.f64.format.order y 0 == some .eq) = false := by simpa using hz
  clear hs hz
  go_enter Try.func66, Try.ntmps66
  go_wp2
  all_goals (go_ret; exact ⟨by simp_all, rfl⟩)

theorem sameFloat_wide {x : Nat} (h : Fin32 x) (hx : x < 2147483648) (w : World) :
    Calls Try.prog 66 #[.float .f64 (wide x), .float .f64 (wide x)] w fun e w' => e = .returned (.bool true) ∧ w' = w := by
  by_cases hz : FloatKind.f64.format.order (wide x) 0 = some .eq
  · rw [wide_zero h hx hz]; exact sameFloat_zero w
  · exact sameFloat_other _ (wide_same h) hz w

/-- A double that holds as the same as itself in the law. -/
structure Same64 (y : Nat) : Prop where
  call : ∀ w : World, Calls Try.prog 66 #[.float .f64 y, .float .f64 y] w fun e w' => e = .returned (.bool true) ∧ w' = w

theorem eqColour_yes (a b c : Nat) (ha : a < 2139095040) (hb : b < 2139095040) (hc : c < 2139095040) (w : World) :
    Calls Try.prog 161 #[colV a b c, colV a b c] w fun e w' => e = .returned (.bool true) ∧ Below w.heap.size w w' := by
  have qa := fun w => run_convert_float_float (P := Try.prog) w 47 88 .f32 .f64 a _ (by rw [Try.underlying47]; rfl) Try.underlying88 (wide_bits (fin_of_lt ha))
  have qb := fun w => run_convert_float_float (P := Try.prog) w 47 88 .f32 .f64 b _ (by rw [Try.underlying47]; rfl) Try.underlying88 (wide_bits (fin_of_lt hb))
  have qc := fun w => run_convert_float_float (P := Try.prog) w 47 88 .f32 .f64 c _ (by rw [Try.underlying47]; rfl) Try.underlying88 (wide_bits (fin_of_lt hc))
  have KA : Same64 (wide a) := ⟨fun w => sameFloat_wide (fin_of_lt ha) (by omega) w⟩
  have KB : Same64 (wide b) := ⟨fun w => sameFloat_wide (fin_of_lt hb) (by omega) w⟩
  have KC : Same64 (wide c) := ⟨fun w => sameFloat_wide (fin_of_lt hc) (by omega) w⟩
  clear ha hb hc
  generalize wide a = ya at qa KA
  generalize wide b = yb at qb KB
  generalize wide c = yc at qc KC
  unfold colV
  go_enter Try.func161, Try.ntmps161
  go_wp2_with (first | simp only [qa] | simp only [qb] | simp only [qc] | (go_at_call 66; refine (Same64.call ?_ _).mono ?_; (next => with_reducible assumption); rintro e w1 ⟨rfl, rfl⟩))
  go_returns; exact ⟨rfl, by (repeat' (first | (with_reducible exact Below.refl _ _) | (with_reducible assumption) | (with_reducible refine Below.alloc ?_ ?_ _) | (with_reducible refine Below.drew ?_) | (with_reducible refine Below.setCell ?_ ?_ _) | (with_reducible refine Below.trans ?_ (Below.mono (by assumption) ?_)) | (with_reducible exact Nat.le_refl _) | omega | (simp only [World.size_alloc, World.size_setCell, World.size_drew]; omega) | (simp; omega) | (simp; done)))⟩

theorem shareOf_i {a k : Nat} (ha : Part a) (hk : Part k) (w : World) :
    Calls Try.prog 179 #[.float .f32 a, .float .f64 (wide k)] w fun e w' => e = .returned (.float .f32 (mulB a k)) ∧ w' = w := by
  obtain ⟨z, r, h1, h2, h3⟩ := wide_mul ha hk
  have qa := fun w => run_convert_float_float (P := Try.prog) w 47 88 .f32 .f64 a _ (by rw [Try.underlying47]; rfl) Try.underlying88 (wide_bits ha.fin)
  have qm := fun t w => run_float_arith (P := Try.prog) w .mul t .f64 (wide a) (wide k) z h1
  have qr := fun w => run_convert_float_float (P := Try.prog) w 88 47 .f64 .f32 z r (by rw [Try.underlying88]; rfl) Try.underlying47 h2
  obtain ⟨r', e3, hf, _⟩ := mul_part ha hk
  have e : mulB a k = setB r := by
    rw [h3] at e3; cases e3
    rw [set_clean hf]; unfold mulB; rw [h3]; rfl
  rw [e]
  clear h1 h2 h3 e e3 hf ha hk
  generalize wide a = ya at qa qm
  generalize wide k = yk at qm
  go_enter Try.func179, Try.ntmps179
  go_wp2_with (first | simp only [qa] | simp only [qm] | simp only [qr] | (go_at_call 130; refine (settle_i _ _).mono ?_; rintro e w1 ⟨rfl, rfl⟩))
  all_goals (go_ret; exact ⟨rfl, rfl⟩)

theorem areColours_i (a b c x y z : Nat) (w : World) :
    Calls Try.prog 151 #[colV a b c, colV x y z] w fun e w' => e = .returned (.bool (colB a b c && colB x y z)) ∧ Below w.heap.size w w' := by
  have K1 : Hid (∀ w : World, Calls Try.prog 95 #[colV a b c] w fun e w' => e = .returned (.bool (colB a b c)) ∧ Below w.heap.size w w') := fun w => isColour_i a b c w
  have K2 : Hid (∀ w : World, Calls Try.prog 95 #[colV x y z] w fun e w' => e = .returned (.bool (colB x y z)) ∧ Below w.heap.size w w') := fun w => isColour_i x y z w
  generalize colB a b c = p at K1 ⊢
  generalize colB x y z = q at K2 ⊢
  unfold colV at K1 K2 ⊢
  cases p
  all_goals
    go_enter Try.func151, Try.ntmps151
    go_wp2_with (go_at_call 95; (first | refine (K1.out _).mono ?_ | refine (K2.out _).mono ?_); rintro e w1 ⟨rfl, hb⟩; obtain ⟨hc, hf⟩ := bcell hb; have HL := keepL (by (repeat (first | (with_reducible assumption) | (with_reducible apply AllLt.alloc) | (with_reducible apply AllLt.setCell) | (with_reducible apply AllLt.drew) | (with_reducible exact AllLt.nil _)))) hb; have hq := HL; simp only [AllLt, and_true, World.size_alloc, World.size_setCell, World.size_drew] at hq; have hbs := hb.size; try simp only [World.size_alloc, World.size_setCell, World.size_drew] at hbs)
    all_goals (go_returns; exact ⟨by simp, by (repeat' (first | (with_reducible exact Below.refl _ _) | (with_reducible assumption) | (with_reducible refine Below.alloc ?_ ?_ _) | (with_reducible refine Below.drew ?_) | (with_reducible refine Below.setCell ?_ ?_ _) | (with_reducible refine Below.trans ?_ (Below.mono (by assumption) ?_)) | (with_reducible exact Nat.le_refl _) | omega | (simp only [World.size_alloc, World.size_setCell, World.size_drew]; omega) | (simp; omega) | (simp; done)))⟩)

theorem colB_parts {a b c : Nat} (ha : a < 4294967296) (hb : b < 4294967296) (hc : c < 4294967296) (h : colB a b c = true) : Part a ∧ Part b ∧ Part c := by
  unfold colB at h
  simp only [Bool.and_eq_true] at h
  exact ⟨share_part ha h.1.1, share_part hb h.1.2, share_part hc h.2⟩
theorem parts_colB {a b c : Nat} (ha : Part a) (hb : Part b) (hc : Part c) : colB a b c = true := by
  unfold colB; rw [part_share ha, part_share hb, part_share hc]; rfl
end Go.Proofs.Ytlnikapkheldeaa
