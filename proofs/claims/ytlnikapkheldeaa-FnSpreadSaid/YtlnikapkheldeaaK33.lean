/-
  Texts of this proof, joined: Gg, Gs, Gl, Gm, Gn.
-/
import Derived.Test.YtlnikapkheldeaaK30
import Derived.Test.YtlnikapkheldeaaK07
import Derived.Deep.QuietTactic
import Derived.BigQuiet
import Derived.Test.YtlnikapkheldeaaK31
import Derived.Test.YtlnikapkheldeaaK32
import Derived.Test.YtlnikapkheldeaaK29
import Derived.Test.YtlnikapkheldeaaK21
import Derived.Deep.DeepCutAuto
/-
  The area and the box of a shard.
-/
namespace Go.Proofs.Ytlnikapkheldeaa
open Go.ChangeShapes Go.WideShapes Go.ChangeAt Go.RowKit Go.Joins
set_option linter.unusedSimpArgs false
set_option linter.unusedVariables false
set_option maxRecDepth 100000
attribute [local go_sem] store_f
open Ieee

theorem xor_sign {r : Nat} (h : r < 2 ^ 31) : r ^^^ 2 ^ 31 = 2 ^ 31 + r := by
  have h1 := Nat.two_pow_add_eq_or_of_lt (i := 31) h 1
  rw [Nat.mul_one] at h1
  rw [h1]
  apply Nat.eq_of_testBit_eq
  intro i
  rw [Nat.testBit_xor, Nat.testBit_or, Nat.testBit_two_pow]
  by_cases hi : 31 = i
  · subst hi
    rw [Nat.testBit_lt_two_pow h]; rfl
  · simp [hi]
theorem neg_of_word (s : Bool) {r : Nat} (h : r < 2147483648) : Op.negFloat .f32 (F32.word s r) = F32.word (!s) r := by
  rw [neg_word]
  have e : ∀ b : Bool, F32.word b r = (if b then 2147483648 else 0) + r := fun b => by
    unfold Format.word; rw [F32_sw]; cases b <;> simp
  rw [e, e]
  have hx := xor_sign (r := r) (by omega)
  cases s
  · simp only [Bool.not_false, if_true, Bool.false_eq_true, if_false, Nat.zero_add]; rw [hx]
  · simp only [Bool.not_true, if_true, Bool.false_eq_true, if_false, Nat.zero_add]
    rw [show 2147483648 + r = r ^^^ 2 ^ 31 by rw [hx], Nat.xor_assoc, Nat.xor_self, Nat.xor_zero]
theorem val_negF {x : Nat} (hf : Fin32 x) (hx : x < 4294967296) : valOf F32 (Op.negFloat .f32 x) = - valOf F32 x ∧ Fin32 (Op.negFloat .f32 x) := by
  have hr := fin_rung hf
  have e := word_of F32 (w := x) (by rw [F32_w]; exact hx)
  have h2 := neg_of_word (negOf F32 x) (r := rungOf F32 x) (by omega)
  rw [e] at h2
  rw [h2]
  refine ⟨?_, fin_word _ hr⟩
  rw [valOf_word F32 _ (by rw [F32_sw]; omega)]
  unfold valOf
  cases negOf F32 x <;> simp

theorem set_val {x : Nat} (h : Fin32 x) : valOf F32 (setB x) = valOf F32 x ∧ Fin32 (setB x) := by
  rw [set_clean h, clean_eq h]
  by_cases h0 : rungOf F32 x = 0
  · rw [if_pos h0, val_zero, val_eq_zero.2 h0]; exact ⟨rfl, fin_of_lt (by omega)⟩
  · rw [if_neg h0]; exact ⟨rfl, h⟩

/-- What the box of a shard is good for. -/
structure Box (s : Shd) (l1 l2 h1 h2 : Nat) : Prop where
  fl1 : Fin32 l1
  fl2 : Fin32 l2
  fh1 : Fin32 h1
  fh2 : Fin32 h2
  la1 : valOf F32 l1 ≤ valOf F32 s.a1
  lb1 : valOf F32 l1 ≤ valOf F32 s.b1
  lc1 : valOf F32 l1 ≤ valOf F32 s.c1
  la2 : valOf F32 l2 ≤ valOf F32 s.a2
  lb2 : valOf F32 l2 ≤ valOf F32 s.b2
  lc2 : valOf F32 l2 ≤ valOf F32 s.c2
  ha1 : valOf F32 s.a1 ≤ valOf F32 h1
  hb1 : valOf F32 s.b1 ≤ valOf F32 h1
  hc1 : valOf F32 s.c1 ≤ valOf F32 h1
  ha2 : valOf F32 s.a2 ≤ valOf F32 h2
  hb2 : valOf F32 s.b2 ≤ valOf F32 h2
  hc2 : valOf F32 s.c2 ≤ valOf F32 h2
end Go.Proofs.Ytlnikapkheldeaa

/-
  Shards and points that a symmetry acts on: sides stay, or change their sign.
-/
namespace Go.Proofs.Ytlnikapkheldeaa
open Go.ChangeShapes Go.WideShapes Go.ChangeAt Go.RowKit Go.Joins
set_option linter.unusedSimpArgs false
set_option linter.unusedVariables false
set_option maxRecDepth 100000
attribute [local go_sem] store_f
open Ieee

theorem val_clean' {x : Nat} (h : Fin32 x) : valOf F32 (cleanB x) = valOf F32 x := by
  rw [clean_eq h]
  by_cases h0 : rungOf F32 x = 0
  · rw [if_pos h0, val_zero, val_eq_zero.2 h0]
  · rw [if_neg h0]
theorem val_ngB {x : Nat} (h : Fin32 x) : valOf F32 (ngB x) = - valOf F32 x := by
  have hr := fin_rung h
  unfold ngB
  by_cases h0 : rungOf F32 x = 0
  · rw [if_pos h0, val_zero, val_eq_zero.2 h0]; rfl
  · rw [if_neg h0, valOf_word F32 _ (by rw [F32_sw]; omega)]
    unfold valOf
    cases negOf F32 x <;> simp

/-- What a symmetry makes of values. -/
def actZ : Nat → Bool → Int → Int → Int × Int
  | 0, false, x, y => (x, y)
  | 0, true, x, y => (x, -y)
  | 1, false, x, y => (-y, x)
  | 1, true, x, y => (y, x)
  | 2, false, x, y => (-x, -y)
  | 2, true, x, y => (-x, y)
  | _, false, x, y => (y, -x)
  | _, true, x, y => (-y, -x)
/-- The sign of a side behind a symmetry. -/
def sgn (f : Bool) (z : Int) : Int := if f then -z else z
theorem side_two (a1 a2 b1 b2 p1 p2 : Int) : sideZ (-a1) (-a2) (-b1) (-b2) (-p1) (-p2) = sideZ a1 a2 b1 b2 p1 p2 := by
  rw [← side_turn a1 a2 b1 b2 p1 p2, ← side_turn (-a2) a1 (-b2) b1 (-p2) p1]
theorem side_three (a1 a2 b1 b2 p1 p2 : Int) : sideZ a2 (-a1) b2 (-b1) p2 (-p1) = sideZ a1 a2 b1 b2 p1 p2 := by
  have h := side_turn (-a1) (-a2) (-b1) (-b2) (-p1) (-p2)
  rw [Int.neg_neg, Int.neg_neg, Int.neg_neg, side_two] at h
  exact h
theorem side_act (t : Nat) (f : Bool) (ht : t < 4) (a1 a2 b1 b2 p1 p2 : Int) :
    sideZ (actZ t f a1 a2).1 (actZ t f a1 a2).2 (actZ t f b1 b2).1 (actZ t f b1 b2).2 (actZ t f p1 p2).1 (actZ t f p1 p2).2 = sgn f (sideZ a1 a2 b1 b2 p1 p2) := by
  rcases (by omega : t = 0 ∨ t = 1 ∨ t = 2 ∨ t = 3) with rfl | rfl | rfl | rfl <;> cases f
  · simp only [actZ, sgn, Bool.false_eq_true, if_false]
  · simp only [actZ, sgn, if_true]; exact side_flip a1 a2 b1 b2 p1 p2
  · simp only [actZ, sgn, Bool.false_eq_true, if_false]; exact side_turn a1 a2 b1 b2 p1 p2
  · simp only [actZ, sgn, if_true]
    have h := side_turn a1 (-a2) b1 (-b2) p1 (-p2)
    rw [Int.neg_neg, Int.neg_neg, Int.neg_neg, side_flip] at h
    exact h
  · simp only [actZ, sgn, Bool.false_eq_true, if_false]; exact side_two a1 a2 b1 b2 p1 p2
  · simp only [actZ, sgn, if_true]
    have h := side_two a1 (-a2) b1 (-b2) p1 (-p2)
    rw [Int.neg_neg, Int.neg_neg, Int.neg_neg, side_flip] at h
    exact h
  · simp only [actZ, sgn, Bool.false_eq_true, if_false]; exact side_three a1 a2 b1 b2 p1 p2
  · simp only [actZ, sgn, if_true]
    have h := side_three a1 (-a2) b1 (-b2) p1 (-p2)
    rw [side_flip a1 a2 b1 b2 p1 p2] at h
    exact h
theorem inZ_sgn (f : Bool) (x y z : Int) : inZ (sgn f x) (sgn f y) (sgn f z) = inZ x y z := by
  unfold sgn inZ
  cases f
  · rfl
  · simp only [if_true]
    rw [Bool.eq_iff_iff]
    simp only [decide_eq_true_eq]
    omega

/-- What a symmetry makes of a point. -/
structure Img (t : Nat) (f : Bool) (x y p q : Nat) : Prop where
  act : ActM t f x y p q
  v1 : valOf F32 p = (actZ t f (valOf F32 x) (valOf F32 y)).1
  v2 : valOf F32 q = (actZ t f (valOf F32 x) (valOf F32 y)).2
  r1 : Rch p
  r2 : Rch q
theorem rch_clean {x : Nat} (h : Rch x) : Rch (cleanB x) := ⟨(cl_clean h.fin h.lt).lt, by rw [inB_val (cl_clean h.fin h.lt).fin h.fin (.inl (val_clean' h.fin))]; exact h.inb⟩
theorem rch_ng {x : Nat} (h : Rch x) : Rch (ngB x) := ⟨(cl_ng h.fin).lt, by rw [inB_val (cl_ng h.fin).fin h.fin (.inr (val_ngB h.fin))]; exact h.inb⟩
theorem img_of {t : Nat} (f : Bool) (ht : t < 4) {x y : Nat} (hx : Rch x) (hy : Rch y) : ∃ p q, Img t f x y p q := by
  have A : ActM t f x y _ _ := ⟨fun w => actSym_i t f x y _ _ _ _ w ht hx.inb hy.inb (parts_of hx.fin hx.lt) (parts_of hy.fin hy.lt)⟩
  have c1 := val_clean' hx.fin
  have c2 := val_clean' hy.fin
  have n1 := val_ngB hx.fin
  have n2 := val_ngB hy.fin
  have r1 := rch_clean hx
  have r2 := rch_clean hy
  have r3 := rch_ng hx
  have r4 := rch_ng hy
  refine ⟨_, _, A, ?_, ?_, ?_, ?_⟩
  all_goals
    clear A
    generalize cleanB x = cx at *
    generalize cleanB y = cy at *
    generalize ngB x = nx at *
    generalize ngB y = ny at *
    generalize valOf F32 x = X at *
    generalize valOf F32 y = Y at *
    rcases (by omega : t = 0 ∨ t = 1 ∨ t = 2 ∨ t = 3) with rfl | rfl | rfl | rfl <;> cases f <;> simp only [actV, actZ] <;> assumption

/-- All that the law of sides asks of one shard: x, y the sides before and behind, r the shard behind, (p, q) the point behind. -/
structure Turned (t : Int) (f : Bool) (s : Shd) (x y : Nat) (r : Shd) (p q : Nat) (u v : Nat) (c : Bool) : Prop where
  sx : SideIs s.a1 s.a2 s.b1 s.b2 x y u
  ia : ActM t f s.a1 s.a2 r.a1 r.a2
  ib : ActM t f s.b1 s.b2 r.b1 r.b2
  ip : ActM t f x y p q
  sy : SideIs r.a1 r.a2 r.b1 r.b2 p q v
  yes : f = true → (FloatKind.f32.format.order v (Op.negFloat .f32 u) == some .eq) = true
  no : f = false → (FloatKind.f32.format.order v u == some .eq) = true
  ac : ActShIs t f s r
  sr : ShdIs r true
  i1 : InIs r p q c
  i0 : InIs s x y c
theorem put_fields (s : Shd) (x1 x2 y1 y2 z1 z2 : Nat) : (s.put x1 x2 y1 y2 z1 z2).a1 = x1 ∧ (s.put x1 x2 y1 y2 z1 z2).a2 = x2 ∧ (s.put x1 x2 y1 y2 z1 z2).b1 = y1 ∧ (s.put x1 x2 y1 y2 z1 z2).b2 = y2 ∧ (s.put x1 x2 y1 y2 z1 z2).c1 = z1 ∧ (s.put x1 x2 y1 y2 z1 z2).c2 = z2 := ⟨rfl, rfl, rfl, rfl, rfl, rfl⟩
theorem order_val {x y : Nat} (hx : Fin32 x) (hy : Fin32 y) (h : valOf F32 x = valOf F32 y) : (FloatKind.f32.format.order x y == some .eq) = true := by
  show (F32.order x y == some .eq) = true
  rw [order_fin F32 hx hy, cmp_eq]; simp [h]
end Go.Proofs.Ytlnikapkheldeaa

/-
  The draws of quarters, of points that may be none, of shards.
-/
namespace Go.Proofs.Ytlnikapkheldeaa
open Go.ChangeShapes Go.WideShapes Go.ChangeAt Go.RowKit Go.Joins
set_option linter.unusedSimpArgs false
set_option linter.unusedVariables false
set_option maxRecDepth 100000
attribute [local go_sem] store_f
open Ieee

/-! Quotients and sums of finite singles. -/
theorem nearest_lt (s : Bool) (m : Nat) (p : Int) : F32.nearest s m p < 4294967296 := by
  rw [nearest_rn F32 s m p (min p F32.leastPlace) (p - min p F32.leastPlace).toNat (F32.leastPlace - min p F32.leastPlace).toNat (by omega) (by omega)]
  refine word_lt s ?_
  have := F32_inf
  omega
theorem div_some {x c n : Nat} {j : Int} (hx : Fin32 x) (hc : F32.read c = .number false n j) (hn : n ≠ 0) : ∃ q, F32.div x c = some q ∧ q < 4294967296 := by
  unfold Format.div
  rw [read_fin F32 hx, hc]
  simp only [Datum.quotient, if_neg hn, Option.map_some]
  refine ⟨_, rfl, ?_⟩
  unfold Format.write
  dsimp only
  exact nearest_lt _ _ _
theorem div2 {x : Nat} (hx : Fin32 x) : ∃ q, F32.div x 1073741824 = some q ∧ q < 4294967296 := div_some (n := 8388608) (j := -22) hx (by kernel_rfl) (by omega)
theorem div4 {x : Nat} (hx : Fin32 x) : ∃ q, F32.div x 1082130432 = some q ∧ q < 4294967296 := div_some (n := 8388608) (j := -21) hx (by kernel_rfl) (by omega)
theorem abs_add (x y : Int) : (x + y).natAbs ≤ x.natAbs + y.natAbs := by omega
theorem add_bd {x y R1 R2 R : Nat} (hx : rungOf F32 x ≤ R1) (hy : rungOf F32 y ≤ R2) (h1 : R1 < 2139095040) (h2 : R2 < 2139095040) (hR : R < 2139095040) (h : magOf F32 R1 + magOf F32 R2 ≤ magOf F32 R) :
    ∃ r, F32.add x y = some r ∧ rungOf F32 r ≤ R ∧ r < 4294967296 := by
  have fx : Fin32 x := by unfold Fin32; rw [F32_inf]; omega
  have fy : Fin32 y := by unfold Fin32; rw [F32_inf]; omega
  have m1 := magOf_le F32 hx
  have m2 := magOf_le F32 hy
  have e := add_fin F32 fx fy
  have hT : (valOf F32 x + valOf F32 y).natAbs ≤ magOf F32 R := by
    have := abs_add (valOf F32 x) (valOf F32 y)
    rw [abs_val, abs_val] at this
    omega
  obtain ⟨e1, e2⟩ := roundTo_eq (negOf F32 x && negOf F32 y) _ hR hT
  rw [e1] at e
  exact ⟨_, e, by rw [rungOf_word F32 _ (by rw [F32_sw]; omega)]; exact e2, word_lt _ (by omega)⟩
theorem mag_dbl : magOf F32 1073741824 = 2 * 2 ^ 149 := by decide +kernel
theorem dbl_bd {x R1 R : Nat} (hx : rungOf F32 x ≤ R1) (h1 : R1 < 2139095040) (hR : R < 2139095040) (h : 2 * magOf F32 R1 ≤ magOf F32 R) :
    ∃ r, F32.mul 1073741824 x = some r ∧ rungOf F32 r ≤ R ∧ r < 4294967296 := by
  have fx : Fin32 x := by unfold Fin32; rw [F32_inf]; omega
  have m1 := magOf_le F32 hx
  have e := mul_fin F32 (q := 149) F32_lp (fin_of_lt (x := 1073741824) (by omega)) fx
  rw [rung_of_lt (x := 1073741824) (by omega), mag_dbl] at e
  obtain ⟨e1, e2⟩ := roundMul_eq 149 (negOf F32 1073741824 ^^ negOf F32 x) (2 * 2 ^ 149 * magOf F32 (rungOf F32 x)) hR (by
    have : 2 * magOf F32 (rungOf F32 x) ≤ magOf F32 R := by omega
    calc 2 * 2 ^ 149 * magOf F32 (rungOf F32 x) = 2 * magOf F32 (rungOf F32 x) * 2 ^ 149 := by
          rw [Nat.mul_assoc, Nat.mul_assoc, Nat.mul_comm (2 ^ 149)]
      _ ≤ magOf F32 R * 2 ^ 149 := Nat.mul_le_mul_right _ this)
  rw [e1] at e
  exact ⟨_, e, by rw [rungOf_word F32 _ (by rw [F32_sw]; omega)]; exact e2, word_lt _ (by omega)⟩
theorem m_1280 : magOf F32 1142947840 + magOf F32 1142947840 ≤ magOf F32 1151336448 := by decide +kernel
theorem m_1280' : 2 * magOf F32 1142947840 ≤ magOf F32 1151336448 := by decide +kernel
theorem m_2560 : magOf F32 1151336448 + magOf F32 1151336448 ≤ magOf F32 1159725056 := by decide +kernel
/-- The middle of two parts. -/
theorem mid2 {x y : Nat} (hx : okB x = true) (hy : okB y = true) : ∃ r q, F32.add x y = some r ∧ F32.div r 1073741824 = some q ∧ q < 4294967296 := by
  obtain ⟨r, e, h, _⟩ := add_bd (ok_rung hx) (ok_rung hy) (by omega) (by omega) (by omega) m_1280
  obtain ⟨q, e2, hq⟩ := div2 (x := r) (by unfold Fin32; rw [F32_inf]; omega)
  exact ⟨r, q, e, e2, hq⟩
theorem mid4 {x y z : Nat} (hx : okB x = true) (hy : okB y = true) (hz : okB z = true) : ∃ r s t q, F32.add x y = some r ∧ F32.mul 1073741824 z = some s ∧ F32.add r s = some t ∧ F32.div t 1082130432 = some q ∧ q < 4294967296 := by
  obtain ⟨r, e, h, _⟩ := add_bd (ok_rung hx) (ok_rung hy) (by omega) (by omega) (by omega) m_1280
  obtain ⟨s, e1, h1, _⟩ := dbl_bd (ok_rung hz) (by omega) (by omega) m_1280'
  obtain ⟨t, e2, h2, _⟩ := add_bd h h1 (by omega) (by omega) (by omega) m_2560
  obtain ⟨q, e3, hq⟩ := div4 (x := t) (by unfold Fin32; rw [F32_inf]; omega)
  exact ⟨r, s, t, q, e, e1, e2, e3, hq⟩

/-! Quarters. -/
def quB (o : Int) (m : Nat) : Nat := match F32.div (floatOfInt .f32 ((m : Int) - o)) 1082130432 with | some r => r | none => 0
theorem qu_32 : ∀ m : Nat, m < 65 → F32.div (floatOfInt .f32 ((m : Int) - 32)) 1082130432 = some (quB 32 m) ∧ quB 32 m < 4294967296 ∧ quB 32 m % 2147483648 ≤ 1090519040 := by decide +kernel
theorem qu_24 : ∀ m : Nat, m < 49 → F32.div (floatOfInt .f32 ((m : Int) - 24)) 1082130432 = some (quB 24 m) ∧ quB 24 m < 4294967296 ∧ quB 24 m % 2147483648 ≤ 1090519040 := by decide +kernel
/-- A drawn quarter: no greater than 8. -/
structure Qu (x : Nat) : Prop where
  lt : x < 4294967296
  le : rungOf F32 x ≤ 1090519040
theorem Qu.ok {x : Nat} (h : Qu x) : okB x = true := by
  have := h.le
  unfold rungOf at this
  rw [F32_sw] at this
  simp [okB, h.lt]; omega
theorem m_16 : magOf F32 1090519040 + magOf F32 1090519040 ≤ magOf F32 1142947840 := by decide +kernel
theorem qu_add {x y : Nat} (hx : Qu x) (hy : Qu y) : (valOf F32 x + valOf F32 y).natAbs ≤ magOf F32 1142947840 := by
  have m1 := magOf_le F32 hx.le
  have m2 := magOf_le F32 hy.le
  have := abs_add (valOf F32 x) (valOf F32 y)
  rw [abs_val, abs_val] at this
  have := m_16
  omega

structure SmallDrawn (B q : Nat) (w : World) (e : Ending) (w' : World) (n : Nat) (o : Int) (m : Nat) : Prop where
  ret : e = .returned (.int .i64 ((m : Int) - o))
  lt : m < n
  cur : Cur B w' q
  grown : w.grownBy w' (some q)
set_option maxHeartbeats 1000000 in
theorem some_32 (B q : Nat) (w : World) (hcur : Cur B w q) :
    Calls Try.prog 90 #[.pointer (some ⟨q, 0, Option.none⟩), .int .i64 (-32), .int .i64 32] w fun e w' => ∃ m, SmallDrawn B q w e w' 65 32 m := by
  have HC : Hid (Cur B w q) := hcur
  clear hcur
  go_enter Try.func90, Try.ntmps90
  go_wp2_with fail
  refine (l1Below_s B q 65 _ HC.out (by omega) (by omega)).mono ?_
  rintro e w1 ⟨x, rfl, hx0, hx1, hc1, hg1⟩
  obtain ⟨n, rfl⟩ : ∃ n : Nat, x = n := ⟨x.toNat, by omega⟩
  have HC1 : Hid (Cur B w1 q) := hc1
  have HG1 : Hid (w.grownBy w1 (some q)) := hg1
  have hn : n < 65 := by omega
  clear hc1 hg1
  go_wp2
  go_ret
  exact ⟨n, by first | rfl | (simp; omega), hn, HC1.out, HG1.out⟩
set_option maxHeartbeats 1000000 in
theorem some_24 (B q : Nat) (w : World) (hcur : Cur B w q) :
    Calls Try.prog 90 #[.pointer (some ⟨q, 0, Option.none⟩), .int .i64 (-24), .int .i64 24] w fun e w' => ∃ m, SmallDrawn B q w e w' 49 24 m := by
  have HC : Hid (Cur B w q) := hcur
  clear hcur
  go_enter Try.func90, Try.ntmps90
  go_wp2_with fail
  refine (l1Below_s B q 49 _ HC.out (by omega) (by omega)).mono ?_
  rintro e w1 ⟨x, rfl, hx0, hx1, hc1, hg1⟩
  obtain ⟨n, rfl⟩ : ∃ n : Nat, x = n := ⟨x.toNat, by omega⟩
  have HC1 : Hid (Cur B w1 q) := hc1
  have HG1 : Hid (w.grownBy w1 (some q)) := hg1
  have hn : n < 49 := by omega
  clear hc1 hg1
  go_wp2
  go_ret
  exact ⟨n, by first | rfl | (simp; omega), hn, HC1.out, HG1.out⟩

/-- The sum of two points, as the draw takes it. -/
structure Plus (a1 a2 b1 b2 x y : Nat) : Prop where
  call : ∀ w : World, Calls Try.prog 170 #[.complex .f32 a1 a2, .complex .f32 b1 b2] w fun e w' => e = .returned (.complex .f32 x y) ∧ w' = w
/-- A sum of two singles, as the draw takes it. -/
structure Op2' (a b r : Nat) : Prop where
  call : ∀ w : World, Calls Try.prog 162 #[.float .f32 a, .float .f32 b] w fun e w' => e = .returned (.float .f32 r) ∧ w' = w
theorem plus1 {a b : Nat} (ha : Qu a) (hb : Qu b) : Op2' a b (clT (valOf F32 a + valOf F32 b)) := ⟨fun w => by
  have fa := ok_fin ha.ok
  have fb := ok_fin hb.ok
  obtain ⟨r, e, h, _⟩ := add_bd ha.le hb.le (by omega) (by omega) (by omega) m_16
  have hf : Fin32 r := by unfold Fin32; rw [F32_inf]; omega
  obtain ⟨r', e', h'⟩ := add_cl fa fb
  rw [e] at e'
  cases e'
  rw [← h', set_clean hf]
  exact l1Plus_s a b r w e (sub_self hf)⟩
theorem plus_of {a1 a2 b1 b2 x y : Nat} (X : Op2' a1 b1 x) (Y : Op2' a2 b2 y) : Plus a1 a2 b1 b2 x y := ⟨fun w => by
  go_enter Try.func170, Try.ntmps170
  go_wp2_with (go_at_call 162; (first | (with_reducible refine (X.call _).mono ?_) | (with_reducible refine (Y.call _).mono ?_)); rintro e w1 ⟨rfl, rfl⟩)
  go_ret
  exact ⟨rfl, rfl⟩⟩
end Go.Proofs.Ytlnikapkheldeaa

/-
  The draw of a complex number that may be no point; the model's test of points.
-/
namespace Go.Proofs.Ytlnikapkheldeaa
open Go.ChangeShapes Go.WideShapes Go.ChangeAt Go.RowKit Go.Joins
set_option linter.unusedSimpArgs false
set_option linter.unusedVariables false
set_option maxRecDepth 100000
attribute [local go_sem] store_f
open Ieee

structure WordDrawn (B q : Nat) (w : World) (e : Ending) (w' : World) (x : Nat) : Prop where
  ret : e = .returned (.float .f32 x)
  lt : x < 4294967296
  cur : Cur B w' q
  grown : w.grownBy w' (some q)
theorem run_quo_nan {P : Program} (w : World) (t : TypeId) (x y : Nat) (h : FloatKind.f32.format.div x y = none) : (binOp .quo t (.float .f32 x) (.float .f32 y)).run P w = .ok (.float .f32 ((Question.nanBits .f32 x y).cut (w.tape w.drawn (.nanBits .f32 x y)))) w.drew := by
  simp [binOp, Op.floatArith, h, Question.forced]
theorem nan_lt (x y t : Nat) : (Question.nanBits .f32 x y).cut t < 4294967296 := by
  show t % 2 * 2 ^ 31 + 0x7f800000 + 1 + t / 2 % (2 ^ 23 - 1) < 4294967296
  have hb : t / 2 % (2 ^ 23 - 1) < 2 ^ 23 - 1 := Nat.mod_lt _ (by omega)
  have ha : t % 2 = 0 ∨ t % 2 = 1 := by omega
  generalize t / 2 % (2 ^ 23 - 1) = b at hb ⊢
  rcases ha with e | e <;> rw [e] <;> omega
theorem fine_lt {x : Nat} (h : okB x = true) : x < 4294967296 := ok_lt h

structure AnyDrawn (B q : Nat) (w : World) (e : Ending) (w' : World) (x y : Nat) : Prop where
  ret : e = .returned (.complex .f32 x y)
  ltx : x < 4294967296
  lty : y < 4294967296
  cur : Cur B w' q
  grown : w.grownBy w' (some q)
structure Tested (w : World) (e : Ending) (w' : World) (x y : Nat) (t : Bool) : Prop where
  ret : e = .returned (.bool t)
  yes : t = true → inB x = true ∧ inB y = true
  below : Below w.heap.size w w'
end Go.Proofs.Ytlnikapkheldeaa

/-
  The draw of a shard.
-/
namespace Go.Proofs.Ytlnikapkheldeaa
open Go.ChangeShapes Go.WideShapes Go.ChangeAt Go.RowKit Go.Joins
set_option linter.unusedSimpArgs false
set_option linter.unusedVariables false
set_option maxRecDepth 100000
attribute [local go_sem] store_f
open Ieee
attribute [local go_sem] store_c

/-- A drawn shard: corners in reach, glass of parts. -/
structure Shd.Drawn (s : Shd) : Prop where
  a1 : okB s.a1 = true
  a2 : okB s.a2 = true
  b1 : okB s.b1 = true
  b2 : okB s.b2 = true
  c1 : okB s.c1 = true
  c2 : okB s.c2 = true
  r : s.r ≤ 1065353216
  g : s.g ≤ 1065353216
  b : s.b ≤ 1065353216
  k : s.k ≤ 1065353216
theorem Shd.Drawn.ok {s : Shd} (h : s.Drawn) : s.Ok :=
  ⟨ok_rch h.a1, ok_rch h.a2, ok_rch h.b1, ok_rch h.b2, ok_rch h.c1, ok_rch h.c2, .inl h.r, .inl h.g, .inl h.b, .inl h.k⟩

theorem grown_set {w w1 : World} {r : Option Nat} (h : w.grownBy w1 r) {p : Addr} (hp : w.heap.size ≤ p.block) (v : Value) : w.grownBy (w1.setCell p v) r := grown_setNew h hp v
structure ShardDrawn (B q : Nat) (w : World) (e : Ending) (w' : World) (s : Shd) : Prop where
  ret : e = .returned (.agg #[.complex .f32 s.a1 s.a2, .complex .f32 s.b1 s.b2, .complex .f32 s.c1 s.c2, .float .f32 s.r, .float .f32 s.g, .float .f32 s.b, .float .f32 s.k])
  ok : s.Drawn
  cur : Cur B w' q
  grown : w.grownBy w' (some q)

set_option maxHeartbeats 16000000 in
theorem l3Draw_s (B q : Nat) (w : World) (hcur : Cur B w q) :
    Calls Try.prog 133 #[.pointer (some ⟨q, 0, Option.none⟩)] w fun e w' => ∃ s, ShardDrawn B q w e w' s := by
  have HC : Hid (Cur B w q) := hcur
  have hq := hcur.lt
  clear hcur
  go_enter Try.func133, Try.ntmps133
  go_wp2_with fail
  have R0 : Hid (Blk (w.alloc (.cells #[.complex .f32 0 0, .complex .f32 0 0, .complex .f32 0 0, .float .f32 0, .float .f32 0, .float .f32 0, .float .f32 0] 57)) w.heap.size #[.complex .f32 0 0, .complex .f32 0 0, .complex .f32 0 0, .float .f32 0, .float .f32 0, .float .f32 0, .float .f32 0] 57) := Blk.new _ _ _
  have C0 : Hid (Cur B (w.alloc (.cells #[.complex .f32 0 0, .complex .f32 0 0, .complex .f32 0 0, .float .f32 0, .float .f32 0, .float .f32 0, .float .f32 0] 57)) q) := HC.out.alloc
  have G0 : Hid (w.grownBy (w.alloc (.cells #[.complex .f32 0 0, .complex .f32 0 0, .complex .f32 0 0, .float .f32 0, .float .f32 0, .float .f32 0, .float .f32 0] 57)) (some q)) := grown_alloc (grownBy_refl _ _) _
  clear HC
  generalize w.alloc (.cells #[.complex .f32 0 0, .complex .f32 0 0, .complex .f32 0 0, .float .f32 0, .float .f32 0, .float .f32 0, .float .f32 0] 57) = W0 at R0 C0 G0 ⊢
  refine (some_32 B q _ C0.out).mono ?_
  rintro e w1 ⟨m, ⟨rfl, hm, hc1, hg1⟩⟩
  have C1 : Hid (Cur B w1 q) := hc1
  have G1 : Hid (W0.grownBy w1 (some q)) := hg1
  obtain ⟨ed, hd1, hd2⟩ := qu_32 m hm
  have QA : Hid (Qu (quB 32 m)) := ⟨hd1, by unfold rungOf; rw [F32_sw]; exact hd2⟩
  have op1 := fun t w => run_float_arith (P := Try.prog) w .quo t .f32 _ 1082130432 _ ed
  generalize quB 32 m = a1 at QA op1
  clear hc1 hg1 ed hd1 hd2
  go_wp2_with (simp only [op1])
  refine (some_32 B q _ C1.out).mono ?_
  rintro e w2 ⟨m2, ⟨rfl, hm2, hc2, hg2⟩⟩
  have C2 : Hid (Cur B w2 q) := hc2
  have G2 : Hid (W0.grownBy w2 (some q)) := grownBy_trans G1.out hg2
  obtain ⟨ed, hd1, hd2⟩ := qu_32 m2 hm2
  have QB : Hid (Qu (quB 32 m2)) := ⟨hd1, by unfold rungOf; rw [F32_sw]; exact hd2⟩
  have op2 := fun t w => run_float_arith (P := Try.prog) w .quo t .f32 _ 1082130432 _ ed
  generalize quB 32 m2 = a2 at QB op2
  clear hc2 hg2 ed hd1 hd2 op1
  go_wp2_with (simp only [op2])
  refine (some_24 B q _ C2.out).mono ?_
  rintro e w3 ⟨m3, ⟨rfl, hm3, hc3, hg3⟩⟩
  have C3 : Hid (Cur B w3 q) := hc3
  have G3 : Hid (W0.grownBy w3 (some q)) := grownBy_trans G2.out hg3
  obtain ⟨ed, hd1, hd2⟩ := qu_24 m3 hm3
  have QC : Hid (Qu (quB 24 m3)) := ⟨hd1, by unfold rungOf; rw [F32_sw]; exact hd2⟩
  have op3 := fun t w => run_float_arith (P := Try.prog) w .quo t .f32 _ 1082130432 _ ed
  generalize quB 24 m3 = d1 at QC op3
  clear hc3 hg3 ed hd1 hd2 op2
  go_wp2_with (simp only [op3])
  refine (some_24 B q _ C3.out).mono ?_
  rintro e w4 ⟨m4, ⟨rfl, hm4, hc4, hg4⟩⟩
  have C4 : Hid (Cur B w4 q) := hc4
  have G4 : Hid (W0.grownBy w4 (some q)) := grownBy_trans G3.out hg4
  obtain ⟨ed, hd1, hd2⟩ := qu_24 m4 hm4
  have QD : Hid (Qu (quB 24 m4)) := ⟨hd1, by unfold rungOf; rw [F32_sw]; exact hd2⟩
  have op4 := fun t w => run_float_arith (P := Try.prog) w .quo t .f32 _ 1082130432 _ ed
  generalize quB 24 m4 = d2 at QD op4
  clear hc4 hg4 ed hd1 hd2 op3
  have P1 := plus_of (plus1 QA.out QC.out) (plus1 QB.out QD.out)
  have OB1 : Hid (okB (clT (valOf F32 a1 + valOf F32 d1)) = true) := clT_ok (qu_add QA.out QC.out)
  have OB2 : Hid (okB (clT (valOf F32 a2 + valOf F32 d2)) = true) := clT_ok (qu_add QB.out QD.out)
  generalize clT (valOf F32 a1 + valOf F32 d1) = b1 at P1 OB1
  generalize clT (valOf F32 a2 + valOf F32 d2) = b2 at P1 OB2
  go_wp2_with (simp only [op4])
  refine (P1.call _).mono ?_
  rintro e w4' ⟨rfl, rfl⟩
  clear op4 P1
  go_wp2_with fail
  refine (some_24 B q _ C4.out).mono ?_
  rintro e w5 ⟨m5, ⟨rfl, hm5, hc5, hg5⟩⟩
  have C5 : Hid (Cur B w5 q) := hc5
  have G5 : Hid (W0.grownBy w5 (some q)) := grownBy_trans G4.out hg5
  obtain ⟨ed, hd1, hd2⟩ := qu_24 m5 hm5
  have QE : Hid (Qu (quB 24 m5)) := ⟨hd1, by unfold rungOf; rw [F32_sw]; exact hd2⟩
  have op5 := fun t w => run_float_arith (P := Try.prog) w .quo t .f32 _ 1082130432 _ ed
  generalize quB 24 m5 = e1 at QE op5
  clear hc5 hg5 ed hd1 hd2
  go_wp2_with (simp only [op5])
  refine (some_24 B q _ C5.out).mono ?_
  rintro e w6 ⟨m6, ⟨rfl, hm6, hc6, hg6⟩⟩
  have C6 : Hid (Cur B w6 q) := hc6
  have G6 : Hid (W0.grownBy w6 (some q)) := grownBy_trans G5.out hg6
  obtain ⟨ed, hd1, hd2⟩ := qu_24 m6 hm6
  have QF : Hid (Qu (quB 24 m6)) := ⟨hd1, by unfold rungOf; rw [F32_sw]; exact hd2⟩
  have op6 := fun t w => run_float_arith (P := Try.prog) w .quo t .f32 _ 1082130432 _ ed
  generalize quB 24 m6 = e2 at QF op6
  clear hc6 hg6 ed hd1 hd2 op5
  have P2 := plus_of (plus1 QA.out QE.out) (plus1 QB.out QF.out)
  have OC1 : Hid (okB (clT (valOf F32 a1 + valOf F32 e1)) = true) := clT_ok (qu_add QA.out QE.out)
  have OC2 : Hid (okB (clT (valOf F32 a2 + valOf F32 e2)) = true) := clT_ok (qu_add QB.out QF.out)
  generalize clT (valOf F32 a1 + valOf F32 e1) = c1 at P2 OC1
  generalize clT (valOf F32 a2 + valOf F32 e2) = c2 at P2 OC2
  go_wp2_with (simp only [op6])
  refine (P2.call _).mono ?_
  rintro e w6' ⟨rfl, rfl⟩
  clear op6 P2
  go_wp2_with fail
  refine (l2Draw_s B q _ C6.out).mono ?_
  rintro e w7 ⟨r, g, b, ⟨rfl, lr, lg, lb, hc7, hg7⟩⟩
  have C7 : Hid (Cur B w7 q) := hc7
  have G7 : Hid (W0.grownBy w7 (some q)) := grownBy_trans G6.out hg7
  have LR : Hid (r ≤ 1065353216) := lr
  have LG : Hid (g ≤ 1065353216) := lg
  have LB : Hid (b ≤ 1065353216) := lb
  clear hc7 hg7 lr lg lb
  go_wp2_with fail
  refine (l2One_s B q _ C7.out).mono ?_
  rintro e w8 ⟨k, ⟨rfl, lk, hc8, hg8⟩⟩
  have C8 : Hid (Cur B w8 q) := hc8
  have G8 : Hid (W0.grownBy w8 (some q)) := grownBy_trans G7.out hg8
  have LK : Hid (k ≤ 1065353216) := lk
  have s8 := hg8.size
  clear hc8 hg8 lk
  obtain ⟨s, hs⟩ : ∃ s : Shd, s = ⟨a1, a2, b1, b2, c1, c2, r, g, b, k⟩ := ⟨_, rfl⟩
  have D : Hid s.Drawn := by rw [hs]; exact ⟨QA.out.ok, QB.out.ok, OB1.out, OB2.out, OC1.out, OC2.out, LR.out, LG.out, LB.out, LK.out⟩
  have z1 : a1 = s.a1 := by rw [hs]
  have z2 : a2 = s.a2 := by rw [hs]
  have z3 : b1 = s.b1 := by rw [hs]
  have z4 : b2 = s.b2 := by rw [hs]
  have z5 : c1 = s.c1 := by rw [hs]
  have z6 : c2 = s.c2 := by rw [hs]
  have z7 : r = s.r := by rw [hs]
  have z8 : g = s.g := by rw [hs]
  have z9 : b = s.b := by rw [hs]
  have z0 : k = s.k := by rw [hs]
  rw [z1, z2, z3, z4, z5, z6, z7, z8, z9, z0]
  clear z1 z2 z3 z4 z5 z6 z7 z8 z9 z0 hs QA QB QC QD QE QF OB1 OB2 OC1 OC2 LR LG LB LK
  have hw0 : w.heap.size < W0.heap.size := R0.out.lt
  go_wp2_with fail
  have C9 : Hid (Cur B (w8.alloc (.cells #[.complex .f32 s.a1 s.a2, .complex .f32 s.b1 s.b2, .complex .f32 s.c1 s.c2, .float .f32 s.r, .float .f32 s.g, .float .f32 s.b, .float .f32 s.k] 57)) q) := C8.out.alloc
  have R9 : Hid (Blk (w8.alloc (.cells #[.complex .f32 s.a1 s.a2, .complex .f32 s.b1 s.b2, .complex .f32 s.c1 s.c2, .float .f32 s.r, .float .f32 s.g, .float .f32 s.b, .float .f32 s.k] 57)) w.heap.size #[.complex .f32 0 0, .complex .f32 0 0, .complex .f32 0 0, .float .f32 0, .float .f32 0, .float .f32 0, .float .f32 0] 57) := (R0.out.grown G8.out (by omega)).alloc
  have S9 : Hid (Blk (w8.alloc (.cells #[.complex .f32 s.a1 s.a2, .complex .f32 s.b1 s.b2, .complex .f32 s.c1 s.c2, .float .f32 s.r, .float .f32 s.g, .float .f32 s.b, .float .f32 s.k] 57)) w8.heap.size #[.complex .f32 s.a1 s.a2, .complex .f32 s.b1 s.b2, .complex .f32 s.c1 s.c2, .float .f32 s.r, .float .f32 s.g, .float .f32 s.b, .float .f32 s.k] 57) := Blk.new _ _ _
  have G9 : Hid (w.grownBy (w8.alloc (.cells #[.complex .f32 s.a1 s.a2, .complex .f32 s.b1 s.b2, .complex .f32 s.c1 s.c2, .float .f32 s.r, .float .f32 s.g, .float .f32 s.b, .float .f32 s.k] 57)) (some q)) := grownBy_trans G0.out (grown_alloc G8.out _)
  have hsz8 := G8.out.size
  have hq9 := C8.out.lt
  clear C8 G8 R0 G0 s8
  generalize w8.alloc (.cells #[.complex .f32 s.a1 s.a2, .complex .f32 s.b1 s.b2, .complex .f32 s.c1 s.c2, .float .f32 s.r, .float .f32 s.g, .float .f32 s.b, .float .f32 s.k] 57) = W9 at C9 R9 S9 G9 ⊢
  refine (l1Once_s B q 5 _ C9.out (by omega) (by omega)).mono ?_
  rintro e w10 ⟨u, ⟨rfl, hc10, hg10⟩⟩
  have C10 : Hid (Cur B w10 q) := hc10
  have R10 : Hid (Blk w10 w.heap.size #[.complex .f32 0 0, .complex .f32 0 0, .complex .f32 0 0, .float .f32 0, .float .f32 0, .float .f32 0, .float .f32 0] 57) := R9.out.grown hg10 (by omega)
  have S10 : Hid (Blk w10 w8.heap.size #[.complex .f32 s.a1 s.a2, .complex .f32 s.b1 s.b2, .complex .f32 s.c1 s.c2, .float .f32 s.r, .float .f32 s.g, .float .f32 s.b, .float .f32 s.k] 57) := S9.out.grown hg10 (by omega)
  have G10 : Hid (w.grownBy w10 (some q)) := grownBy_trans G9.out hg10
  clear hc10 hg10 R9 S9 G9 C9
  have o0 := Blk.cellAt (i := 0) R10.out rfl
  have o1 := Blk.cellAt (i := 1) R10.out rfl
  have o2 := Blk.cellAt (i := 2) R10.out rfl
  have o3 := Blk.cellAt (i := 3) R10.out rfl
  have o4 := Blk.cellAt (i := 4) R10.out rfl
  have o5 := Blk.cellAt (i := 5) R10.out rfl
  have o6 := Blk.cellAt (i := 6) R10.out rfl
  simp only [List.getElem_toArray, List.getElem_cons_zero, List.getElem_cons_succ] at o0 o1 o2 o3 o4 o5 o6
  have p0 := R10.out.free 0
  have p1 := R10.out.free 1
  have p2 := R10.out.free 2
  have p3 := R10.out.free 3
  have p4 := R10.out.free 4
  have p5 := R10.out.free 5
  have p6 := R10.out.free 6
  have ls := S10.out.lt
  cases u
  · (have d0 := Blk.cellAt (i := 0) S10.out rfl; have d1 := Blk.cellAt (i := 1) S10.out rfl; have d2 := Blk.cellAt (i := 2) S10.out rfl; have d3 := Blk.cellAt (i := 3) S10.out rfl; have d4 := Blk.cellAt (i := 4) S10.out rfl; have d5 := Blk.cellAt (i := 5) S10.out rfl; have d6 := Blk.cellAt (i := 6) S10.out rfl; simp only [List.getElem_toArray, List.getElem_cons_zero, List.getElem_cons_succ] at d0 d1 d2 d3 d4 d5 d6)
    go_wp2_with fail
    (have E0 := R10.out.set (i := 0) (v := .complex .f32 s.a1 s.a2); have E1 := E0.set (i := 1) (v := .complex .f32 s.b1 s.b2); have E2 := E1.set (i := 2) (v := .complex .f32 s.c1 s.c2); have E3 := E2.set (i := 3) (v := .float .f32 s.r); have E4 := E3.set (i := 4) (v := .float .f32 s.g); have E5 := E4.set (i := 5) (v := .float .f32 s.b); have E6 := E5.set (i := 6) (v := .float .f32 s.k); have e0 := E0.cell 0; have e1 := E1.cell 1; have e2 := E2.cell 2; have e3 := E3.cell 3; have e4 := E4.cell 4; have e5 := E5.cell 5; have e6 := E6.cell 6; simp only [List.setIfInBounds_toArray, List.set_cons_zero, List.set_cons_succ, List.getElem?_toArray, List.getElem?_cons_zero, List.getElem?_cons_succ] at e0 e1 e2 e3 e4 e5 e6)
    exact bodyPost_ret (v := .agg #[.complex .f32 s.a1 s.a2, .complex .f32 s.b1 s.b2, .complex .f32 s.c1 s.c2, .float .f32 s.r, .float .f32 s.g, .float .f32 s.b, .float .f32 s.k]) (by simp [results, Try.results133, go_sem, e0, e1, e2, e3, e4, e5, e6]) rfl ⟨s, rfl, D.out, by (repeat (first | (with_reducible exact C10.out) | (with_reducible refine Cur.set ?_ (by dsimp only; omega)))), by (repeat (first | (with_reducible exact G10.out) | (with_reducible refine grown_set ?_ (by dsimp only; omega) _)))⟩
  · clear o0 o1 o2 o3 o4 o5 o6 p0 p1 p2 p3 p4 p5 p6
    go_wp2_with fail
    refine (l1Point_s B q _ C10.out).mono ?_
    rintro e w11 ⟨x, y, ⟨rfl, hx, hy, hc11, hg11⟩⟩
    have C11 : Hid (Cur B w11 q) := hc11
    have R11 : Hid (Blk w11 w.heap.size #[.complex .f32 0 0, .complex .f32 0 0, .complex .f32 0 0, .float .f32 0, .float .f32 0, .float .f32 0, .float .f32 0] 57) := R10.out.grown hg11 (by omega)
    have S11 : Hid (Blk w11 w8.heap.size #[.complex .f32 s.a1 s.a2, .complex .f32 s.b1 s.b2, .complex .f32 s.c1 s.c2, .float .f32 s.r, .float .f32 s.g, .float .f32 s.b, .float .f32 s.k] 57) := S10.out.grown hg11 (by omega)
    have G11 : Hid (w.grownBy w11 (some q)) := grownBy_trans G10.out hg11
    have OX : Hid (okB x = true) := hx
    have OY : Hid (okB y = true) := hy
    clear hc11 hg11 hx hy R10 S10 G10 C10
    obtain ⟨t, ht⟩ : ∃ t : Shd, t = ⟨s.a1, s.a2, s.b1, s.b2, x, y, s.r, s.g, s.b, s.k⟩ := ⟨_, rfl⟩
    have DT : Hid t.Drawn := by rw [ht]; exact ⟨D.out.a1, D.out.a2, D.out.b1, D.out.b2, OX.out, OY.out, D.out.r, D.out.g, D.out.b, D.out.k⟩
    have z1 : s.a1 = t.a1 := by rw [ht]
    have z2 : s.a2 = t.a2 := by rw [ht]
    have z3 : s.b1 = t.b1 := by rw [ht]
    have z4 : s.b2 = t.b2 := by rw [ht]
    have z5 : x = t.c1 := by rw [ht]
    have z6 : y = t.c2 := by rw [ht]
    have z7 : s.r = t.r := by rw [ht]
    have z8 : s.g = t.g := by rw [ht]
    have z9 : s.b = t.b := by rw [ht]
    have z0 : s.k = t.k := by rw [ht]
    have R12 : Hid (Blk (w11.setCell ⟨w8.heap.size, 2, Option.none⟩ (.complex .f32 x y)) w.heap.size #[.complex .f32 0 0, .complex .f32 0 0, .complex .f32 0 0, .float .f32 0, .float .f32 0, .float .f32 0, .float .f32 0] 57) := R11.out.other (by dsimp only; omega)
    have S12 : Blk (w11.setCell ⟨w8.heap.size, 2, Option.none⟩ (.complex .f32 x y)) w8.heap.size #[.complex .f32 t.a1 t.a2, .complex .f32 t.b1 t.b2, .complex .f32 t.c1 t.c2, .float .f32 t.r, .float .f32 t.g, .float .f32 t.b, .float .f32 t.k] 57 := by
      rw [← z1, ← z2, ← z3, ← z4, ← z5, ← z6, ← z7, ← z8, ← z9, ← z0]
      exact Blk.setAt rfl S11.out rfl
    have hc2 : (w11.cell? ⟨w8.heap.size, 2, Option.none⟩) = some (.complex .f32 s.c1 s.c2) := S11.out.cell 2
    have hf2 := S11.out.free 2
    have C12 : Hid (Cur B (w11.setCell ⟨w8.heap.size, 2, Option.none⟩ (.complex .f32 x y)) q) := C11.out.set (by dsimp only; omega)
    have G12 : Hid (w.grownBy (w11.setCell ⟨w8.heap.size, 2, Option.none⟩ (.complex .f32 x y)) (some q)) := grown_set G11.out (by dsimp only; omega) _
    clear ht z1 z2 z3 z4 z7 z8 z9 z0 S11 R11 C11 G11 OX OY D
    have S12H : Hid (Blk (w11.setCell ⟨w8.heap.size, 2, Option.none⟩ (.complex .f32 x y)) w8.heap.size #[.complex .f32 t.a1 t.a2, .complex .f32 t.b1 t.b2, .complex .f32 t.c1 t.c2, .float .f32 t.r, .float .f32 t.g, .float .f32 t.b, .float .f32 t.k] 57) := S12
    have ls12 := S12.lt
    have hne : w.heap.size < w8.heap.size := by omega
    clear S12
    subst z5 z6
    go_upto_region 5 with fail
    generalize w11.setCell ⟨w8.heap.size, 2, Option.none⟩ (.complex .f32 t.c1 t.c2) = Y at R12 S12H C12 G12 ls12 ⊢
    clear hc2 hf2
    have o0 := Blk.cellAt (i := 0) R12.out rfl
    have o1 := Blk.cellAt (i := 1) R12.out rfl
    have o2 := Blk.cellAt (i := 2) R12.out rfl
    have o3 := Blk.cellAt (i := 3) R12.out rfl
    have o4 := Blk.cellAt (i := 4) R12.out rfl
    have o5 := Blk.cellAt (i := 5) R12.out rfl
    have o6 := Blk.cellAt (i := 6) R12.out rfl
    simp only [List.getElem_toArray, List.getElem_cons_zero, List.getElem_cons_succ] at o0 o1 o2 o3 o4 o5 o6
    have p0 := R12.out.free 0
    have p1 := R12.out.free 1
    have p2 := R12.out.free 2
    have p3 := R12.out.free 3
    have p4 := R12.out.free 4
    have p5 := R12.out.free 5
    have p6 := R12.out.free 6
    (have d0 := Blk.cellAt (i := 0) S12H.out rfl; have d1 := Blk.cellAt (i := 1) S12H.out rfl; have d2 := Blk.cellAt (i := 2) S12H.out rfl; have d3 := Blk.cellAt (i := 3) S12H.out rfl; have d4 := Blk.cellAt (i := 4) S12H.out rfl; have d5 := Blk.cellAt (i := 5) S12H.out rfl; have d6 := Blk.cellAt (i := 6) S12H.out rfl; simp only [List.getElem_toArray, List.getElem_cons_zero, List.getElem_cons_succ] at d0 d1 d2 d3 d4 d5 d6)
    go_wp2_with fail
    (have E0 := R12.out.set (i := 0) (v := .complex .f32 t.a1 t.a2); have E1 := E0.set (i := 1) (v := .complex .f32 t.b1 t.b2); have E2 := E1.set (i := 2) (v := .complex .f32 t.c1 t.c2); have E3 := E2.set (i := 3) (v := .float .f32 t.r); have E4 := E3.set (i := 4) (v := .float .f32 t.g); have E5 := E4.set (i := 5) (v := .float .f32 t.b); have E6 := E5.set (i := 6) (v := .float .f32 t.k); have e0 := E0.cell 0; have e1 := E1.cell 1; have e2 := E2.cell 2; have e3 := E3.cell 3; have e4 := E4.cell 4; have e5 := E5.cell 5; have e6 := E6.cell 6; simp only [List.setIfInBounds_toArray, List.set_cons_zero, List.set_cons_succ, List.getElem?_toArray, List.getElem?_cons_zero, List.getElem?_cons_succ] at e0 e1 e2 e3 e4 e5 e6)
    exact bodyPost_ret (v := .agg #[.complex .f32 t.a1 t.a2, .complex .f32 t.b1 t.b2, .complex .f32 t.c1 t.c2, .float .f32 t.r, .float .f32 t.g, .float .f32 t.b, .float .f32 t.k]) (by simp [results, Try.results133, go_sem, e0, e1, e2, e3, e4, e5, e6]) rfl ⟨t, rfl, DT.out, by (repeat (first | (with_reducible exact C12.out) | (with_reducible refine Cur.set ?_ (by dsimp only; omega)))), by (repeat (first | (with_reducible exact G12.out) | (with_reducible refine grown_set ?_ (by dsimp only; omega) _)))⟩

end Go.Proofs.Ytlnikapkheldeaa
