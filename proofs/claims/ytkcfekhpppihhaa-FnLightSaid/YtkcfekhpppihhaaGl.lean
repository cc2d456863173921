/-
  The draws of quarters, of points that may be none, of shards.
-/
import Derived.Test.YtkcfekhpppihhaaGb
import Derived.Test.YtkcfekhpppihhaaCdr
import Derived.Test.YtkcfekhpppihhaaFg
namespace Go.Proofs.Ytkcfekhpppihhaa
open Go.ChangeShapes Go.WideShapes Go.ChangeAt Go.RowKit Go.Joins
set_option linter.unusedSimpArgs false
set_option linter.unusedVariables false
set_option maxRecDepth 100000
attribute [local go_sem] store_f
open Ieee

/-! Quotients and sums of finite singles. -/
theorem nearest_lt (s : Bool) (m : Nat) (p : Int) : F32.nearest s m p < 4294967296 := by
  rw [nearest_rn F32 s m p (min p F32.leastPlace) (p - min p F32.leastPlace).toNat (F32.leastPlace - min p F32.leastPlace).toNat (by omega) (by omega)]
  refine word_lt s ?_
  have := F32_inf
  omega
theorem div_some {x c n : Nat} {j : Int} (hx : Fin32 x) (hc : F32.read c = .number false n j) (hn : n ≠ 0) : ∃ q, F32.div x c = some q ∧ q < 4294967296 := by
  unfold Format.div
  rw [read_fin F32 hx, hc]
  simp only [Datum.quotient, if_neg hn, Option.map_some]
  refine ⟨_, rfl, ?_⟩
  unfold Format.write
  dsimp only
  exact nearest_lt _ _ _
theorem div2 {x : Nat} (hx : Fin32 x) : ∃ q, F32.div x 1073741824 = some q ∧ q < 4294967296 := div_some (n := 8388608) (j := -22) hx (by kernel_rfl) (by omega)
theorem div4 {x : Nat} (hx : Fin32 x) : ∃ q, F32.div x 1082130432 = some q ∧ q < 4294967296 := div_some (n := 8388608) (j := -21) hx (by kernel_rfl) (by omega)
theorem abs_add (x y : Int) : (x + y).natAbs ≤ x.natAbs + y.natAbs := by omega
theorem add_bd {x y R1 R2 R : Nat} (hx : rungOf F32 x ≤ R1) (hy : rungOf F32 y ≤ R2) (h1 : R1 < 2139095040) (h2 : R2 < 2139095040) (hR : R < 2139095040) (h : magOf F32 R1 + magOf F32 R2 ≤ magOf F32 R) :
    ∃ r, F32.add x y = some r ∧ rungOf F32 r ≤ R ∧ r < 4294967296 := by
  have fx : Fin32 x := by unfold Fin32; rw [F32_inf]; omega
  have fy : Fin32 y := by unfold Fin32; rw [F32_inf]; omega
  have m1 := magOf_le F32 hx
  have m2 := magOf_le F32 hy
  have e := add_fin F32 fx fy
  have hT : (valOf F32 x + valOf F32 y).natAbs ≤ magOf F32 R := by
    have := abs_add (valOf F32 x) (valOf F32 y)
    rw [abs_val, abs_val] at this
    omega
  obtain ⟨e1, e2⟩ := roundTo_eq (negOf F32 x && negOf F32 y) _ hR hT
  rw [e1] at e
  exact ⟨_, e, by rw [rungOf_word F32 _ (by rw [F32_sw]; omega)]; exact e2, word_lt _ (by omega)⟩
theorem mag_dbl : magOf F32 1073741824 = 2 * 2 ^ 149 := by decide +kernel
theorem dbl_bd {x R1 R : Nat} (hx : rungOf F32 x ≤ R1) (h1 : R1 < 2139095040) (hR : R < 2139095040) (h : 2 * magOf F32 R1 ≤ magOf F32 R) :
    ∃ r, F32.mul 1073741824 x = some r ∧ rungOf F32 r ≤ R ∧ r < 4294967296 := by
  have fx : Fin32 x := by unfold Fin32; rw [F32_inf]; omega
  have m1 := magOf_le F32 hx
  have e := mul_fin F32 (q := 149) F32_lp (fin_of_lt (x := 1073741824) (by omega)) fx
  rw [rung_of_lt (x := 1073741824) (by omega), mag_dbl] at e
  obtain ⟨e1, e2⟩ := roundMul_eq 149 (negOf F32 1073741824 ^^ negOf F32 x) (2 * 2 ^ 149 * magOf F32 (rungOf F32 x)) hR (by
    have : 2 * magOf F32 (rungOf F32 x) ≤ magOf F32 R := by omega
    calc 2 * 2 ^ 149 * magOf F32 (rungOf F32 x) = 2 * magOf F32 (rungOf F32 x) * 2 ^ 149 := by
          rw [Nat.mul_assoc, Nat.mul_assoc, Nat.mul_comm (2 ^ 149)]
      _ ≤ magOf F32 R * 2 ^ 149 := Nat.mul_le_mul_right _ this)
  rw [e1] at e
  exact ⟨_, e, by rw [rungOf_word F32 _ (by rw [F32_sw]; omega)]; exact e2, word_lt _ (by omega)⟩
theorem m_1280 : magOf F32 1142947840 + magOf F32 1142947840 ≤ magOf F32 1151336448 := by decide +kernel
theorem m_1280' : 2 * magOf F32 1142947840 ≤ magOf F32 1151336448 := by decide +kernel
theorem m_2560 : magOf F32 1151336448 + magOf F32 1151336448 ≤ magOf F32 1159725056 := by decide +kernel
/-- The middle of two parts. -/
theorem mid2 {x y : Nat} (hx : okB x = true) (hy : okB y = true) : ∃ r q, F32.add x y = some r ∧ F32.div r 1073741824 = some q ∧ q < 4294967296 := by
  obtain ⟨r, e, h, _⟩ := add_bd (ok_rung hx) (ok_rung hy) (by omega) (by omega) (by omega) m_1280
  obtain ⟨q, e2, hq⟩ := div2 (x := r) (by unfold Fin32; rw [F32_inf]; omega)
  exact ⟨r, q, e, e2, hq⟩
theorem mid4 {x y z : Nat} (hx : okB x = true) (hy : okB y = true) (hz : okB z = true) : ∃ r s t q, F32.add x y = some r ∧ F32.mul 1073741824 z = some s ∧ F32.add r s = some t ∧ F32.div t 1082130432 = some q ∧ q < 4294967296 := by
  obtain ⟨r, e, h, _⟩ := add_bd (ok_rung hx) (ok_rung hy) (by omega) (by omega) (by omega) m_1280
  obtain ⟨s, e1, h1, _⟩ := dbl_bd (ok_rung hz) (by omega) (by omega) m_1280'
  obtain ⟨t, e2, h2, _⟩ := add_bd h h1 (by omega) (by omega) (by omega) m_2560
  obtain ⟨q, e3, hq⟩ := div4 (x := t) (by unfold Fin32; rw [F32_inf]; omega)
  exact ⟨r, s, t, q, e, e1, e2, e3, hq⟩

/-! Quarters. -/
def quB (o : Int) (m : Nat) : Nat := match F32.div (floatOfInt .f32 ((m : Int) - o)) 1082130432 with | some r => r | none => 0
theorem qu_32 : ∀ m : Nat, m < 65 → F32.div (floatOfInt .f32 ((m : Int) - 32)) 1082130432 = some (quB 32 m) ∧ quB 32 m < 4294967296 ∧ quB 32 m % 2147483648 ≤ 1090519040 := by decide +kernel
theorem qu_24 : ∀ m : Nat, m < 49 → F32.div (floatOfInt .f32 ((m : Int) - 24)) 1082130432 = some (quB 24 m) ∧ quB 24 m < 4294967296 ∧ quB 24 m % 2147483648 ≤ 1090519040 := by decide +kernel
/-- A drawn quarter: no greater than 8. -/
structure Qu (x : Nat) : Prop where
  lt : x < 4294967296
  le : rungOf F32 x ≤ 1090519040
theorem Qu.ok {x : Nat} (h : Qu x) : okB x = true := by
  have := h.le
  unfold rungOf at this
  rw [F32_sw] at this
  simp [okB, h.lt]; omega
theorem m_16 : magOf F32 1090519040 + magOf F32 1090519040 ≤ magOf F32 1142947840 := by decide +kernel
theorem qu_add {x y : Nat} (hx : Qu x) (hy : Qu y) : (valOf F32 x + valOf F32 y).natAbs ≤ magOf F32 1142947840 := by
  have m1 := magOf_le F32 hx.le
  have m2 := magOf_le F32 hy.le
  have := abs_add (valOf F32 x) (valOf F32 y)
  rw [abs_val, abs_val] at this
  have := m_16
  omega

structure SmallDrawn (B q : Nat) (w : World) (e : Ending) (w' : World) (n : Nat) (o : Int) (m : Nat) : Prop where
  ret : e = .returned (.int .i64 ((m : Int) - o))
  lt : m < n
  cur : Cur B w' q
  grown : w.grownBy w' (some q)
set_option maxHeartbeats 1000000 in
theorem some_32 (B q : Nat) (w : World) (hcur : Cur B w q) :
    Calls Try.prog 69 #[.pointer (some ⟨q, 0, Option.none⟩), .int .i64 (-32), .int .i64 32] w fun e w' => ∃ m, SmallDrawn B q w e w' 65 32 m := by
  have HC : Hid (Cur B w q) := hcur
  clear hcur
  go_enter Try.func69, Try.ntmps69
  go_wp2_with fail
  refine (l1Below_s B q 65 _ HC.out (by omega) (by omega)).mono ?_
  rintro e w1 ⟨x, rfl, hx0, hx1, hc1, hg1⟩
  obtain ⟨n, rfl⟩ : ∃ n : Nat, x = n := ⟨x.toNat, by omega⟩
  have HC1 : Hid (Cur B w1 q) := hc1
  have HG1 : Hid (w.grownBy w1 (some q)) := hg1
  have hn : n < 65 := by omega
  clear hc1 hg1
  go_wp2
  go_ret
  exact ⟨n, by first | rfl | (simp; omega), hn, HC1.out, HG1.out⟩
set_option maxHeartbeats 1000000 in
theorem some_24 (B q : Nat) (w : World) (hcur : Cur B w q) :
    Calls Try.prog 69 #[.pointer (some ⟨q, 0, Option.none⟩), .int .i64 (-24), .int .i64 24] w fun e w' => ∃ m, SmallDrawn B q w e w' 49 24 m := by
  have HC : Hid (Cur B w q) := hcur
  clear hcur
  go_enter Try.func69, Try.ntmps69
  go_wp2_with fail
  refine (l1Below_s B q 49 _ HC.out (by omega) (by omega)).mono ?_
  rintro e w1 ⟨x, rfl, hx0, hx1, hc1, hg1⟩
  obtain ⟨n, rfl⟩ : ∃ n : Nat, x = n := ⟨x.toNat, by omega⟩
  have HC1 : Hid (Cur B w1 q) := hc1
  have HG1 : Hid (w.grownBy w1 (some q)) := hg1
  have hn : n < 49 := by omega
  clear hc1 hg1
  go_wp2
  go_ret
  exact ⟨n, by first | rfl | (simp; omega), hn, HC1.out, HG1.out⟩

/-- The sum of two points, as the draw takes it. -/
structure Plus (a1 a2 b1 b2 x y : Nat) : Prop where
  call : ∀ w : World, Calls Try.prog 70 #[.complex .f32 a1 a2, .complex .f32 b1 b2] w fun e w' => e = .returned (.complex .f32 x y) ∧ w' = w
/-- A sum of two singles, as the draw takes it. -/
structure Op2' (a b r : Nat) : Prop where
  call : ∀ w : World, Calls Try.prog 74 #[.float .f32 a, .float .f32 b] w fun e w' => e = .returned (.float .f32 r) ∧ w' = w
theorem plus1 {a b : Nat} (ha : Qu a) (hb : Qu b) : Op2' a b (clT (valOf F32 a + valOf F32 b)) := ⟨fun w => by
  have fa := ok_fin ha.ok
  have fb := ok_fin hb.ok
  obtain ⟨r, e, h, _⟩ := add_bd ha.le hb.le (by omega) (by omega) (by omega) m_16
  have hf : Fin32 r := by unfold Fin32; rw [F32_inf]; omega
  obtain ⟨r', e', h'⟩ := add_cl fa fb
  rw [e] at e'
  cases e'
  rw [← h', set_clean hf]
  exact l1Plus_s a b r w e (sub_self hf)⟩
theorem plus_of {a1 a2 b1 b2 x y : Nat} (X : Op2' a1 b1 x) (Y : Op2' a2 b2 y) : Plus a1 a2 b1 b2 x y := ⟨fun w => by
  go_enter Try.func70, Try.ntmps70
  go_wp2_with (go_at_call 74; (first | (with_reducible refine (X.call _).mono ?_) | (with_reducible refine (Y.call _).mono ?_)); rintro e w1 ⟨rfl, rfl⟩)
  go_ret
  exact ⟨rfl, rfl⟩⟩
end Go.Proofs.Ytkcfekhpppihhaa
