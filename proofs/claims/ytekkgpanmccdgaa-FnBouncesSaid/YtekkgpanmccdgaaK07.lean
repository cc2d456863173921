/-
  Texts of this proof, joined: Fe, Fg, Asym.
-/
import Derived.Test.YtekkgpanmccdgaaK02
import Derived.Test.YtekkgpanmccdgaaK06
/-
  The draws of a single and of a point.
-/
namespace Go.Proofs.Ytekkgpanmccdgaa
open Go.ChangeShapes Go.WideShapes Go.ChangeAt Go.RowKit Go.Joins
set_option linter.unusedSimpArgs false
set_option linter.unusedVariables false
set_option maxRecDepth 100000
attribute [local go_sem] store_f
open Ieee

set_option maxHeartbeats 4000000 in
theorem l1Below_big (B q : Nat) (n : Int) (w : World) (hcur : Cur B w q) (h1 : 256 < n) (h2 : n ≤ 65536) :
    Calls Try.prog 51 #[.pointer (some ⟨q, 0, Option.none⟩), .int .i64 n] w fun e w' => ∃ x : Int, e = .returned (.int .i64 x) ∧ 0 ≤ x ∧ x < n ∧ Cur B w' q ∧ w.grownBy w' (some q) := by
  have HC : Hid (Cur B w q) := hcur
  clear hcur
  go_enter Try.func51, Try.ntmps51
  go_wp2_with fail
  refine (l1Byte_s B q _ HC.out).mono ?_
  rintro e w1 ⟨x, rfl, hx0, hx1, hc1, hg1⟩
  have HC1 : Hid (Cur B w1 q) := hc1
  have HG1 : Hid (w.grownBy w1 (some q)) := hg1
  clear hc1 hg1
  go_wp2_with fail
  refine (l1Byte_s B q _ HC1.out).mono ?_
  rintro e w2 ⟨y, rfl, hy0, hy1, hc2, hg2⟩
  have HC2 : Hid (Cur B w2 q) := hc2
  have HG2 : Hid (w.grownBy w2 (some q)) := grownBy_trans HG1.out hg2
  clear hc2 hg2
  go_wp2_with fail
  refine (l1Byte_s B q _ HC2.out).mono ?_
  rintro e w3 ⟨z, rfl, hz0, hz1, hc3, hg3⟩
  have HC3 : Hid (Cur B w3 q) := hc3
  have HG3 : Hid (w.grownBy w3 (some q)) := grownBy_trans HG2.out hg3
  clear hc3 hg3
  go_wp2
  go_ret
  exact ⟨_, rfl, Int.emod_nonneg _ (by omega), Int.emod_lt_of_pos _ (by omega), HC3.out, HG3.out⟩

structure FineDrawn (B q : Nat) (w : World) (e : Ending) (w' : World) (x : Nat) : Prop where
  ret : e = .returned (.float .f32 x)
  ok : okB x = true
  cur : Cur B w' q
  grown : w.grownBy w' (some q)
structure SomeDrawn (B q : Nat) (w : World) (e : Ending) (w' : World) (m : Nat) : Prop where
  ret : e = .returned (.int .i64 ((m : Int) - 640))
  lt : m < 1281
  cur : Cur B w' q
  grown : w.grownBy w' (some q)

set_option maxHeartbeats 1000000 in
theorem l1Some_s (B q : Nat) (w : World) (hcur : Cur B w q) :
    Calls Try.prog 82 #[.pointer (some ⟨q, 0, Option.none⟩), .int .i64 (-640), .int .i64 640] w fun e w' => ∃ m, SomeDrawn B q w e w' m := by
  have HC : Hid (Cur B w q) := hcur
  clear hcur
  go_enter Try.func82, Try.ntmps82
  go_wp2_with fail
  refine (l1Below_big B q 1281 _ HC.out (by omega) (by omega)).mono ?_
  rintro e w1 ⟨x, rfl, hx0, hx1, hc1, hg1⟩
  obtain ⟨n, rfl⟩ : ∃ n : Nat, x = n := ⟨x.toNat, by omega⟩
  have HC1 : Hid (Cur B w1 q) := hc1
  have HG1 : Hid (w.grownBy w1 (some q)) := hg1
  have hn : n < 1281 := by omega
  clear hc1 hg1
  go_wp2
  go_ret
  exact ⟨n, by first | rfl | (simp; omega), hn, HC1.out, HG1.out⟩

set_option maxHeartbeats 2000000 in
theorem l1Fine_s (B q : Nat) (w : World) (hcur : Cur B w q) :
    Calls Try.prog 103 #[.pointer (some ⟨q, 0, Option.none⟩)] w fun e w' => ∃ x, FineDrawn B q w e w' x := by
  have HC : Hid (Cur B w q) := hcur
  have hq := hcur.lt
  clear hcur
  go_enter Try.func103, Try.ntmps103
  go_wp2_with fail
  refine (l1Some_s B q _ HC.out).mono ?_
  rintro e w1 ⟨m, ⟨rfl, hm, hc1, hg1⟩⟩
  have HC1 : Hid (Cur B w1 q) := hc1
  have HG1 : Hid (w.grownBy w1 (some q)) := hg1
  have hq1 := hc1.lt
  have HD : Hid (∀ k, k < 6 → ∃ r, F32.div (floatOfInt .f32 ((m : Int) - 640)) (divsB k) = some r ∧ okB r = true) := fun k hk => fine_ok m k hm hk
  clear hc1 hg1
  go_wp2_with fail
  refine (l1Below_s B q 6 _ HC1.out.alloc (by omega) (by omega)).mono ?_
  rintro e w2 ⟨x, rfl, hx0, hx1, hc2, hg2⟩
  have HC2 : Hid (Cur B w2 q) := hc2
  have HG2 : Hid (w.grownBy w2 (some q)) := grownBy_trans (grown_alloc HG1.out _) hg2
  have HB : Blk w2 w1.heap.size #[.float .f32 1065353216, .float .f32 1073741824, .float .f32 1098907648, .float .f32 1115684864, .float .f32 1120403456, .float .f32 1077936128] _ := Blk.grown (Blk.new _ _ _) hg2 (by omega)
  have hl := HB.lt
  have c0 := Blk.cellAt (i := 0) HB rfl
  have c1 := Blk.cellAt (i := 1) HB rfl
  have c2 := Blk.cellAt (i := 2) HB rfl
  have c3 := Blk.cellAt (i := 3) HB rfl
  have c4 := Blk.cellAt (i := 4) HB rfl
  have c5 := Blk.cellAt (i := 5) HB rfl
  simp at c0 c1 c2 c3 c4 c5
  clear hc2 hg2 HB
  generalize floatOfInt .f32 ((m : Int) - 640) = a at HD ⊢
  rcases (by omega : x = 0 ∨ x = 1 ∨ x = 2 ∨ x = 3 ∨ x = 4 ∨ x = 5) with rfl | rfl | rfl | rfl | rfl | rfl
  · obtain ⟨r, hr, ho⟩ := HD.out 0 (by omega)
    have hop := fun t w => run_float_arith (P := Try.prog) w .quo t .f32 a 1065353216 r hr
    clear hr
    go_wp2_with (simp only [hop])
    go_ret
    exact ⟨r, rfl, ho, HC2.out, HG2.out⟩
  · obtain ⟨r, hr, ho⟩ := HD.out 1 (by omega)
    have hop := fun t w => run_float_arith (P := Try.prog) w .quo t .f32 a 1073741824 r hr
    clear hr
    go_wp2_with (simp only [hop])
    go_ret
    exact ⟨r, rfl, ho, HC2.out, HG2.out⟩
  · obtain ⟨r, hr, ho⟩ := HD.out 2 (by omega)
    have hop := fun t w => run_float_arith (P := Try.prog) w .quo t .f32 a 1098907648 r hr
    clear hr
    go_wp2_with (simp only [hop])
    go_ret
    exact ⟨r, rfl, ho, HC2.out, HG2.out⟩
  · obtain ⟨r, hr, ho⟩ := HD.out 3 (by omega)
    have hop := fun t w => run_float_arith (P := Try.prog) w .quo t .f32 a 1115684864 r hr
    clear hr
    go_wp2_with (simp only [hop])
    go_ret
    exact ⟨r, rfl, ho, HC2.out, HG2.out⟩
  · obtain ⟨r, hr, ho⟩ := HD.out 4 (by omega)
    have hop := fun t w => run_float_arith (P := Try.prog) w .quo t .f32 a 1120403456 r hr
    clear hr
    go_wp2_with (simp only [hop])
    go_ret
    exact ⟨r, rfl, ho, HC2.out, HG2.out⟩
  · obtain ⟨r, hr, ho⟩ := HD.out 5 (by omega)
    have hop := fun t w => run_float_arith (P := Try.prog) w .quo t .f32 a 1077936128 r hr
    clear hr
    go_wp2_with (simp only [hop])
    go_ret
    exact ⟨r, rfl, ho, HC2.out, HG2.out⟩
end Go.Proofs.Ytekkgpanmccdgaa

/-
  The draw of a point.
-/
namespace Go.Proofs.Ytekkgpanmccdgaa
open Go.ChangeShapes Go.WideShapes Go.ChangeAt Go.RowKit Go.Joins
set_option linter.unusedSimpArgs false
set_option linter.unusedVariables false
set_option maxRecDepth 100000
attribute [local go_sem] store_f
open Ieee

theorem run_negf (P : Program) (w : World) (k : FloatKind) (b : Nat) : (Op.unary .neg (.float k b)).run P w = .ok (.float k (Op.negFloat k b)) w := rfl
theorem neg_word (x : Nat) : Op.negFloat .f32 x = x ^^^ 2 ^ 31 := rfl
theorem ok_neg {x : Nat} (h : okB x = true) : okB (Op.negFloat .f32 x) = true := by
  rw [neg_word]
  simp only [okB, Bool.and_eq_true, decide_eq_true_eq] at h ⊢
  have e : (x ^^^ 2 ^ 31) % 2147483648 = x % 2147483648 := by
    have := Nat.xor_mod_two_pow (a := x) (b := 2 ^ 31) (n := 31)
    simpa using this
  refine ⟨?_, by rw [e]; exact h.2⟩
  have := Nat.xor_lt_two_pow (x := x) (y := 2 ^ 31) (n := 32) (by omega) (by omega)
  simpa using this

structure PointDrawn (B q : Nat) (w : World) (e : Ending) (w' : World) (x y : Nat) : Prop where
  ret : e = .returned (.complex .f32 x y)
  okx : okB x = true
  oky : okB y = true
  cur : Cur B w' q
  grown : w.grownBy w' (some q)

set_option maxHeartbeats 2000000 in
theorem l1Point_s (B q : Nat) (w : World) (hcur : Cur B w q) :
    Calls Try.prog 57 #[.pointer (some ⟨q, 0, Option.none⟩)] w fun e w' => ∃ x y, PointDrawn B q w e w' x y := by
  have HC : Hid (Cur B w q) := hcur
  clear hcur
  go_enter Try.func57, Try.ntmps57
  go_wp2_with fail
  refine (l1Fine_s B q _ HC.out).mono ?_
  rintro e w1 ⟨x, ⟨rfl, hx, hc1, hg1⟩⟩
  have HC1 : Hid (Cur B w1 q) := hc1
  have HG1 : Hid (w.grownBy w1 (some q)) := hg1
  have OX : Hid (okB x = true) := hx
  clear hc1 hg1 hx
  go_wp2_with fail
  refine (l1Below_s B q 7 _ HC1.out (by omega) (by omega)).mono ?_
  rintro e w2 ⟨k, rfl, hx0, hx1, hc2, hg2⟩
  have HC2 : Hid (Cur B w2 q) := hc2
  have HG2 : Hid (w.grownBy w2 (some q)) := grownBy_trans HG1.out hg2
  clear hc2 hg2
  rcases (by omega : k = 0 ∨ k = 1 ∨ k = 2 ∨ k = 3 ∨ (4 ≤ k ∧ k ≠ 0 ∧ k ≠ 1 ∧ k ≠ 2 ∧ k ≠ 3)) with rfl | rfl | rfl | rfl | ⟨h4, n0, n1, n2, n3⟩
  · go_wp2
    go_ret
    exact ⟨x, 0, rfl, OX.out, ok_zero, HC2.out, HG2.out⟩
  · go_wp2
    go_ret
    exact ⟨0, x, rfl, ok_zero, OX.out, HC2.out, HG2.out⟩
  · go_wp2
    go_ret
    exact ⟨x, x, rfl, OX.out, OX.out, HC2.out, HG2.out⟩
  · have hop := fun w => run_negf Try.prog w .f32 x
    have OY := ok_neg OX.out
    generalize Op.negFloat .f32 x = y at hop OY
    go_wp2_with (simp only [hop])
    go_ret
    exact ⟨x, y, rfl, OX.out, OY, HC2.out, HG2.out⟩
  · go_wp2_with fail
    refine (l1Fine_s B q _ HC2.out).mono ?_
    rintro e w3 ⟨y, ⟨rfl, hy, hc3, hg3⟩⟩
    have HC3 : Hid (Cur B w3 q) := hc3
    have HG3 : Hid (w.grownBy w3 (some q)) := grownBy_trans HG2.out hg3
    have OY : Hid (okB y = true) := hy
    clear hc3 hg3 hy
    go_wp2
    go_ret
    exact ⟨x, y, rfl, OX.out, OY.out, HC3.out, HG3.out⟩
/-- What the draw of a kind and a point gives. -/
structure PlaceDrawn (w : World) (e : Ending) (w' : World) (k : Nat) (x y : Nat) : Prop where
  ret : e = .returned (.tuple #[.int .i64 k, .complex .f32 x y])
  lt : k < 4
  okx : okB x = true
  oky : okB y = true
  below : Below w.heap.size w w'

end Go.Proofs.Ytekkgpanmccdgaa

/-
  Is it a symmetry? The program's answer.
-/
namespace Go.Proofs.Ytekkgpanmccdgaa
open Go.ChangeShapes Go.WideShapes Go.ChangeAt Go.RowKit Go.Joins 
set_option linter.unusedSimpArgs false
set_option linter.unusedVariables false

/-- A symmetry as a value. -/
def symV (t : Int) (f : Bool) : Value := .agg #[.int .i64 t, .bool f]

/-- Is the number of turns one of a symmetry? -/
def isSymB (t : Int) : Bool := decide (0 ≤ t) && decide (t < 4)

theorem isSymB_yes {t : Int} (h : 0 ≤ t) (h' : t < 4) : isSymB t = true := by simp [isSymB, h, h']
theorem isSymB_neg {t : Int} (h : t < 0) : isSymB t = false := by simp [isSymB]; omega
theorem isSymB_big {t : Int} (h : 4 ≤ t) : isSymB t = false := by simp [isSymB]; omega

theorem isSym_i (t : Int) (f : Bool) (w : World) :
    Calls Try.prog 60 #[.agg #[.int .i64 t, .bool f]] w fun e w' => e = .returned (.bool (isSymB t)) ∧ Below w.heap.size w w' := by
  rcases (by omega : t < 0 ∨ (0 ≤ t ∧ t < 4) ∨ (0 ≤ t ∧ 4 ≤ t)) with h | ⟨h, h'⟩ | ⟨h, h'⟩
  · rw [isSymB_neg h]
    go_enter Try.func60, Try.ntmps60
    go_wp2
    go_returns
    exact ⟨rfl, by go_grown⟩
  · rw [isSymB_yes h h']
    go_enter Try.func60, Try.ntmps60
    go_wp2
    go_returns
    exact ⟨rfl, by go_grown⟩
  · rw [isSymB_big h']
    have h2 : decide (t < 4) = false := by simp; omega
    go_enter Try.func60, Try.ntmps60
    go_wp2
    go_returns
    exact ⟨rfl, by go_grown⟩

theorem isSymB_iff {t : Int} : isSymB t = true ↔ 0 ≤ t ∧ t < 4 := by simp [isSymB]
theorem isSymB_no {t : Int} (h : isSymB t = false) : t < 0 ∨ (0 ≤ t ∧ 4 ≤ t) := by
  simp [isSymB] at h
  omega
end Go.Proofs.Ytekkgpanmccdgaa
