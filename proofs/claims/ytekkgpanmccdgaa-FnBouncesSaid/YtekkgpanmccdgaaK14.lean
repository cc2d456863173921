/-
  Texts of this proof, joined: Tj, Tk, Tm, Nw, Gd, Tl.
-/
import Derived.Test.YtekkgpanmccdgaaK13
import Derived.Test.YtekkgpanmccdgaaK07
import Derived.Lib.Hide
import Derived.Deep.AppendLies
import Derived.Test.YtekkgpanmccdgaaK10
import Derived.Maps.AppendAt
/-
  The draws of small points, of speeds, of ways.
-/
namespace Go.Proofs.Ytekkgpanmccdgaa
open Go.ChangeShapes Go.WideShapes Go.ChangeAt Go.RowKit Go.Joins
set_option linter.unusedSimpArgs false
set_option linter.unusedVariables false
set_option maxRecDepth 100000
attribute [local go_sem] store_f
open Ieee Go.Lib

/-- A single that the draw may give: finite, of 32 bits, no greater than 640. -/
def smB (x : Nat) : Bool := decide (x < 4294967296) && decide (x % 2147483648 ≤ 1142947840)
def fineSm (m k : Nat) : Bool := match fineB m k with | some r => smB r | none => false
set_option maxRecDepth 1000000
theorem fins_0 : chkTo (fun m => chkTo (fineSm (0 + m)) 6) 100 = true := by decide +kernel
theorem fins_1 : chkTo (fun m => chkTo (fineSm (100 + m)) 6) 100 = true := by decide +kernel
theorem fins_2 : chkTo (fun m => chkTo (fineSm (200 + m)) 6) 100 = true := by decide +kernel
theorem fins_3 : chkTo (fun m => chkTo (fineSm (300 + m)) 6) 100 = true := by decide +kernel
theorem fins_4 : chkTo (fun m => chkTo (fineSm (400 + m)) 6) 100 = true := by decide +kernel
theorem fins_5 : chkTo (fun m => chkTo (fineSm (500 + m)) 6) 100 = true := by decide +kernel
theorem fins_6 : chkTo (fun m => chkTo (fineSm (600 + m)) 6) 100 = true := by decide +kernel
theorem fins_7 : chkTo (fun m => chkTo (fineSm (700 + m)) 6) 100 = true := by decide +kernel
theorem fins_8 : chkTo (fun m => chkTo (fineSm (800 + m)) 6) 100 = true := by decide +kernel
theorem fins_9 : chkTo (fun m => chkTo (fineSm (900 + m)) 6) 100 = true := by decide +kernel
theorem fins_10 : chkTo (fun m => chkTo (fineSm (1000 + m)) 6) 100 = true := by decide +kernel
theorem fins_11 : chkTo (fun m => chkTo (fineSm (1100 + m)) 6) 100 = true := by decide +kernel
theorem fins_12 : chkTo (fun m => chkTo (fineSm (1200 + m)) 6) 81 = true := by decide +kernel

theorem fine_sm (m k : Nat) (hm : m < 1281) (hk : k < 6) : ∃ r, fineB m k = some r ∧ smB r = true := by
  have key : fineSm m k = true := by
    rcases (by omega : (0 ≤ m ∧ m < 100) ∨ (100 ≤ m ∧ m < 200) ∨ (200 ≤ m ∧ m < 300) ∨ (300 ≤ m ∧ m < 400) ∨ (400 ≤ m ∧ m < 500) ∨ (500 ≤ m ∧ m < 600) ∨ (600 ≤ m ∧ m < 700) ∨ (700 ≤ m ∧ m < 800) ∨ (800 ≤ m ∧ m < 900) ∨ (900 ≤ m ∧ m < 1000) ∨ (1000 ≤ m ∧ m < 1100) ∨ (1100 ≤ m ∧ m < 1200) ∨ (1200 ≤ m ∧ m < 1281)) with h | h | h | h | h | h | h | h | h | h | h | h | h
    · have h1 := chkTo_at (chkTo_at fins_0 (m - 0) (by omega)) k hk
      rwa [show 0 + (m - 0) = m by omega] at h1
    · have h1 := chkTo_at (chkTo_at fins_1 (m - 100) (by omega)) k hk
      rwa [show 100 + (m - 100) = m by omega] at h1
    · have h1 := chkTo_at (chkTo_at fins_2 (m - 200) (by omega)) k hk
      rwa [show 200 + (m - 200) = m by omega] at h1
    · have h1 := chkTo_at (chkTo_at fins_3 (m - 300) (by omega)) k hk
      rwa [show 300 + (m - 300) = m by omega] at h1
    · have h1 := chkTo_at (chkTo_at fins_4 (m - 400) (by omega)) k hk
      rwa [show 400 + (m - 400) = m by omega] at h1
    · have h1 := chkTo_at (chkTo_at fins_5 (m - 500) (by omega)) k hk
      rwa [show 500 + (m - 500) = m by omega] at h1
    · have h1 := chkTo_at (chkTo_at fins_6 (m - 600) (by omega)) k hk
      rwa [show 600 + (m - 600) = m by omega] at h1
    · have h1 := chkTo_at (chkTo_at fins_7 (m - 700) (by omega)) k hk
      rwa [show 700 + (m - 700) = m by omega] at h1
    · have h1 := chkTo_at (chkTo_at fins_8 (m - 800) (by omega)) k hk
      rwa [show 800 + (m - 800) = m by omega] at h1
    · have h1 := chkTo_at (chkTo_at fins_9 (m - 900) (by omega)) k hk
      rwa [show 900 + (m - 900) = m by omega] at h1
    · have h1 := chkTo_at (chkTo_at fins_10 (m - 1000) (by omega)) k hk
      rwa [show 1000 + (m - 1000) = m by omega] at h1
    · have h1 := chkTo_at (chkTo_at fins_11 (m - 1100) (by omega)) k hk
      rwa [show 1100 + (m - 1100) = m by omega] at h1
    · have h1 := chkTo_at (chkTo_at fins_12 (m - 1200) (by omega)) k hk
      rwa [show 1200 + (m - 1200) = m by omega] at h1
  unfold fineSm at key
  cases h : fineB m k with
  | none => rw [h] at key; cases key
  | some r => rw [h] at key; exact ⟨r, rfl, key⟩

structure FineDrawnM (B q : Nat) (w : World) (e : Ending) (w' : World) (x : Nat) : Prop where
  ret : e = .returned (.float .f32 x)
  ok : smB x = true
  cur : Cur B w' q
  grown : w.grownBy w' (some q)
set_option maxHeartbeats 2000000 in
theorem l1Fine_m (B q : Nat) (w : World) (hcur : Cur B w q) :
    Calls Try.prog 103 #[.pointer (some ⟨q, 0, Option.none⟩)] w fun e w' => ∃ x, FineDrawnM B q w e w' x := by
  have HC : Hid (Cur B w q) := hcur
  have hq := hcur.lt
  clear hcur
  go_enter Try.func103, Try.ntmps103
  go_wp2_with fail
  refine (l1Some_s B q _ HC.out).mono ?_
  rintro e w1 ⟨m, ⟨rfl, hm, hc1, hg1⟩⟩
  have HC1 : Hid (Cur B w1 q) := hc1
  have HG1 : Hid (w.grownBy w1 (some q)) := hg1
  have hq1 := hc1.lt
  have HD : Hid (∀ k, k < 6 → ∃ r, F32.div (floatOfInt .f32 ((m : Int) - 640)) (divsB k) = some r ∧ smB r = true) := fun k hk => fine_sm m k hm hk
  clear hc1 hg1
  go_wp2_with fail
  refine (l1Below_s B q 6 _ HC1.out.alloc (by omega) (by omega)).mono ?_
  rintro e w2 ⟨x, rfl, hx0, hx1, hc2, hg2⟩
  have HC2 : Hid (Cur B w2 q) := hc2
  have HG2 : Hid (w.grownBy w2 (some q)) := grownBy_trans (grown_alloc HG1.out _) hg2
  have HB : Blk w2 w1.heap.size #[.float .f32 1065353216, .float .f32 1073741824, .float .f32 1098907648, .float .f32 1115684864, .float .f32 1120403456, .float .f32 1077936128] _ := Blk.grown (Blk.new _ _ _) hg2 (by omega)
  have hl := HB.lt
  have c0 := Blk.cellAt (i := 0) HB rfl
  have c1 := Blk.cellAt (i := 1) HB rfl
  have c2 := Blk.cellAt (i := 2) HB rfl
  have c3 := Blk.cellAt (i := 3) HB rfl
  have c4 := Blk.cellAt (i := 4) HB rfl
  have c5 := Blk.cellAt (i := 5) HB rfl
  simp at c0 c1 c2 c3 c4 c5
  clear hc2 hg2 HB
  generalize floatOfInt .f32 ((m : Int) - 640) = a at HD ⊢
  rcases (by omega : x = 0 ∨ x = 1 ∨ x = 2 ∨ x = 3 ∨ x = 4 ∨ x = 5) with rfl | rfl | rfl | rfl | rfl | rfl
  · obtain ⟨r, hr, ho⟩ := HD.out 0 (by omega)
    have hop := fun t w => run_float_arith (P := Try.prog) w .quo t .f32 a 1065353216 r hr
    clear hr
    go_wp2_with (simp only [hop])
    go_ret
    exact ⟨r, rfl, ho, HC2.out, HG2.out⟩
  · obtain ⟨r, hr, ho⟩ := HD.out 1 (by omega)
    have hop := fun t w => run_float_arith (P := Try.prog) w .quo t .f32 a 1073741824 r hr
    clear hr
    go_wp2_with (simp only [hop])
    go_ret
    exact ⟨r, rfl, ho, HC2.out, HG2.out⟩
  · obtain ⟨r, hr, ho⟩ := HD.out 2 (by omega)
    have hop := fun t w => run_float_arith (P := Try.prog) w .quo t .f32 a 1098907648 r hr
    clear hr
    go_wp2_with (simp only [hop])
    go_ret
    exact ⟨r, rfl, ho, HC2.out, HG2.out⟩
  · obtain ⟨r, hr, ho⟩ := HD.out 3 (by omega)
    have hop := fun t w => run_float_arith (P := Try.prog) w .quo t .f32 a 1115684864 r hr
    clear hr
    go_wp2_with (simp only [hop])
    go_ret
    exact ⟨r, rfl, ho, HC2.out, HG2.out⟩
  · obtain ⟨r, hr, ho⟩ := HD.out 4 (by omega)
    have hop := fun t w => run_float_arith (P := Try.prog) w .quo t .f32 a 1120403456 r hr
    clear hr
    go_wp2_with (simp only [hop])
    go_ret
    exact ⟨r, rfl, ho, HC2.out, HG2.out⟩
  · obtain ⟨r, hr, ho⟩ := HD.out 5 (by omega)
    have hop := fun t w => run_float_arith (P := Try.prog) w .quo t .f32 a 1077936128 r hr
    clear hr
    go_wp2_with (simp only [hop])
    go_ret
    exact ⟨r, rfl, ho, HC2.out, HG2.out⟩
theorem sm_zero : smB 0 = true := by decide
theorem sm_neg {x : Nat} (h : smB x = true) : smB (Op.negFloat .f32 x) = true := by
  rw [neg_word]
  simp only [smB, Bool.and_eq_true, decide_eq_true_eq] at h ⊢
  have e : (x ^^^ 2 ^ 31) % 2147483648 = x % 2147483648 := by
    have := Nat.xor_mod_two_pow (a := x) (b := 2 ^ 31) (n := 31)
    simpa using this
  refine ⟨?_, by rw [e]; exact h.2⟩
  have := Nat.xor_lt_two_pow (x := x) (y := 2 ^ 31) (n := 32) (by omega) (by omega)
  simpa using this

structure PointDrawnM (B q : Nat) (w : World) (e : Ending) (w' : World) (x y : Nat) : Prop where
  ret : e = .returned (.complex .f32 x y)
  okx : smB x = true
  oky : smB y = true
  cur : Cur B w' q
  grown : w.grownBy w' (some q)

set_option maxHeartbeats 2000000 in
theorem l1Point_m (B q : Nat) (w : World) (hcur : Cur B w q) :
    Calls Try.prog 57 #[.pointer (some ⟨q, 0, Option.none⟩)] w fun e w' => ∃ x y, PointDrawnM B q w e w' x y := by
  have HC : Hid (Cur B w q) := hcur
  clear hcur
  go_enter Try.func57, Try.ntmps57
  go_wp2_with fail
  refine (l1Fine_m B q _ HC.out).mono ?_
  rintro e w1 ⟨x, ⟨rfl, hx, hc1, hg1⟩⟩
  have HC1 : Hid (Cur B w1 q) := hc1
  have HG1 : Hid (w.grownBy w1 (some q)) := hg1
  have OX : Hid (smB x = true) := hx
  clear hc1 hg1 hx
  go_wp2_with fail
  refine (l1Below_s B q 7 _ HC1.out (by omega) (by omega)).mono ?_
  rintro e w2 ⟨k, rfl, hx0, hx1, hc2, hg2⟩
  have HC2 : Hid (Cur B w2 q) := hc2
  have HG2 : Hid (w.grownBy w2 (some q)) := grownBy_trans HG1.out hg2
  clear hc2 hg2
  rcases (by omega : k = 0 ∨ k = 1 ∨ k = 2 ∨ k = 3 ∨ (4 ≤ k ∧ k ≠ 0 ∧ k ≠ 1 ∧ k ≠ 2 ∧ k ≠ 3)) with rfl | rfl | rfl | rfl | ⟨h4, n0, n1, n2, n3⟩
  · go_wp2
    go_ret
    exact ⟨x, 0, rfl, OX.out, sm_zero, HC2.out, HG2.out⟩
  · go_wp2
    go_ret
    exact ⟨0, x, rfl, sm_zero, OX.out, HC2.out, HG2.out⟩
  · go_wp2
    go_ret
    exact ⟨x, x, rfl, OX.out, OX.out, HC2.out, HG2.out⟩
  · have hop := fun w => run_negf Try.prog w .f32 x
    have OY := sm_neg OX.out
    generalize Op.negFloat .f32 x = y at hop OY
    go_wp2_with (simp only [hop])
    go_ret
    exact ⟨x, y, rfl, OX.out, OY, HC2.out, HG2.out⟩
  · go_wp2_with fail
    refine (l1Fine_m B q _ HC2.out).mono ?_
    rintro e w3 ⟨y, ⟨rfl, hy, hc3, hg3⟩⟩
    have HC3 : Hid (Cur B w3 q) := hc3
    have HG3 : Hid (w.grownBy w3 (some q)) := grownBy_trans HG2.out hg3
    have OY : Hid (smB y = true) := hy
    clear hc3 hg3 hy
    go_wp2
    go_ret
    exact ⟨x, y, rfl, OX.out, OY.out, HC3.out, HG3.out⟩

theorem sm_ok {x : Nat} (h : smB x = true) : okB x = true := by
  simp only [smB, okB, Bool.and_eq_true, decide_eq_true_eq] at h ⊢
  omega
theorem sm_rung {x : Nat} (h : smB x = true) : rungOf F32 x ≤ 1142947840 := by
  simp only [smB, Bool.and_eq_true, decide_eq_true_eq] at h
  unfold rungOf; rw [F32_sw]; exact h.2
theorem mag_640 : magOf F32 1142947840 = 640 * 2 ^ 149 := by decide +kernel
theorem mag_5 : magOf F32 1084227584 = 5 * 2 ^ 149 := by decide +kernel
theorem sm_abs {x : Nat} (h : smB x = true) : (valOf F32 x).natAbs ≤ 640 * 2 ^ 149 := by
  rw [abs_val, ← mag_640]
  exact magOf_le F32 (sm_rung h)
theorem val_cleanM {x : Nat} (h : Fin32 x) : valOf F32 (cleanB x) = valOf F32 x := by
  rw [clean_eq h]
  by_cases h0 : rungOf F32 x = 0
  · rw [if_pos h0, val_zero, val_eq_zero.2 h0]
  · rw [if_neg h0]
/-- The point that two drawn words stand for is no greater than 640. -/
theorem lim_ptOf {x y : Nat} (hx : smB x = true) (hy : smB y = true) : Lim 640 (ptOf (sm_ok hx) (sm_ok hy)) := by
  refine ⟨?_, ?_⟩
  · show (valOf F32 (cleanB x)).natAbs ≤ _
    rw [val_cleanM (ok_fin (sm_ok hx))]; exact sm_abs hx
  · show (valOf F32 (cleanB y)).natAbs ≤ _
    rw [val_cleanM (ok_fin (sm_ok hy))]; exact sm_abs hy

/-! Speeds. -/
structure SmallM (B q : Nat) (w : World) (e : Ending) (w' : World) (n : Nat) (o : Int) (m : Nat) : Prop where
  ret : e = .returned (.int .i64 ((m : Int) - o))
  lt : m < n
  cur : Cur B w' q
  grown : w.grownBy w' (some q)
set_option maxHeartbeats 1000000 in
theorem some_40 (B q : Nat) (w : World) (hcur : Cur B w q) :
    Calls Try.prog 82 #[.pointer (some ⟨q, 0, Option.none⟩), .int .i64 (-40), .int .i64 40] w fun e w' => ∃ m, SmallM B q w e w' 81 40 m := by
  have HC : Hid (Cur B w q) := hcur
  clear hcur
  go_enter Try.func82, Try.ntmps82
  go_wp2_with fail
  refine (l1Below_s B q 81 _ HC.out (by omega) (by omega)).mono ?_
  rintro e w1 ⟨x, rfl, hx0, hx1, hc1, hg1⟩
  obtain ⟨n, rfl⟩ : ∃ n : Nat, x = n := ⟨x.toNat, by omega⟩
  have HC1 : Hid (Cur B w1 q) := hc1
  have HG1 : Hid (w.grownBy w1 (some q)) := hg1
  have hn : n < 81 := by omega
  clear hc1 hg1
  go_wp2
  go_ret
  exact ⟨n, by first | rfl | (simp; omega), hn, HC1.out, HG1.out⟩
set_option maxHeartbeats 1000000 in
theorem some_8 (B q : Nat) (w : World) (hcur : Cur B w q) :
    Calls Try.prog 82 #[.pointer (some ⟨q, 0, Option.none⟩), .int .i64 (-8), .int .i64 8] w fun e w' => ∃ m, SmallM B q w e w' 17 8 m := by
  have HC : Hid (Cur B w q) := hcur
  clear hcur
  go_enter Try.func82, Try.ntmps82
  go_wp2_with fail
  refine (l1Below_s B q 17 _ HC.out (by omega) (by omega)).mono ?_
  rintro e w1 ⟨x, rfl, hx0, hx1, hc1, hg1⟩
  obtain ⟨n, rfl⟩ : ∃ n : Nat, x = n := ⟨x.toNat, by omega⟩
  have HC1 : Hid (Cur B w1 q) := hc1
  have HG1 : Hid (w.grownBy w1 (some q)) := hg1
  have hn : n < 17 := by omega
  clear hc1 hg1
  go_wp2
  go_ret
  exact ⟨n, by first | rfl | (simp; omega), hn, HC1.out, HG1.out⟩
/-- A whole number over a divisor. -/
def overB (d : Nat) (z : Int) : Nat := match F32.div (floatOfInt .f32 z) d with | some r => r | none => 0
theorem sp_8 : ∀ m : Nat, m < 81 → F32.div (floatOfInt .f32 ((m : Int) - 40)) 1090519040 = some (overB 1090519040 ((m : Int) - 40)) ∧ overB 1090519040 ((m : Int) - 40) < 4294967296 ∧ overB 1090519040 ((m : Int) - 40) % 2147483648 ≤ 1084227584 ∧ (overB 1090519040 ((m : Int) - 40) % 2147483648 = 0 → overB 1090519040 ((m : Int) - 40) = 0) := by decide +kernel
theorem sp_10 : ∀ m : Nat, m < 81 → F32.div (floatOfInt .f32 ((m : Int) - 40)) 1092616192 = some (overB 1092616192 ((m : Int) - 40)) ∧ overB 1092616192 ((m : Int) - 40) < 4294967296 ∧ overB 1092616192 ((m : Int) - 40) % 2147483648 ≤ 1084227584 ∧ (overB 1092616192 ((m : Int) - 40) % 2147483648 = 0 → overB 1092616192 ((m : Int) - 40) = 0) := by decide +kernel
theorem gr_8 : ∀ m : Nat, m < 17 → F32.div (floatOfInt .f32 ((m : Int) - 8)) 1090519040 = some (overB 1090519040 ((m : Int) - 8)) ∧ overB 1090519040 ((m : Int) - 8) < 4294967296 ∧ overB 1090519040 ((m : Int) - 8) % 2147483648 ≤ 1065353216 ∧ (overB 1090519040 ((m : Int) - 8) % 2147483648 = 0 → overB 1090519040 ((m : Int) - 8) = 0) := by decide +kernel
theorem pt_small {x R : Nat} (hR : R ≤ 1166016512) (h1 : x < 4294967296) (h2 : x % 2147483648 ≤ R) (h3 : x % 2147483648 = 0 → x = 0) : Pt x ∧ (valOf F32 x).natAbs ≤ magOf F32 R := by
  have hr : rungOf F32 x = x % 2147483648 := by unfold rungOf; rw [F32_sw]
  refine ⟨⟨⟨by unfold Fin32; rw [hr, F32_inf]; omega, h1, fun h => h3 (by rw [← hr]; exact h)⟩, ?_⟩, ?_⟩
  · simp only [okB, Bool.and_eq_true, decide_eq_true_eq]; omega
  · rw [abs_val]; exact magOf_le F32 (by rw [hr]; exact h2)
structure SpeedDrawn (B q : Nat) (w : World) (e : Ending) (w' : World) (K : Nat) (p : PtW) : Prop where
  ret : e = .returned (.complex .f32 p.1.1 p.1.2)
  lim : Lim K p
  cur : Cur B w' q
  grown : w.grownBy w' (some q)
set_option maxHeartbeats 2000000 in
theorem l5Speed_s (B q : Nat) (w : World) (hcur : Cur B w q) :
    Calls Try.prog 58 #[.pointer (some ⟨q, 0, Option.none⟩)] w fun e w' => ∃ p, SpeedDrawn B q w e w' 5 p := by
  have HC : Hid (Cur B w q) := hcur
  clear hcur
  go_enter Try.func58, Try.ntmps58
  go_wp2_with fail
  refine (some_40 B q _ HC.out).mono ?_
  rintro e w1 ⟨m, ⟨rfl, hm, hc1, hg1⟩⟩
  have HC1 : Hid (Cur B w1 q) := hc1
  have HG1 : Hid (w.grownBy w1 (some q)) := hg1
  obtain ⟨e1, a1, a2, a3⟩ := sp_8 m hm
  obtain ⟨P1, L1⟩ := pt_small (by omega) a1 a2 a3
  have hop1 := fun t w => run_float_arith (P := Try.prog) w .quo t .f32 (floatOfInt .f32 ((m : Int) - 40)) 1090519040 _ e1
  have HP1 := Lib.hid P1
  have HL1 := Lib.hid L1
  clear hc1 hg1 e1 a1 a2 a3 P1 L1
  generalize overB 1090519040 ((m : Int) - 40) = x at *
  go_wp2_with (simp only [hop1])
  refine (some_40 B q _ HC1.out).mono ?_
  rintro e w2 ⟨k, ⟨rfl, hk, hc2, hg2⟩⟩
  have HC2 : Hid (Cur B w2 q) := hc2
  have HG2 : Hid (w.grownBy w2 (some q)) := grownBy_trans HG1.out hg2
  obtain ⟨e1, a1, a2, a3⟩ := sp_10 k hk
  obtain ⟨P2, L2⟩ := pt_small (by omega) a1 a2 a3
  have hop2 := fun t w => run_float_arith (P := Try.prog) w .quo t .f32 (floatOfInt .f32 ((k : Int) - 40)) 1092616192 _ e1
  have HP2 := Lib.hid P2
  have HL2 := Lib.hid L2
  clear hc2 hg2 e1 a1 a2 a3 P2 L2 hop1
  generalize overB 1092616192 ((k : Int) - 40) = y at *
  go_wp2_with (simp only [hop2])
  go_ret
  exact ⟨⟨(x, y), HP1.out, HP2.out⟩, ⟨rfl, ⟨by rw [← mag_5]; exact HL1.out, by rw [← mag_5]; exact HL2.out⟩, HC2.out, HG2.out⟩⟩

/-- What the draw of a way gives. -/
structure WayDrawn (w : World) (e : Ending) (w' : World) (k : Nat) (x y : Nat) (v : PtW) (n : Nat) : Prop where
  ret : e = .returned (.tuple #[.int .i64 k, .complex .f32 x y, .complex .f32 v.1.1 v.1.2, .int .i64 n])
  lt : k < 4
  okx : smB x = true
  oky : smB y = true
  lim : Lim 5 v
  few : n < 24
  below : Below w.heap.size w w'
set_option maxHeartbeats 4000000 in
theorem drawWay_s (a : Option Addr) (len cap : Nat) (bs : List Int) (w : World) (hrow : ByteRow w w.heap.size a len bs) (hlen : len ≤ 4096) :
    Calls Try.prog 20 #[.slice a len cap] w fun e w' => ∃ k x y v n, WayDrawn w e w' k x y v n := by
  go_enter Try.func20, Try.ntmps20
  go_wp2_with fail
  refine (l1New_s a len cap bs _ hrow hlen).mono ?_
  rintro e w1 ⟨q, rfl, hql, hcur, hb1⟩
  have hqB := hcur.ge
  have C1 : Hid (Cur w.heap.size w1 q) := hcur
  have B1 : Hid (Below w.heap.size w w1) := hb1
  have s1 := hb1.size
  clear hcur hb1 hrow
  go_wp2_with fail
  refine (l1Below_s w.heap.size q 4 _ C1.out (by omega) (by omega)).mono ?_
  rintro e w2 ⟨k, rfl, hk0, hk1, hc2, hg2⟩
  obtain ⟨n, rfl⟩ : ∃ n : Nat, k = n := ⟨k.toNat, by omega⟩
  have hn : n < 4 := by omega
  have C2 : Hid (Cur w.heap.size w2 q) := hc2
  have G2 : Hid (w1.grownBy w2 (some q)) := hg2
  clear hc2 hg2
  go_wp2_with fail
  refine (l1Point_m w.heap.size q _ C2.out).mono ?_
  rintro e w3 ⟨x, y, ⟨rfl, hx, hy, hc3, hg3⟩⟩
  have C3 : Hid (Cur w.heap.size w3 q) := hc3
  have G3 : Hid (w1.grownBy w3 (some q)) := grownBy_trans G2.out hg3
  have OX : Hid (smB x = true) := hx
  have OY : Hid (smB y = true) := hy
  clear hc3 hg3 hx hy
  go_wp2_with fail
  refine (l5Speed_s w.heap.size q _ C3.out).mono ?_
  rintro e w4 ⟨p, ⟨rfl, hl, hc4, hg4⟩⟩
  have C4 : Hid (Cur w.heap.size w4 q) := hc4
  have G4 : Hid (w1.grownBy w4 (some q)) := grownBy_trans G3.out hg4
  have LV : Hid (Lim 5 p) := hl
  clear hc4 hg4 hl
  go_wp2_with fail
  refine (l1Below_s w.heap.size q 24 _ C4.out (by omega) (by omega)).mono ?_
  rintro e w5 ⟨j, rfl, hj0, hj1, hc5, hg5⟩
  obtain ⟨m, rfl⟩ : ∃ m : Nat, j = m := ⟨j.toNat, by omega⟩
  have B5 : Hid (Below w.heap.size w w5) := Below.trans B1.out (below_of_grown (grownBy_trans G4.out hg5) hqB s1)
  have hm : m < 24 := by omega
  clear hc5 hg5
  go_wp2
  exact bodyPost_ret (v := .tuple #[.int .i64 n, .complex .f32 x y, .complex .f32 p.1.1 p.1.2, .int .i64 m]) (by simp [results, Try.results20, go_sem]) rfl ⟨n, x, y, p, m, rfl, hn, OX.out, OY.out, LV.out, hm, B5.out⟩
end Go.Proofs.Ytekkgpanmccdgaa

/-
  Ticks of points: what the program's ticks are, for tumbles that are drawn.
-/
namespace Go.Proofs.Ytekkgpanmccdgaa
open Go.ChangeShapes Go.WideShapes Go.ChangeAt Go.RowKit Go.Joins
set_option linter.unusedSimpArgs false
set_option linter.unusedVariables false
set_option maxRecDepth 100000
attribute [local go_sem] store_f
open Ieee Go.Lib

/-! The first symmetry that takes a point into the wedge. -/
def foldS (kind : Int) (p : PtW) : Int × Bool := ((symsTo kind 8).find? fun s => wed kind (actP s p)).getD (0, false)
theorem fold_first {kind : Int} {p : PtW} {n : Nat} (F : First kind (symsTo kind 8) p n) : (symsTo kind 8).getD n (0, false) = foldS kind p := by
  have h : (symsTo kind 8).find? (fun s => wed kind (actP s p)) = some ((symsTo kind 8).getD n (0, false)) := by
    rw [List.find?_eq_some_iff_getElem]
    have hl := F.lt
    have e : ∀ j, j < (symsTo kind 8).length → (symsTo kind 8).getD j (0, false) = (symsTo kind 8)[j]! := fun j hj => by simp [List.getD, hj]
    refine ⟨F.yes, n, hl, by simp [List.getD, hl], fun j hj => ?_⟩
    have h1 := F.no j hj
    have e2 : (symsTo kind 8).getD j (0, false) = (symsTo kind 8)[j] := by simp [List.getD, Nat.lt_trans hj hl]
    rw [e2] at h1
    simp [h1]
  unfold foldS
  rw [h]; rfl
structure FoldIs (kind : Int) (p : PtW) : Prop where
  mem : foldS kind p ∈ symsTo kind 8
  wed : wed kind (actP (foldS kind p) p) = true
  call : FoldM kind p.1.1 p.1.2 (actP (foldS kind p) p).1.1 (actP (foldS kind p) p).1.2 (foldS kind p).1 (foldS kind p).2
theorem foldIs {kind : Int} (h0 : 0 ≤ kind) (h3 : kind ≤ 3) (p : PtW) : FoldIs kind p := by
  obtain ⟨n, F⟩ := first_of h0 h3 p
  have hrg := syms_range kind h0 h3
  have SM : SymsM kind (symsTo kind 8) := ⟨fun w => symsOf_i kind w⟩
  have PY : PtYes p.1.1 p.1.2 := ⟨fun w => isPoint_yes _ _ w (ok_in p.2.1.ok) (ok_in p.2.2.ok)⟩
  have FM := foldPoint_i SM (symsTo_le kind 8) PY (acts_pt hrg p) ⟨fun k hk => inWedge_p h0 h3 _⟩ F
  have hm := getD_memS F.lt
  have hw := F.yes
  rw [fold_first F] at FM hm hw
  exact ⟨hm, hw, FM⟩

/-! One tick of one bead. -/
def hitS (kind : Int) (g : PtW) (b : PtW × PtW) : Int × Bool := foldS kind (sumP b.1 (sumP b.2 g))
def hits (kind : Int) (g : PtW) (b : PtW × PtW) : Bool := decide (¬ ((hitS kind g b).1 = 0 ∧ (hitS kind g b).2 = false))
def bstep (kind : Int) (g : PtW) (k : Nat) (b : PtW × PtW) : PtW × PtW :=
  (actP (hitS kind g b) (sumP b.1 (sumP b.2 g)), if hits kind g b then prodP (actP (hitS kind g b) (sumP b.2 g)) k else actP (hitS kind g b) (sumP b.2 g))
def wd (b : PtW × PtW) : Bw := ⟨b.1.1.1, b.1.1.2, b.2.1.1, b.2.1.2⟩
/-- A tick is possible for a bead. -/
structure Can (g : PtW) (b : PtW × PtW) : Prop where
  v : InSum b.2 g
  z : InSum b.1 (sumP b.2 g)
theorem join_sum {p q : PtW} (h : InSum p q) : Join 63 p.1.1 p.1.2 q.1.1 q.1.2 (sumP p q).1.1 (sumP p q).1.2 := by
  rw [sumP_1 h]
  exact join_s (sum2 p.2.1.cl.fin q.2.1.cl.fin) (sum2 p.2.2.cl.fin q.2.2.cl.fin)
theorem join_prod {p : PtW} {k : Nat} (hk : Keep k) : Join 64 p.1.1 p.1.2 k k (prodP p k).1.1 (prodP p k).1.2 := by
  rw [prodP_1 (prodP_of hk).1]
  exact join_p (prod2 p.2.1.cl.fin hk.fin) (prod2 p.2.2.cl.fin hk.fin)
theorem pt_is (p : PtW) : PtIs p.1.1 p.1.2 true := ptYes (ok_in p.2.1.ok) (ok_in p.2.2.ok)
theorem hits_eq (kind : Int) (g : PtW) (b : PtW × PtW) : hits kind g b = decide (¬ ((foldS kind (sumP b.1 (sumP b.2 g))).1 = 0 ∧ (foldS kind (sumP b.1 (sumP b.2 g))).2 = false)) := by
  unfold hits hitS; rfl
theorem bstep_eq (kind : Int) (g : PtW) (k : Nat) (b : PtW × PtW) : bstep kind g k b = (actP (foldS kind (sumP b.1 (sumP b.2 g))) (sumP b.1 (sumP b.2 g)), if hits kind g b then prodP (actP (foldS kind (sumP b.1 (sumP b.2 g))) (sumP b.2 g)) k else actP (foldS kind (sumP b.1 (sumP b.2 g))) (sumP b.2 g)) := by
  unfold bstep hitS; rfl
theorem move_mk {kind : Int} {g1 g2 ls k : Nat} {b : Bw} {v z p u r : PtW} {s : Int × Bool} (J1 : Join 63 b.v1 b.v2 g1 g2 v.1.1 v.1.2) (J2 : Join 63 b.a1 b.a2 v.1.1 v.1.2 z.1.1 z.1.2) (F : FoldM kind z.1.1 z.1.2 p.1.1 p.1.2 s.1 s.2)
    (P : PtIs v.1.1 v.1.2 true) (A : ActM s.1 s.2 v.1.1 v.1.2 u.1.1 u.1.2) (D : Op2 128 1065353216 ls k) (J : Join 64 u.1.1 u.1.2 k k r.1.1 r.1.2) :
    MoveM kind g1 g2 ls b (wd (p, if decide (¬ (s.1 = 0 ∧ s.2 = false)) then r else u)) (decide (¬ (s.1 = 0 ∧ s.2 = false))) := by
  by_cases h : s.1 = 0 ∧ s.2 = false
  · have e : decide (¬ (s.1 = 0 ∧ s.2 = false)) = false := by simp [h]
    have M := move_i (c := ⟨p.1.1, p.1.2, u.1.1, u.1.2⟩) (t := s.1) (f := s.2) ⟨J1, J2, F, P, A, D, fun _ _ => ⟨rfl, rfl⟩, fun hh => absurd h hh⟩
    rw [e] at M ⊢
    exact M
  · have e : decide (¬ (s.1 = 0 ∧ s.2 = false)) = true := decide_eq_true h
    have M := move_i (c := ⟨p.1.1, p.1.2, r.1.1, r.1.2⟩) (t := s.1) (f := s.2) ⟨J1, J2, F, P, A, D, fun h1 h2 => absurd ⟨h1, h2⟩ h, fun _ => J⟩
    rw [e] at M ⊢
    exact M
theorem move_of_b {kind : Int} {g : PtW} {ls : Nat} {b : PtW × PtW} (h0 : 0 ≤ kind) (h3 : kind ≤ 3) (hl : ls ≤ 1065353216) (C : Can g b) : MoveM kind g.1.1 g.1.2 ls (wd b) (wd (bstep kind g (keptW ls) b)) (hits kind g b) := by
  have F := foldIs h0 h3 (sumP b.1 (sumP b.2 g))
  have hk := kept_keep hl
  have D : Op2 128 1065353216 ls (keptW ls) := by unfold keptW; exact diff2 (fin_of_lt (by omega)) (fin_of_lt (by omega))
  have M := move_mk (b := wd b) (join_sum C.v) (join_sum C.z) F.call (pt_is _) (actM_pt (sumP b.2 g) (syms_range kind h0 h3 _ F.mem)) D (join_prod (p := actP (foldS kind (sumP b.1 (sumP b.2 g))) (sumP b.2 g)) hk)
  rw [bstep_eq, hits_eq]
  exact M

theorem step_lim {kind : Int} {g : PtW} {k : Nat} {b : PtW × PtW} {V G A : Nat} (h0 : 0 ≤ kind) (h3 : kind ≤ 3) (hk : Keep k) (hg : Lim G g) (hv : Lim V b.2) (ha : Lim A b.1) (h : A + (V + G) < 1600) :
    Can g b ∧ Lim (V + G) (bstep kind g k b).2 ∧ Lim (A + (V + G)) (bstep kind g k b).1 ∧ wed kind (bstep kind g k b).1 = true := by
  obtain ⟨I, hs⟩ := lim_sum hv hg (by omega)
  obtain ⟨J, hz⟩ := lim_sum ha hs h
  have F := foldIs h0 h3 (sumP b.1 (sumP b.2 g))
  rw [bstep_eq]
  have hs2 := lim_act (foldS kind (sumP b.1 (sumP b.2 g))) hs
  refine ⟨⟨I, J⟩, ?_, lim_act _ hz, F.wed⟩
  dsimp only
  split
  · obtain ⟨_, h1, h2⟩ := prodP_of (p := actP (foldS kind (sumP b.1 (sumP b.2 g))) (sumP b.2 g)) hk
    exact ⟨Nat.le_trans h1 hs2.x, Nat.le_trans h2 hs2.y⟩
  · exact hs2

/-! Runs. -/
def runL (kind : Int) (g : PtW) (k : Nat) : Nat → List (PtW × PtW) → List (PtW × PtW)
  | 0, l => l
  | j + 1, l => (runL kind g k j l).map (bstep kind g k)
theorem runL_len (kind : Int) (g : PtW) (k : Nat) (l : List (PtW × PtW)) : ∀ j, (runL kind g k j l).length = l.length
  | 0 => rfl
  | j + 1 => by rw [runL, List.length_map, runL_len kind g k l j]
theorem runL_add (kind : Int) (g : PtW) (k i : Nat) (l : List (PtW × PtW)) : ∀ j, runL kind g k (i + j) l = runL kind g k j (runL kind g k i l)
  | 0 => rfl
  | j + 1 => by
    show (runL kind g k (i + j) l).map _ = (runL kind g k j _).map _
    rw [runL_add kind g k i l j]
/-- A drawn tumble. -/
structure Base (kind : Int) (g : PtW) (ls : Nat) (l : List (PtW × PtW)) : Prop where
  k0 : 0 ≤ kind
  k3 : kind ≤ 3
  gr : Lim 1 g
  loss : ls ≤ 1065353216
  few : l.length ≤ 8
  all : ∀ b ∈ l, Lim 5 b.2 ∧ Lim 640 b.1 ∧ wed kind b.1 = true
theorem run_lim {kind : Int} {g : PtW} {ls : Nat} {l : List (PtW × PtW)} (B : Base kind g ls l) : ∀ j, j ≤ 24 → ∀ b ∈ runL kind g (keptW ls) j l, Lim (5 + j) b.2 ∧ Lim (640 + 32 * j) b.1 ∧ wed kind b.1 = true
  | 0, _, b, hb => B.all b hb
  | j + 1, hj, b, hb => by
    obtain ⟨c, hc, rfl⟩ := List.mem_map.1 hb
    obtain ⟨h1, h2, _⟩ := run_lim B j (by omega) c hc
    obtain ⟨_, h3, h4, h5⟩ := step_lim B.k0 B.k3 (kept_keep B.loss) B.gr h1 h2 (by omega)
    exact ⟨h3, h4.mono (by omega), h5⟩
theorem run_can {kind : Int} {g : PtW} {ls : Nat} {l : List (PtW × PtW)} (B : Base kind g ls l) {j : Nat} (hj : j < 24) {b : PtW × PtW} (hb : b ∈ runL kind g (keptW ls) j l) : Can g b := by
  obtain ⟨h1, h2, _⟩ := run_lim B j (by omega) b hb
  exact (step_lim B.k0 B.k3 (kept_keep B.loss) B.gr h1 h2 (by omega)).1
def runW (kind : Int) (g : PtW) (ls : Nat) (l : List (PtW × PtW)) (j : Nat) : List Bw := (runL kind g (keptW ls) j l).map wd
def hitsW (kind : Int) (g : PtW) (ls : Nat) (l : List (PtW × PtW)) (j : Nat) : List Bool := (runL kind g (keptW ls) j l).map (hits kind g)
theorem runW_len (kind : Int) (g : PtW) (ls : Nat) (l : List (PtW × PtW)) (j : Nat) : (runW kind g ls l j).length = l.length := by
  unfold runW; rw [List.length_map, runL_len]
theorem getD_map {α β : Type} [Inhabited α] (f : α → β) (d : β) {l : List α} {k : Nat} (h : k < l.length) : (l.map f).getD k d = f (l.getD k default) := by
  simp [List.getD, h]
theorem getD_mem {α : Type} [Inhabited α] {l : List α} {k : Nat} (h : k < l.length) : l.getD k default ∈ l := by
  simp [List.getD, h]
theorem tick_run {kind : Int} {g : PtW} {ls : Nat} {l : List (PtW × PtW)} (B : Base kind g ls l) {j : Nat} (hj : j < 24) : Tick kind g.1.1 g.1.2 ls (runW kind g ls l j) (runW kind g ls l (j + 1)) (hitsW kind g ls l j) := by
  have hl := runL_len kind g (keptW ls) l j
  refine ⟨fun k hk => ?_, by rw [runW_len, runW_len], by unfold hitsW; rw [List.length_map, runW_len, hl], by rw [runW_len]; exact B.few⟩
  rw [runW_len] at hk
  unfold runW hitsW
  rw [getD_map wd _ (by omega), getD_map (hits kind g) _ (by omega), getD_map wd _ (by rw [runL_len]; omega)]
  show MoveM _ _ _ _ _ (wd (((runL kind g (keptW ls) j l).map (bstep kind g (keptW ls))).getD k default)) _
  rw [getD_map (bstep kind g (keptW ls)) _ (by omega)]
  exact move_of_b B.k0 B.k3 B.loss (run_can B hj (getD_mem (by omega)))
theorem share_le {x : Nat} (h : x ≤ 1065353216) : shareB x = true := part_share (.inl h)
theorem tum_run {kind : Int} {g : PtW} {ls : Nat} {l : List (PtW × PtW)} (B : Base kind g ls l) {j : Nat} (hj : j ≤ 24) : TumOk kind g.1.1 g.1.2 ls l.length (runW kind g ls l j) := by
  have hk0 := B.k0
  have hk3 := B.k3
  have hl := runL_len kind g (keptW ls) l j
  refine ⟨by unfold kindB; simp; omega, pt_is g, share_le B.loss, B.few, runW_len _ _ _ _ _, fun k hk => ?_, fun k hk => ?_⟩
  · unfold runW
    rw [getD_map wd _ (by omega)]
    have h := inWedge_p B.k0 B.k3 ((runL kind g (keptW ls) j l).getD k default).1
    rw [(run_lim B j hj _ (getD_mem (by omega))).2.2] at h
    exact h
  · unfold runW
    rw [getD_map wd _ (by omega)]
    exact pt_is _
theorem ticks_run {kind : Int} {g : PtW} {ls : Nat} {l : List (PtW × PtW)} (B : Base kind g ls l) {i n : Nat} (h : i + n ≤ 24) : Ticks kind g.1.1 g.1.2 ls n l.length (fun j => runW kind g ls l (i + j)) (fun j => hitsW kind g ls l (i + j)) :=
  ⟨fun j hj => tick_run B (by omega), fun j _ => runW_len _ _ _ _ _, B.few⟩
/-- The program's run from the i-th tick on. -/
theorem runs_of {kind : Int} {g : PtW} {ls : Nat} {l : List (PtW × PtW)} (B : Base kind g ls l) {i n : Nat} (h : i + n ≤ 24) : RanM kind g.1.1 g.1.2 ls n l.length (runW kind g ls l i) (runW kind g ls l (i + n)) (cntQ (fun j => hitsW kind g ls l (i + j)) n) :=
  ranM (ticks_run B h) (by omega) (tum_run B (by omega))
end Go.Proofs.Ytekkgpanmccdgaa

/-
  Straight ways, and how they are folded.
-/
namespace Go.Proofs.Ytekkgpanmccdgaa
open Go.ChangeShapes Go.WideShapes Go.ChangeAt Go.RowKit Go.Joins
set_option linter.unusedSimpArgs false
set_option linter.unusedVariables false
set_option maxRecDepth 100000
attribute [local go_sem] store_f
open Ieee Go.Lib
attribute [local go_sem] store_c

def wayCells (W : Nat → Nat × Nat) (n : Nat) : List Value := (List.range n).map fun k => Value.complex .f32 (W k).1 (W k).2
theorem wayCells_snoc (W : Nat → Nat × Nat) (n : Nat) : wayCells W (n + 1) = wayCells W n ++ [.complex .f32 (W n).1 (W n).2] := by
  unfold wayCells
  rw [List.range_succ, List.map_append]; rfl
theorem infoCx' : (Try.prog.info? 36).map (fun i => (i.zero, i.size, i.bytes)) = some (some (.complex .f32 0 0), 1, 8) := by kernel_rfl

/-- A way whose points are all in reach. -/
structure Way (W : Nat → Nat × Nat) (v1 v2 n : Nat) : Prop where
  p0 : PtIs (W 0).1 (W 0).2 true
  pv : PtIs v1 v2 true
  step : ∀ j, j < n → Join 63 (W j).1 (W j).2 v1 v2 (W (j + 1)).1 (W (j + 1)).2
  pt : ∀ j, j < n → PtIs (W (j + 1)).1 (W (j + 1)).2 true
  few : n ≤ 64
structure WayOut (w : World) (e : Ending) (w' : World) (W : Nat → Nat × Nat) (n g c : Nat) : Prop where
  ret : e = .returned (.tuple #[.slice (some ⟨g, 0, Option.none⟩) (n + 1) c, .bool true])
  cells : ∀ k, k ≤ n → w'.cell? ⟨g, k, Option.none⟩ = some (.complex .f32 (W k).1 (W k).2)
  below : Below w.heap.size w w'
structure WayM (W : Nat → Nat × Nat) (v1 v2 n : Nat) : Prop where
  call : ∀ w : World, Calls Try.prog 23 #[.complex .f32 (W 0).1 (W 0).2, .complex .f32 v1 v2, .int .i64 n] w fun e w' => ∃ g c, WayOut w e w' W n g c
set_option maxHeartbeats 16000000 in
theorem wayM {W : Nat → Nat × Nat} {v1 v2 n : Nat} (K : Way W v1 v2 n) : WayM W v1 v2 n := ⟨fun w => by
  obtain ⟨i0, hi, hz0, hz1, hz2⟩ := info_parts infoCx'
  have P0 := K.p0
  have PV := K.pv
  have hn := K.few
  have YR := fun w => isRun_i n hn w
  have HS : Hid (∀ j, j < n → Join 63 (W j).1 (W j).2 v1 v2 (W (j + 1)).1 (W (j + 1)).2) := K.step
  have HP : Hid (∀ j, j < n → PtIs (W (j + 1)).1 (W (j + 1)).2 true) := K.pt
  clear K
  go_enter Try.func23, Try.ntmps23
  go_wp2_with (first | (go_at_call 54; (first | (with_reducible refine (P0.call _).mono ?_) | (with_reducible refine (PV.call _).mono ?_)); rintro e w1 ⟨rfl, rfl⟩) | (go_at_call 65; (with_reducible refine (YR _).mono ?_); rintro e w1 ⟨rfl, rfl⟩))
  obtain ⟨w, rfl⟩ : ∃ w, w = w1 := ⟨_, rfl⟩
  generalize hX : w.alloc (.cells #[.complex .f32 (W 0).1 (W 0).2] 36) = X
  have O1 : Hid (X.ownsRow w.heap.size 36 1 (.slice (some ⟨w.heap.size, 0, Option.none⟩) 1 1) 1 (wayCells W 1)) := by
    rw [← hX]
    exact World.ownsRow_lit _ #[.complex .f32 (W 0).1 (W 0).2] 1 (by simp) (by unfold maxLen; omega) rfl
  have BX : Hid (Below w.heap.size w X) := by rw [← hX]; show Below w.heap.size w _; (repeat' (first | (with_reducible exact Below.refl _ _) | (with_reducible assumption) | (with_reducible refine Below.alloc ?_ ?_ _) | (with_reducible refine Below.drew ?_) | (with_reducible refine Below.setCell ?_ ?_ _) | (with_reducible refine Below.trans ?_ (Below.mono (by assumption) ?_)) | (with_reducible exact Nat.le_refl _) | omega | (simp only [World.size_alloc, World.size_setCell, World.size_drew]; omega) | (simp; omega) | (simp; done)))
  clear hX P0 PV YR
  go_loopw [0, 8, 26] (fun z v i wr => ∃ j : Nat, j ≤ n ∧ i = .int .i64 j ∧ z = .complex .f32 (W j).1 (W j).2 ∧ (∃ g c, v = .slice (some ⟨g, 0, Option.none⟩) (j + 1) c ∧ wr.ownsRow w.heap.size 36 1 (.slice (some ⟨g, 0, Option.none⟩) (j + 1) c) (j + 1) (wayCells W (j + 1))) ∧ Below w.heap.size w wr)
    (fun _ _ i _ => n - (intOf i).toNat)
  case atStart => exact ⟨0, by omega, rfl, rfl, ⟨_, _, rfl, O1.out⟩, BX.out⟩
  case round =>
    obtain ⟨j, hj, rfl, rfl, ⟨g, c, rfl, hown⟩, hbel⟩ := hrel
    have HO : Hid (wr.ownsRow w.heap.size 36 1 (.slice (some ⟨g, 0, Option.none⟩) (j + 1) c) (j + 1) (wayCells W (j + 1))) := hown
    have HB : Hid (Below w.heap.size w wr) := hbel
    have hsz := hbel.size
    have hlg := hown.lt _ rfl
    clear hown hbel O1 BX
    by_cases hlt : j < n
    · have KS := HS.out j hlt
      have KP := HP.out j hlt
      have HSN : Hid (wayCells W (j + 1 + 1) = wayCells W (j + 1) ++ [.complex .f32 (W (j + 1)).1 (W (j + 1)).2]) := wayCells_snoc W (j + 1)
      obtain ⟨p, hp⟩ : ∃ p, W (j + 1) = p := ⟨_, rfl⟩
      have HPP : Hid (W (j + 1) = p) := hp
      rw [hp] at KS KP HSN
      clear hp
      go_wp2_with (first | (go_at_call 66; (with_reducible refine (KS.call _).mono ?_); rintro e w1 ⟨rfl, rfl⟩) | (go_at_call 54; (with_reducible refine (KP.call _).mono ?_); rintro e w2 ⟨rfl, rfl⟩) | (at_builtin; go_loud (refine wpList_append_lies _ rfl _ _ 55 rfl w.heap.size 36 i0 (.complex .f32 0 0) 1 8 Try.underlying55 hi hz0 hz1 hz2 rfl (by decide) (.slice (some ⟨g, 0, Option.none⟩) (j + 1) c) (j + 1) (wayCells W (j + 1)) rfl (World.ownsRow.alloc HO.out _) ⟨w2.heap.size, 0, Option.none⟩ 1 1 [.complex .f32 p.1 p.2] rfl rfl (World.news_of_block (cs := #[.complex .f32 p.1 p.2]) (t := 36) (fr := (0, 0)) (heap_alloc_new w2 _)) (by simp [Value.oneCell']) (by omega) (by unfold maxLen; omega) (by omega) (by simp; omega) (w2.heap.size + 1) (by simp) ?_)))
      intro gg cg w6 hown6 hgrow hat hlt6
      have HB6 : Hid (Below w.heap.size w w6) := Below.grown (HB.out.alloc (by omega) _) hgrow (by simp; omega) (fun x hx => by simp [Value.ownBlock] at hx; omega)
      have HO6 : Hid (w6.ownsRow w.heap.size 36 1 (.slice (some ⟨gg, 0, Option.none⟩) (j + 1 + 1) cg) (j + 1 + 1) (wayCells W (j + 1) ++ [.complex .f32 p.1 p.2])) := hown6
      clear hown6 hgrow hat
      go_wp2
      go_roundw
      case rel => exact ⟨j + 1, by omega, by go_num, by rw [HPP.out], ⟨_, _, rfl, by rw [HSN.out]; exact HO6.out⟩, HB6.out⟩
      case measure => simp [intOf]; omega
    · have hjm : j = n := by omega
      subst hjm
      go_wp2
      go_ret2
      refine ⟨g, c, ⟨rfl, fun k hk => ?_, HB.out⟩⟩
      have h := HO.out.cellAt k (by omega)
      rw [h]
      unfold wayCells
      simp [Nat.lt_succ_of_le hk]
⟩
end Go.Proofs.Ytekkgpanmccdgaa

/-
  The negative of a word, as the machine takes it.
-/
namespace Go.Proofs.Ytekkgpanmccdgaa
open Go.ChangeShapes Go.WideShapes Go.ChangeAt Go.RowKit Go.Joins
set_option linter.unusedSimpArgs false
set_option linter.unusedVariables false
set_option maxRecDepth 100000
attribute [local go_sem] store_f
open Ieee

theorem xor_sign {r : Nat} (h : r < 2 ^ 31) : r ^^^ 2 ^ 31 = 2 ^ 31 + r := by
  have h1 := Nat.two_pow_add_eq_or_of_lt (i := 31) h 1
  rw [Nat.mul_one] at h1
  rw [h1]
  apply Nat.eq_of_testBit_eq
  intro i
  rw [Nat.testBit_xor, Nat.testBit_or, Nat.testBit_two_pow]
  by_cases hi : 31 = i
  · subst hi
    rw [Nat.testBit_lt_two_pow h]; rfl
  · simp [hi]
theorem neg_of_word (s : Bool) {r : Nat} (h : r < 2147483648) : Op.negFloat .f32 (F32.word s r) = F32.word (!s) r := by
  rw [neg_word]
  have e : ∀ b : Bool, F32.word b r = (if b then 2147483648 else 0) + r := fun b => by
    unfold Format.word; rw [F32_sw]; cases b <;> simp
  rw [e, e]
  have hx := xor_sign (r := r) (by omega)
  cases s
  · simp only [Bool.not_false, if_true, Bool.false_eq_true, if_false, Nat.zero_add]; rw [hx]
  · simp only [Bool.not_true, if_true, Bool.false_eq_true, if_false, Nat.zero_add]
    rw [show 2147483648 + r = r ^^^ 2 ^ 31 by rw [hx], Nat.xor_assoc, Nat.xor_self, Nat.xor_zero]
theorem val_negF {x : Nat} (hf : Fin32 x) (hx : x < 4294967296) : valOf F32 (Op.negFloat .f32 x) = - valOf F32 x ∧ Fin32 (Op.negFloat .f32 x) := by
  have hr := fin_rung hf
  have e := word_of F32 (w := x) (by rw [F32_w]; exact hx)
  have h2 := neg_of_word (negOf F32 x) (r := rungOf F32 x) (by omega)
  rw [e] at h2
  rw [h2]
  refine ⟨?_, fin_word _ hr⟩
  rw [valOf_word F32 _ (by rw [F32_sw]; omega)]
  unfold valOf
  cases negOf F32 x <;> simp
end Go.Proofs.Ytekkgpanmccdgaa

/-
  The least and the greatest of three singles; which point lies in a shard.
-/
namespace Go.Proofs.Ytekkgpanmccdgaa
open Go.ChangeShapes Go.WideShapes Go.ChangeAt Go.RowKit Go.Joins
set_option linter.unusedSimpArgs false
set_option linter.unusedVariables false
set_option maxRecDepth 100000
attribute [local go_sem] store_f
open Ieee

def minG (o : Ordering) (x y : Nat) : Nat := match o with | .lt => x | .gt => y | .eq => if (FloatKind.f32.decode x).neg then x else y
def maxG (o : Ordering) (x y : Nat) : Nat := match o with | .lt => y | .gt => x | .eq => if (FloatKind.f32.decode x).neg then y else x
theorem run_min_g (P : Program) (w : World) (ts : Array TypeId) (t : TypeId) (x y : Nat) (o : Ordering) (h : FloatKind.f32.format.order x y = some o) : (Builtin.min_ ts t #[.float .f32 x, .float .f32 y]).run P w = .ok (.float .f32 (minG o x y)) w := by
  cases o <;> simp [Builtin.min_, Builtin.min2, h, minG]
theorem run_max_g (P : Program) (w : World) (ts : Array TypeId) (t : TypeId) (x y : Nat) (o : Ordering) (h : FloatKind.f32.format.order x y = some o) : (Builtin.max_ ts t #[.float .f32 x, .float .f32 y]).run P w = .ok (.float .f32 (maxG o x y)) w := by
  cases o <;> simp [Builtin.max_, Builtin.max2, h, maxG]
theorem cmp_cases (a b : Int) : (compare a b = .lt ∧ a < b) ∨ (compare a b = .eq ∧ a = b) ∨ (compare a b = .gt ∧ b < a) := by
  rcases Int.lt_trichotomy a b with h | h | h
  · exact .inl ⟨by simp [compare, compareOfLessAndEq, h], h⟩
  · exact .inr (.inl ⟨by simp [h], h⟩)
  · exact .inr (.inr ⟨by
      have h1 : ¬ a < b := by omega
      have h2 : ¬ a = b := by omega
      simp [compare, compareOfLessAndEq, h1, h2], h⟩)
/-- The lesser of two finite singles is one of them, and has the lesser value. -/
theorem min_val {x y : Nat} (hx : Fin32 x) (hy : Fin32 y) : ∃ m, (∀ (P : Program) (w : World) ts t, (Builtin.min_ ts t #[.float .f32 x, .float .f32 y]).run P w = .ok (.float .f32 m) w) ∧ Fin32 m ∧ m < max (x + 1) (y + 1) ∧ valOf F32 m ≤ valOf F32 x ∧ valOf F32 m ≤ valOf F32 y ∧ (valOf F32 m = valOf F32 x ∨ valOf F32 m = valOf F32 y) := by
  have h := order_fin F32 hx hy
  refine ⟨minG (compare (valOf F32 x) (valOf F32 y)) x y, fun P w ts t => run_min_g P w ts t x y _ h, ?_⟩
  rcases cmp_cases (valOf F32 x) (valOf F32 y) with ⟨e, h1⟩ | ⟨e, h1⟩ | ⟨e, h1⟩
  · rw [e]; exact ⟨hx, by simp [minG]; omega, by simp only [minG]; omega, by simp only [minG]; omega, .inl rfl⟩
  · rw [e]
    simp only [minG]
    split
    · exact ⟨hx, by omega, by omega, by omega, .inl rfl⟩
    · exact ⟨hy, by omega, by omega, by omega, .inr rfl⟩
  · rw [e]; exact ⟨hy, by simp [minG]; omega, by simp only [minG]; omega, by simp only [minG]; omega, .inr rfl⟩
theorem max_val {x y : Nat} (hx : Fin32 x) (hy : Fin32 y) : ∃ m, (∀ (P : Program) (w : World) ts t, (Builtin.max_ ts t #[.float .f32 x, .float .f32 y]).run P w = .ok (.float .f32 m) w) ∧ Fin32 m ∧ m < max (x + 1) (y + 1) ∧ valOf F32 x ≤ valOf F32 m ∧ valOf F32 y ≤ valOf F32 m ∧ (valOf F32 m = valOf F32 x ∨ valOf F32 m = valOf F32 y) := by
  have h := order_fin F32 hx hy
  refine ⟨maxG (compare (valOf F32 x) (valOf F32 y)) x y, fun P w ts t => run_max_g P w ts t x y _ h, ?_⟩
  rcases cmp_cases (valOf F32 x) (valOf F32 y) with ⟨e, h1⟩ | ⟨e, h1⟩ | ⟨e, h1⟩
  · rw [e]; exact ⟨hy, by simp [maxG]; omega, by simp only [maxG]; omega, by simp only [maxG]; omega, .inr rfl⟩
  · rw [e]
    simp only [maxG]
    split
    · exact ⟨hy, by omega, by omega, by omega, .inr rfl⟩
    · exact ⟨hx, by omega, by omega, by omega, .inl rfl⟩
  · rw [e]; exact ⟨hx, by simp [maxG]; omega, by simp only [maxG]; omega, by simp only [maxG]; omega, .inl rfl⟩

/-- Three singles from a block's head on. -/
structure Row3 (w : World) (g x y z : Nat) : Prop where
  c0 : w.cell? ⟨g, 0, Option.none⟩ = some (.float .f32 x)
  c1 : w.cell? ⟨g, 1, Option.none⟩ = some (.float .f32 y)
  c2 : w.cell? ⟨g, 2, Option.none⟩ = some (.float .f32 z)

structure Min2 (x y m : Nat) : Prop where
  run : ∀ (P : Program) (w : World) ts t, (Builtin.min_ ts t #[.float .f32 x, .float .f32 y]).run P w = .ok (.float .f32 m) w
structure Max2 (x y m : Nat) : Prop where
  run : ∀ (P : Program) (w : World) ts t, (Builtin.max_ ts t #[.float .f32 x, .float .f32 y]).run P w = .ok (.float .f32 m) w

end Go.Proofs.Ytekkgpanmccdgaa

/-
  How great a speed is: the law's span.
-/
namespace Go.Proofs.Ytekkgpanmccdgaa
open Go.ChangeShapes Go.WideShapes Go.ChangeAt Go.RowKit Go.Joins
set_option linter.unusedSimpArgs false
set_option linter.unusedVariables false
set_option maxRecDepth 100000
attribute [local go_sem] store_f
open Ieee Go.Lib

theorem max2_g (P : Program) (w : World) (x y : Nat) (o : Ordering) (h : FloatKind.f32.format.order x y = some o) : (Builtin.max2 (.float .f32 x) (.float .f32 y)).run P w = .ok (.float .f32 (maxG o x y)) w := by
  cases o <;> simp [Builtin.max2, h, maxG]
/-- The greater one of two words. -/
def maxW (x y : Nat) : Nat := maxG (compare (valOf F32 x) (valOf F32 y)) x y
theorem maxW_of {x y : Nat} (hx : Fin32 x) (hy : Fin32 y) : Fin32 (maxW x y) ∧ valOf F32 (maxW x y) = max (valOf F32 x) (valOf F32 y) := by
  unfold maxW
  rcases cmp_cases (valOf F32 x) (valOf F32 y) with ⟨e, h1⟩ | ⟨e, h1⟩ | ⟨e, h1⟩
  · rw [e]; exact ⟨hy, by simp only [maxG]; omega⟩
  · rw [e]
    simp only [maxG]
    split
    · exact ⟨hy, by omega⟩
    · exact ⟨hx, by omega⟩
  · rw [e]; exact ⟨hx, by simp only [maxG]; omega⟩
theorem run_max4 (P : Program) (w : World) (ts : Array TypeId) (t : TypeId) {a b c d : Nat} (ha : Fin32 a) (hb : Fin32 b) (hc : Fin32 c) (hd : Fin32 d) : (Builtin.max_ ts t #[.float .f32 a, .float .f32 b, .float .f32 c, .float .f32 d]).run P w = .ok (.float .f32 (maxW (maxW (maxW a b) c) d)) w := by
  have h1 := max2_g P w a b _ (order_fin F32 ha hb)
  have h2 := max2_g P w (maxW a b) c _ (order_fin F32 (maxW_of ha hb).1 hc)
  have h3 := max2_g P w (maxW (maxW a b) c) d _ (order_fin F32 (maxW_of (maxW_of ha hb).1 hc).1 hd)
  change _ = Result.ok (Value.float .f32 (maxW a b)) w at h1
  change _ = Result.ok (Value.float .f32 (maxW (maxW a b) c)) w at h2
  change _ = Result.ok (Value.float .f32 (maxW (maxW (maxW a b) c) d)) w at h3
  unfold Builtin.max_
  simp only [List.foldlM_cons, List.foldlM_nil, Sem.run_bind, h1, h2, h3, Result.andThen_ok, Sem.run_pure]

structure SpanIs (x y r : Nat) : Prop where
  call : ∀ w : World, Calls Try.prog 24 #[.complex .f32 x y] w fun e w' => e = .returned (.float .f32 r) ∧ w' = w
  fin : Fin32 r
def spanW (x y : Nat) : Nat := maxW (maxW (maxW x (Op.negFloat .f32 x)) y) (Op.negFloat .f32 y)
theorem spanIs {x y : Nat} (hx : Fin32 x) (lx : x < 4294967296) (hy : Fin32 y) (ly : y < 4294967296) : SpanIs x y (spanW x y) ∧ valOf F32 (spanW x y) = (max (valOf F32 x).natAbs (valOf F32 y).natAbs : Nat) := by
  obtain ⟨n1, f1⟩ := val_negF hx lx
  obtain ⟨n2, f2⟩ := val_negF hy ly
  have hm := fun (w : World) ts t => run_max4 Try.prog w ts t hx f1 hy f2
  obtain ⟨a1, v1⟩ := maxW_of hx f1
  obtain ⟨a2, v2⟩ := maxW_of a1 hy
  obtain ⟨a3, v3⟩ := maxW_of a2 f2
  have hv : valOf F32 (spanW x y) = (max (valOf F32 x).natAbs (valOf F32 y).natAbs : Nat) := by
    unfold spanW
    rw [v3, v2, v1, n1, n2]
    generalize valOf F32 x = X
    generalize valOf F32 y = Y
    omega
  have hs : maxW (maxW (maxW x (Op.negFloat .f32 x)) y) (Op.negFloat .f32 y) = spanW x y := rfl
  rw [hs] at a3
  simp only [hs] at hm
  refine ⟨⟨fun w => ?_, a3⟩, hv⟩
  clear hv hs a3 v3 v2 v1 a1 a2 n1 n2 f1 f2 hx lx hy ly
  have hn := fun w k b => run_negf Try.prog w k b
  generalize spanW x y = r at *
  go_enter Try.func24, Try.ntmps24
  go_wp2_with (first | (simp only [hn]) | (simp only [hm]))
  go_ret
  exact ⟨rfl, rfl⟩
/-- The span of a point. -/
structure SpanP (p : PtW) (r : Nat) : Prop where
  is : SpanIs p.1.1 p.1.2 r
  val : valOf F32 r = (spn p : Nat)
theorem spanP (p : PtW) : ∃ r, SpanP p r := by
  obtain ⟨S, hv⟩ := spanIs p.2.1.cl.fin p.2.1.cl.lt p.2.2.cl.fin p.2.2.cl.lt
  exact ⟨_, S, hv⟩
theorem span_eq {p q : PtW} {r s : Nat} (P : SpanP p r) (Q : SpanP q s) (h : spn p = spn q) : (FloatKind.f32.format.order r s == some .eq) = true := by
  show (F32.order r s == some .eq) = true
  rw [order_fin F32 P.is.fin Q.is.fin, cmp_eq, P.val, Q.val, h]
  simp
theorem span_le {p q : PtW} {r s : Nat} (P : SpanP p r) (Q : SpanP q s) (h : spn p ≤ spn q) : (FloatKind.f32.format.order r s == some .gt) = false := by
  show (F32.order r s == some .gt) = false
  rw [order_fin F32 P.is.fin Q.is.fin, cmp_gt, P.val, Q.val]
  simp; omega
end Go.Proofs.Ytekkgpanmccdgaa
