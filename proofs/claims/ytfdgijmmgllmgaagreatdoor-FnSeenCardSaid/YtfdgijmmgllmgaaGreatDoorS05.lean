/-
  Texts Fd Fe Fg Asym Athen Fm Fo Copen Ca Ga Cpart Cb, joined.
-/
import Derived.Test.YtfdgijmmgllmgaaGreatDoorS04
import Derived.Test.YtfdgijmmgllmgaaGreatDoorS01
import Derived.Test.YtfdgijmmgllmgaaGreatDoorS02
namespace Go.Proofs.YtfdgijmmgllmgaaGreatDoor
open Go.ChangeShapes Go.WideShapes Go.ChangeAt Go.RowKit Go.Joins
set_option linter.unusedSimpArgs false
set_option linter.unusedVariables false
set_option maxRecDepth 100000
attribute [local go_sem] store_f
open Ieee
def divsB : Nat → Nat
  | 0 => 1065353216
  | 1 => 1073741824
  | 2 => 1098907648
  | 3 => 1115684864
  | 4 => 1120403456
  | _ => 1077936128
def okB (x : Nat) : Bool := decide (x < 4294967296) && decide (x % 2147483648 ≤ 1166016512)
def fineB (m k : Nat) : Option Nat := F32.div (floatOfInt .f32 ((m : Int) - 640)) (divsB k)
def fineOk (m k : Nat) : Bool := match fineB m k with | some r => okB r | none => false
def chkTo (p : Nat → Bool) : Nat → Bool
  | 0 => true
  | n + 1 => p n && chkTo p n
theorem chkTo_at {p : Nat → Bool} : ∀ {n : Nat}, chkTo p n = true → ∀ k, k < n → p k = true
  | 0, _, k, hk => by omega
  | n + 1, h, k, hk => by
    simp only [chkTo, Bool.and_eq_true] at h
    rcases (by omega : k = n ∨ k < n) with rfl | h'
    · exact h.1
    · exact chkTo_at h.2 k h'
set_option maxRecDepth 1000000
theorem fine_0 : chkTo (fun m => chkTo (fineOk (0 + m)) 6) 100 = true := by decide +kernel
theorem fine_1 : chkTo (fun m => chkTo (fineOk (100 + m)) 6) 100 = true := by decide +kernel
theorem fine_2 : chkTo (fun m => chkTo (fineOk (200 + m)) 6) 100 = true := by decide +kernel
theorem fine_3 : chkTo (fun m => chkTo (fineOk (300 + m)) 6) 100 = true := by decide +kernel
theorem fine_4 : chkTo (fun m => chkTo (fineOk (400 + m)) 6) 100 = true := by decide +kernel
theorem fine_5 : chkTo (fun m => chkTo (fineOk (500 + m)) 6) 100 = true := by decide +kernel
theorem fine_6 : chkTo (fun m => chkTo (fineOk (600 + m)) 6) 100 = true := by decide +kernel
theorem fine_7 : chkTo (fun m => chkTo (fineOk (700 + m)) 6) 100 = true := by decide +kernel
theorem fine_8 : chkTo (fun m => chkTo (fineOk (800 + m)) 6) 100 = true := by decide +kernel
theorem fine_9 : chkTo (fun m => chkTo (fineOk (900 + m)) 6) 100 = true := by decide +kernel
theorem fine_10 : chkTo (fun m => chkTo (fineOk (1000 + m)) 6) 100 = true := by decide +kernel
theorem fine_11 : chkTo (fun m => chkTo (fineOk (1100 + m)) 6) 100 = true := by decide +kernel
theorem fine_12 : chkTo (fun m => chkTo (fineOk (1200 + m)) 6) 81 = true := by decide +kernel
theorem fine_ok (m k : Nat) (hm : m < 1281) (hk : k < 6) : ∃ r, fineB m k = some r ∧ okB r = true := by
  have key : fineOk m k = true := by
    rcases (by omega : (0 ≤ m ∧ m < 100) ∨ (100 ≤ m ∧ m < 200) ∨ (200 ≤ m ∧ m < 300) ∨ (300 ≤ m ∧ m < 400) ∨ (400 ≤ m ∧ m < 500) ∨ (500 ≤ m ∧ m < 600) ∨ (600 ≤ m ∧ m < 700) ∨ (700 ≤ m ∧ m < 800) ∨ (800 ≤ m ∧ m < 900) ∨ (900 ≤ m ∧ m < 1000) ∨ (1000 ≤ m ∧ m < 1100) ∨ (1100 ≤ m ∧ m < 1200) ∨ (1200 ≤ m ∧ m < 1281)) with h | h | h | h | h | h | h | h | h | h | h | h | h
    · have h1 := chkTo_at (chkTo_at fine_0 (m - 0) (by omega)) k hk
      rwa [show 0 + (m - 0) = m by omega] at h1
    · have h1 := chkTo_at (chkTo_at fine_1 (m - 100) (by omega)) k hk
      rwa [show 100 + (m - 100) = m by omega] at h1
    · have h1 := chkTo_at (chkTo_at fine_2 (m - 200) (by omega)) k hk
      rwa [show 200 + (m - 200) = m by omega] at h1
    · have h1 := chkTo_at (chkTo_at fine_3 (m - 300) (by omega)) k hk
      rwa [show 300 + (m - 300) = m by omega] at h1
    · have h1 := chkTo_at (chkTo_at fine_4 (m - 400) (by omega)) k hk
      rwa [show 400 + (m - 400) = m by omega] at h1
    · have h1 := chkTo_at (chkTo_at fine_5 (m - 500) (by omega)) k hk
      rwa [show 500 + (m - 500) = m by omega] at h1
    · have h1 := chkTo_at (chkTo_at fine_6 (m - 600) (by omega)) k hk
      rwa [show 600 + (m - 600) = m by omega] at h1
    · have h1 := chkTo_at (chkTo_at fine_7 (m - 700) (by omega)) k hk
      rwa [show 700 + (m - 700) = m by omega] at h1
    · have h1 := chkTo_at (chkTo_at fine_8 (m - 800) (by omega)) k hk
      rwa [show 800 + (m - 800) = m by omega] at h1
    · have h1 := chkTo_at (chkTo_at fine_9 (m - 900) (by omega)) k hk
      rwa [show 900 + (m - 900) = m by omega] at h1
    · have h1 := chkTo_at (chkTo_at fine_10 (m - 1000) (by omega)) k hk
      rwa [show 1000 + (m - 1000) = m by omega] at h1
    · have h1 := chkTo_at (chkTo_at fine_11 (m - 1100) (by omega)) k hk
      rwa [show 1100 + (m - 1100) = m by omega] at h1
    · have h1 := chkTo_at (chkTo_at fine_12 (m - 1200) (by omega)) k hk
      rwa [show 1200 + (m - 1200) = m by omega] at h1
  unfold fineOk at key
  cases h : fineB m k with
  | none => rw [h] at key; cases key
  | some r => rw [h] at key; exact ⟨r, rfl, key⟩
theorem ok_lt {x : Nat} (h : okB x = true) : x < 4294967296 := by simp [okB] at h; exact h.1
theorem ok_rung {x : Nat} (h : okB x = true) : rungOf F32 x ≤ 1166016512 := by
  simp [okB] at h
  unfold rungOf; rw [F32_sw]; exact h.2
theorem ok_fin {x : Nat} (h : okB x = true) : Fin32 x := by
  have := ok_rung h
  unfold Fin32; rw [F32_inf]; omega
theorem ok_in {x : Nat} (h : okB x = true) : inB x = true := by
  have h1 := ok_rung h
  have hf := ok_fin h
  have h3 := magOf_le F32 (r := rungOf F32 x) (s := 1166016512) (by omega)
  have e1 : rungOf F32 3313500160 = 1166016512 := by unfold rungOf; rw [F32_sw]
  have e2 : negOf F32 3313500160 = true := by unfold negOf; rw [F32_sw]; rfl
  have f1 : Fin32 3313500160 := by unfold Fin32; rw [e1, F32_inf]; decide
  have f2 : Fin32 1166016512 := fin_of_lt (by omega)
  have v1 : valOf F32 3313500160 = -(magOf F32 1166016512 : Int) := by unfold valOf; rw [e1, e2]; rfl
  have v2 := val_of_lt (x := 1166016512) (by omega)
  have hm : -(magOf F32 1166016512 : Int) ≤ valOf F32 x ∧ valOf F32 x ≤ (magOf F32 1166016512 : Int) := by
    unfold valOf
    split <;> omega
  unfold inB
  rw [order_fin F32 hf f1, order_fin F32 hf f2, v1, v2]
  simp only [cmp_eq, cmp_lt, cmp_gt]
  simp only [Bool.and_eq_true, Bool.or_eq_true, decide_eq_true_eq]
  omega
theorem ok_zero : okB 0 = true := by decide
end Go.Proofs.YtfdgijmmgllmgaaGreatDoor
namespace Go.Proofs.YtfdgijmmgllmgaaGreatDoor
open Go.ChangeShapes Go.WideShapes Go.ChangeAt Go.RowKit Go.Joins
set_option linter.unusedSimpArgs false
set_option linter.unusedVariables false
set_option maxRecDepth 100000
attribute [local go_sem] store_f
open Ieee
set_option maxHeartbeats 4000000 in
theorem l1Below_big (B q : Nat) (n : Int) (w : World) (hcur : Cur B w q) (h1 : 256 < n) (h2 : n ≤ 65536) :
    Calls Tryz.prog 34 #[.pointer (some ⟨q, 0, Option.none⟩), .int .i64 n] w fun e w' => ∃ x : Int, e = .returned (.int .i64 x) ∧ 0 ≤ x ∧ x < n ∧ Cur B w' q ∧ w.grownBy w' (some q) := by
  have HC : Hid (Cur B w q) := hcur
  clear hcur
  go_enter Tryz.func34, Tryz.ntmps34
  go_wp2_with fail
  refine (l1Byte_s B q _ HC.out).mono ?_
  rintro e w1 ⟨x, rfl, hx0, hx1, hc1, hg1⟩
  have HC1 : Hid (Cur B w1 q) := hc1
  have HG1 : Hid (w.grownBy w1 (some q)) := hg1
  clear hc1 hg1
  go_wp2_with fail
  refine (l1Byte_s B q _ HC1.out).mono ?_
  rintro e w2 ⟨y, rfl, hy0, hy1, hc2, hg2⟩
  have HC2 : Hid (Cur B w2 q) := hc2
  have HG2 : Hid (w.grownBy w2 (some q)) := grownBy_trans HG1.out hg2
  clear hc2 hg2
  go_wp2_with fail
  refine (l1Byte_s B q _ HC2.out).mono ?_
  rintro e w3 ⟨z, rfl, hz0, hz1, hc3, hg3⟩
  have HC3 : Hid (Cur B w3 q) := hc3
  have HG3 : Hid (w.grownBy w3 (some q)) := grownBy_trans HG2.out hg3
  clear hc3 hg3
  go_wp2
  go_ret
  exact ⟨_, rfl, Int.emod_nonneg _ (by omega), Int.emod_lt_of_pos _ (by omega), HC3.out, HG3.out⟩
structure FineDrawn (B q : Nat) (w : World) (e : Ending) (w' : World) (x : Nat) : Prop where
  ret : e = .returned (.float .f32 x)
  ok : okB x = true
  cur : Cur B w' q
  grown : w.grownBy w' (some q)
structure SomeDrawn (B q : Nat) (w : World) (e : Ending) (w' : World) (m : Nat) : Prop where
  ret : e = .returned (.int .i64 ((m : Int) - 640))
  lt : m < 1281
  cur : Cur B w' q
  grown : w.grownBy w' (some q)
set_option maxHeartbeats 1000000 in
theorem l1Some_s (B q : Nat) (w : World) (hcur : Cur B w q) :
    Calls Tryz.prog 33 #[.pointer (some ⟨q, 0, Option.none⟩), .int .i64 (-640), .int .i64 640] w fun e w' => ∃ m, SomeDrawn B q w e w' m := by
  have HC : Hid (Cur B w q) := hcur
  clear hcur
  go_enter Tryz.func33, Tryz.ntmps33
  go_wp2_with fail
  refine (l1Below_big B q 1281 _ HC.out (by omega) (by omega)).mono ?_
  rintro e w1 ⟨x, rfl, hx0, hx1, hc1, hg1⟩
  obtain ⟨n, rfl⟩ : ∃ n : Nat, x = n := ⟨x.toNat, by omega⟩
  have HC1 : Hid (Cur B w1 q) := hc1
  have HG1 : Hid (w.grownBy w1 (some q)) := hg1
  have hn : n < 1281 := by omega
  clear hc1 hg1
  go_wp2
  go_ret
  exact ⟨n, by first | rfl | (simp; omega), hn, HC1.out, HG1.out⟩
set_option maxHeartbeats 2000000 in
theorem l1Fine_s (B q : Nat) (w : World) (hcur : Cur B w q) :
    Calls Tryz.prog 39 #[.pointer (some ⟨q, 0, Option.none⟩)] w fun e w' => ∃ x, FineDrawn B q w e w' x := by
  have HC : Hid (Cur B w q) := hcur
  have hq := hcur.lt
  clear hcur
  go_enter Tryz.func39, Tryz.ntmps39
  go_wp2_with fail
  refine (l1Some_s B q _ HC.out).mono ?_
  rintro e w1 ⟨m, ⟨rfl, hm, hc1, hg1⟩⟩
  have HC1 : Hid (Cur B w1 q) := hc1
  have HG1 : Hid (w.grownBy w1 (some q)) := hg1
  have hq1 := hc1.lt
  have HD : Hid (∀ k, k < 6 → ∃ r, F32.div (floatOfInt .f32 ((m : Int) - 640)) (divsB k) = some r ∧ okB r = true) := fun k hk => fine_ok m k hm hk
  clear hc1 hg1
  go_wp2_with fail
  refine (l1Below_s B q 6 _ HC1.out.alloc (by omega) (by omega)).mono ?_
  rintro e w2 ⟨x, rfl, hx0, hx1, hc2, hg2⟩
  have HC2 : Hid (Cur B w2 q) := hc2
  have HG2 : Hid (w.grownBy w2 (some q)) := grownBy_trans (grown_alloc HG1.out _) hg2
  have HB : Blk w2 w1.heap.size #[.float .f32 1065353216, .float .f32 1073741824, .float .f32 1098907648, .float .f32 1115684864, .float .f32 1120403456, .float .f32 1077936128] _ := Blk.grown (Blk.new _ _ _) hg2 (by omega)
  have hl := HB.lt
  have c0 := Blk.cellAt (i := 0) HB rfl
  have c1 := Blk.cellAt (i := 1) HB rfl
  have c2 := Blk.cellAt (i := 2) HB rfl
  have c3 := Blk.cellAt (i := 3) HB rfl
  have c4 := Blk.cellAt (i := 4) HB rfl
  have c5 := Blk.cellAt (i := 5) HB rfl
  simp at c0 c1 c2 c3 c4 c5
  clear hc2 hg2 HB
  generalize floatOfInt .f32 ((m : Int) - 640) = a at HD ⊢
  rcases (by omega : x = 0 ∨ x = 1 ∨ x = 2 ∨ x = 3 ∨ x = 4 ∨ x = 5) with rfl | rfl | rfl | rfl | rfl | rfl
  · obtain ⟨r, hr, ho⟩ := HD.out 0 (by omega)
    have hop := fun t w => run_float_arith (P := Tryz.prog) w .quo t .f32 a 1065353216 r hr
    clear hr
    go_wp2_with (simp only [hop])
    go_ret
    exact ⟨r, rfl, ho, HC2.out, HG2.out⟩
  · obtain ⟨r, hr, ho⟩ := HD.out 1 (by omega)
    have hop := fun t w => run_float_arith (P := Tryz.prog) w .quo t .f32 a 1073741824 r hr
    clear hr
    go_wp2_with (simp only [hop])
    go_ret
    exact ⟨r, rfl, ho, HC2.out, HG2.out⟩
  · obtain ⟨r, hr, ho⟩ := HD.out 2 (by omega)
    have hop := fun t w => run_float_arith (P := Tryz.prog) w .quo t .f32 a 1098907648 r hr
    clear hr
    go_wp2_with (simp only [hop])
    go_ret
    exact ⟨r, rfl, ho, HC2.out, HG2.out⟩
  · obtain ⟨r, hr, ho⟩ := HD.out 3 (by omega)
    have hop := fun t w => run_float_arith (P := Tryz.prog) w .quo t .f32 a 1115684864 r hr
    clear hr
    go_wp2_with (simp only [hop])
    go_ret
    exact ⟨r, rfl, ho, HC2.out, HG2.out⟩
  · obtain ⟨r, hr, ho⟩ := HD.out 4 (by omega)
    have hop := fun t w => run_float_arith (P := Tryz.prog) w .quo t .f32 a 1120403456 r hr
    clear hr
    go_wp2_with (simp only [hop])
    go_ret
    exact ⟨r, rfl, ho, HC2.out, HG2.out⟩
  · obtain ⟨r, hr, ho⟩ := HD.out 5 (by omega)
    have hop := fun t w => run_float_arith (P := Tryz.prog) w .quo t .f32 a 1077936128 r hr
    clear hr
    go_wp2_with (simp only [hop])
    go_ret
    exact ⟨r, rfl, ho, HC2.out, HG2.out⟩
end Go.Proofs.YtfdgijmmgllmgaaGreatDoor
namespace Go.Proofs.YtfdgijmmgllmgaaGreatDoor
open Go.ChangeShapes Go.WideShapes Go.ChangeAt Go.RowKit Go.Joins
set_option linter.unusedSimpArgs false
set_option linter.unusedVariables false
set_option maxRecDepth 100000
attribute [local go_sem] store_f
open Ieee
theorem run_negf (P : Program) (w : World) (k : FloatKind) (b : Nat) : (Op.unary .neg (.float k b)).run P w = .ok (.float k (Op.negFloat k b)) w := rfl
theorem neg_word (x : Nat) : Op.negFloat .f32 x = x ^^^ 2 ^ 31 := rfl
theorem ok_neg {x : Nat} (h : okB x = true) : okB (Op.negFloat .f32 x) = true := by
  rw [neg_word]
  simp only [okB, Bool.and_eq_true, decide_eq_true_eq] at h ⊢
  have e : (x ^^^ 2 ^ 31) % 2147483648 = x % 2147483648 := by
    have := Nat.xor_mod_two_pow (a := x) (b := 2 ^ 31) (n := 31)
    simpa using this
  refine ⟨?_, by rw [e]; exact h.2⟩
  have := Nat.xor_lt_two_pow (x := x) (y := 2 ^ 31) (n := 32) (by omega) (by omega)
  simpa using this
structure PointDrawn (B q : Nat) (w : World) (e : Ending) (w' : World) (x y : Nat) : Prop where
  ret : e = .returned (.complex .f32 x y)
  okx : okB x = true
  oky : okB y = true
  cur : Cur B w' q
  grown : w.grownBy w' (some q)
set_option maxHeartbeats 2000000 in
theorem l1Point_s (B q : Nat) (w : World) (hcur : Cur B w q) :
    Calls Tryz.prog 73 #[.pointer (some ⟨q, 0, Option.none⟩)] w fun e w' => ∃ x y, PointDrawn B q w e w' x y := by
  have HC : Hid (Cur B w q) := hcur
  clear hcur
  go_enter Tryz.func73, Tryz.ntmps73
  go_wp2_with fail
  refine (l1Fine_s B q _ HC.out).mono ?_
  rintro e w1 ⟨x, ⟨rfl, hx, hc1, hg1⟩⟩
  have HC1 : Hid (Cur B w1 q) := hc1
  have HG1 : Hid (w.grownBy w1 (some q)) := hg1
  have OX : Hid (okB x = true) := hx
  clear hc1 hg1 hx
  go_wp2_with fail
  refine (l1Below_s B q 7 _ HC1.out (by omega) (by omega)).mono ?_
  rintro e w2 ⟨k, rfl, hx0, hx1, hc2, hg2⟩
  have HC2 : Hid (Cur B w2 q) := hc2
  have HG2 : Hid (w.grownBy w2 (some q)) := grownBy_trans HG1.out hg2
  clear hc2 hg2
  rcases (by omega : k = 0 ∨ k = 1 ∨ k = 2 ∨ k = 3 ∨ (4 ≤ k ∧ k ≠ 0 ∧ k ≠ 1 ∧ k ≠ 2 ∧ k ≠ 3)) with rfl | rfl | rfl | rfl | ⟨h4, n0, n1, n2, n3⟩
  · go_wp2
    go_ret
    exact ⟨x, 0, rfl, OX.out, ok_zero, HC2.out, HG2.out⟩
  · go_wp2
    go_ret
    exact ⟨0, x, rfl, ok_zero, OX.out, HC2.out, HG2.out⟩
  · go_wp2
    go_ret
    exact ⟨x, x, rfl, OX.out, OX.out, HC2.out, HG2.out⟩
  · have hop := fun w => run_negf Tryz.prog w .f32 x
    have OY := ok_neg OX.out
    generalize Op.negFloat .f32 x = y at hop OY
    go_wp2_with (simp only [hop])
    go_ret
    exact ⟨x, y, rfl, OX.out, OY, HC2.out, HG2.out⟩
  · go_wp2_with fail
    refine (l1Fine_s B q _ HC2.out).mono ?_
    rintro e w3 ⟨y, ⟨rfl, hy, hc3, hg3⟩⟩
    have HC3 : Hid (Cur B w3 q) := hc3
    have HG3 : Hid (w.grownBy w3 (some q)) := grownBy_trans HG2.out hg3
    have OY : Hid (okB y = true) := hy
    clear hc3 hg3 hy
    go_wp2
    go_ret
    exact ⟨x, y, rfl, OX.out, OY.out, HC3.out, HG3.out⟩
end Go.Proofs.YtfdgijmmgllmgaaGreatDoor
namespace Go.Proofs.YtfdgijmmgllmgaaGreatDoor
open Go.ChangeShapes Go.WideShapes Go.ChangeAt Go.RowKit Go.Joins 
set_option linter.unusedSimpArgs false
set_option linter.unusedVariables false
def isSymB (t : Int) : Bool := decide (0 ≤ t) && decide (t < 4)
theorem isSymB_yes {t : Int} (h : 0 ≤ t) (h' : t < 4) : isSymB t = true := by simp [isSymB, h, h']
theorem isSymB_neg {t : Int} (h : t < 0) : isSymB t = false := by simp [isSymB]; omega
theorem isSymB_big {t : Int} (h : 4 ≤ t) : isSymB t = false := by simp [isSymB]; omega
theorem isSym_i (t : Int) (f : Bool) (w : World) :
    Calls Tryz.prog 30 #[.agg #[.int .i64 t, .bool f]] w fun e w' => e = .returned (.bool (isSymB t)) ∧ Below w.heap.size w w' := by
  rcases (by omega : t < 0 ∨ (0 ≤ t ∧ t < 4) ∨ (0 ≤ t ∧ 4 ≤ t)) with h | ⟨h, h'⟩ | ⟨h, h'⟩
  · rw [isSymB_neg h]
    go_enter Tryz.func30, Tryz.ntmps30
    go_wp2
    go_returns
    exact ⟨rfl, by go_grown⟩
  · rw [isSymB_yes h h']
    go_enter Tryz.func30, Tryz.ntmps30
    go_wp2
    go_returns
    exact ⟨rfl, by go_grown⟩
  · rw [isSymB_big h']
    have h2 : decide (t < 4) = false := by simp; omega
    go_enter Tryz.func30, Tryz.ntmps30
    go_wp2
    go_returns
    exact ⟨rfl, by go_grown⟩
theorem isSymB_iff {t : Int} : isSymB t = true ↔ 0 ≤ t ∧ t < 4 := by simp [isSymB]
theorem isSymB_no {t : Int} (h : isSymB t = false) : t < 0 ∨ (0 ≤ t ∧ 4 ≤ t) := by
  simp [isSymB] at h
  omega
end Go.Proofs.YtfdgijmmgllmgaaGreatDoor
namespace Go.Proofs.YtfdgijmmgllmgaaGreatDoor
open Go.ChangeShapes Go.WideShapes Go.ChangeAt Go.RowKit Go.Joins 
set_option linter.unusedSimpArgs false
set_option linter.unusedVariables false
def thenT (t u : Int) (g : Bool) : Int := if isSymB t && isSymB u then (if g then (u - t) % 4 else (t + u) % 4) else 0
def thenF (t u : Int) (f g : Bool) : Bool := isSymB t && isSymB u && (f != g)
def backT (t : Int) (f : Bool) : Int := if isSymB t then (if f then t else (-t) % 4) else 0
def backF (t : Int) (f : Bool) : Bool := isSymB t && f
theorem backSym_i (t : Int) (f : Bool) (w : World) :
    Calls Tryz.prog 55 #[.agg #[.int .i64 t, .bool f]] w fun e w' => e = .returned (.agg #[.int .i64 (backT t f), .bool (backF t f)]) ∧ Below w.heap.size w w' := by
  by_cases ht : isSymB t = true
  · obtain ⟨h1, h2⟩ := isSymB_iff.1 ht
    cases f
    · have eT : backT t false = (-t) % 4 := by simp [backT, ht]
      have eF : backF t false = false := by simp [backF]
      rw [eT, eF]
      clear eT eF ht
      go_enter Tryz.func55, Tryz.ntmps55
      go_wp2
      go_returns; exact ⟨by first | rfl | (simp; omega), by (repeat' (first | (with_reducible exact Below.refl _ _) | (with_reducible assumption) | (with_reducible refine Below.alloc ?_ ?_ _) | (with_reducible refine Below.drew ?_) | (with_reducible refine Below.setCell ?_ ?_ _) | (with_reducible refine Below.trans ?_ (Below.mono (by assumption) ?_)) | (with_reducible exact Nat.le_refl _) | omega | (simp only [World.size_alloc, World.size_setCell, World.size_drew]; omega) | (simp; omega) | (simp; done)))⟩
    · have eT : backT t true = t := by simp [backT, ht]
      have eF : backF t true = true := by simp [backF, ht]
      rw [eT, eF]
      clear eT eF ht
      go_enter Tryz.func55, Tryz.ntmps55
      go_wp2
      go_returns; exact ⟨by first | rfl | (simp; omega), by (repeat' (first | (with_reducible exact Below.refl _ _) | (with_reducible assumption) | (with_reducible refine Below.alloc ?_ ?_ _) | (with_reducible refine Below.drew ?_) | (with_reducible refine Below.setCell ?_ ?_ _) | (with_reducible refine Below.trans ?_ (Below.mono (by assumption) ?_)) | (with_reducible exact Nat.le_refl _) | omega | (simp only [World.size_alloc, World.size_setCell, World.size_drew]; omega) | (simp; omega) | (simp; done)))⟩
  · have eT : backT t f = 0 := by simp [backT, ht]
    have eF : backF t f = false := by simp [backF, ht]
    rw [eT, eF]
    clear eT eF
    rcases isSymB_no (by simpa using ht) with h | ⟨h3, h4⟩
    · clear ht
      go_enter Tryz.func55, Tryz.ntmps55
      go_wp2
      go_returns; exact ⟨by first | rfl | (simp; omega), by (repeat' (first | (with_reducible exact Below.refl _ _) | (with_reducible assumption) | (with_reducible refine Below.alloc ?_ ?_ _) | (with_reducible refine Below.drew ?_) | (with_reducible refine Below.setCell ?_ ?_ _) | (with_reducible refine Below.trans ?_ (Below.mono (by assumption) ?_)) | (with_reducible exact Nat.le_refl _) | omega | (simp only [World.size_alloc, World.size_setCell, World.size_drew]; omega) | (simp; omega) | (simp; done)))⟩
    · clear ht
      have h5 : decide (t < 4) = false := by simp; omega
      go_enter Tryz.func55, Tryz.ntmps55
      go_wp2
      go_returns; exact ⟨by first | rfl | (simp; omega), by (repeat' (first | (with_reducible exact Below.refl _ _) | (with_reducible assumption) | (with_reducible refine Below.alloc ?_ ?_ _) | (with_reducible refine Below.drew ?_) | (with_reducible refine Below.setCell ?_ ?_ _) | (with_reducible refine Below.trans ?_ (Below.mono (by assumption) ?_)) | (with_reducible exact Nat.le_refl _) | omega | (simp only [World.size_alloc, World.size_setCell, World.size_drew]; omega) | (simp; omega) | (simp; done)))⟩
end Go.Proofs.YtfdgijmmgllmgaaGreatDoor
namespace Go.Proofs.YtfdgijmmgllmgaaGreatDoor
open Go.ChangeShapes Go.WideShapes Go.ChangeAt Go.RowKit Go.Joins
set_option linter.unusedSimpArgs false
set_option linter.unusedVariables false
set_option maxRecDepth 100000
attribute [local go_sem] store_f
open Ieee
theorem cl_clean_eq {x : Nat} (h : Cl x) : cleanB x = x := by
  rw [clean_eq h.fin]
  by_cases h0 : rungOf F32 x = 0
  · rw [if_pos h0, h.zero h0]
  · rw [if_neg h0]
theorem ng_clean {x : Nat} (h : Fin32 x) : ngB (cleanB x) = ngB x := by
  rw [clean_eq h]
  by_cases h0 : rungOf F32 x = 0
  · rw [if_pos h0]
    unfold ngB
    rw [if_pos h0, if_pos (rung_of_lt (by omega))]
  · rw [if_neg h0]
theorem act_then (t u : Nat) (f g : Bool) {x y : Nat} (ht : t < 4) (hu : u < 4) (hx : Cl x) (hy : Cl y) :
    actV u g (actV t f x (ngB x) y (ngB y)).1 (ngB (actV t f x (ngB x) y (ngB y)).1) (actV t f x (ngB x) y (ngB y)).2 (ngB (actV t f x (ngB x) y (ngB y)).2) =
      actV (thenT t u g).toNat (thenF t u f g) x (ngB x) y (ngB y) := by
  have ex := ng_ng hx
  have ey := ng_ng hy
  rcases (by omega : t = 0 ∨ t = 1 ∨ t = 2 ∨ t = 3) with rfl | rfl | rfl | rfl <;>
  rcases (by omega : u = 0 ∨ u = 1 ∨ u = 2 ∨ u = 3) with rfl | rfl | rfl | rfl <;>
  cases f <;> cases g <;> simp [actV, thenT, thenF, isSymB, ex, ey]
end Go.Proofs.YtfdgijmmgllmgaaGreatDoor
namespace Go.Proofs.YtfdgijmmgllmgaaGreatDoor
open Go.ChangeShapes Go.WideShapes Go.ChangeAt Go.RowKit Go.Joins
set_option linter.unusedSimpArgs false
set_option linter.unusedVariables false
set_option maxRecDepth 100000
attribute [local go_sem] store_f
open Ieee
theorem ok_clean {x : Nat} (h : okB x = true) : okB (cleanB x) = true := by
  rw [clean_eq (ok_fin h)]
  split
  · exact ok_zero
  · exact h
theorem ok_ng {x : Nat} (h : okB x = true) : okB (ngB x) = true := by
  have hr := ok_rung h
  unfold ngB
  split
  · exact ok_zero
  · have e : F32.word (!negOf F32 x) (rungOf F32 x) = (if (!negOf F32 x) then 2147483648 else 0) + rungOf F32 x := by
      unfold Format.word; rw [F32_sw]; cases negOf F32 x <;> simp
    rw [e]
    simp only [okB, Bool.and_eq_true, decide_eq_true_eq]
    split <;> omega
structure Pt (x : Nat) : Prop where
  cl : Cl x
  ok : okB x = true
theorem pt_clean {x : Nat} (h : okB x = true) : Pt (cleanB x) := ⟨cl_clean (ok_fin h) (ok_lt h), ok_clean h⟩
theorem pt_ng {x : Nat} (h : okB x = true) : Pt (ngB x) := ⟨cl_ng (ok_fin h), ok_ng h⟩
theorem act_pt (t : Nat) (f : Bool) {x y : Nat} (hx : Pt x) (hy : Pt y) : Pt (actV t f x (ngB x) y (ngB y)).1 ∧ Pt (actV t f x (ngB x) y (ngB y)).2 := by
  have nx := pt_ng hx.ok
  have ny := pt_ng hy.ok
  unfold actV
  split <;> exact ⟨by assumption, by assumption⟩
structure BackM (t : Int) (f : Bool) (p : Int) (a : Bool) : Prop where
  call : ∀ w : World, Calls Tryz.prog 55 #[.agg #[.int .i64 t, .bool f]] w fun e w' => e = .returned (.agg #[.int .i64 p, .bool a]) ∧ Below w.heap.size w w'
structure ActM (t : Int) (f : Bool) (x y p q : Nat) : Prop where
  call : ∀ w : World, Calls Tryz.prog 90 #[.agg #[.int .i64 t, .bool f], .complex .f32 x y] w fun e w' => e = .returned (.complex .f32 p q) ∧ Below w.heap.size w w'
theorem act_of {t : Nat} (f : Bool) {x y : Nat} (ht : t < 4) (hx : okB x = true) (hy : okB y = true) :
    ActM t f x y (actV t f (cleanB x) (ngB (cleanB x)) (cleanB y) (ngB (cleanB y))).1 (actV t f (cleanB x) (ngB (cleanB x)) (cleanB y) (ngB (cleanB y))).2 := by
  rw [ng_clean (ok_fin hx), ng_clean (ok_fin hy)]
  exact ⟨fun w => actSym_i t f x y _ _ _ _ w ht (ok_in hx) (ok_in hy) (parts_of (ok_fin hx) (ok_lt hx)) (parts_of (ok_fin hy) (ok_lt hy))⟩
theorem act_of_pt {t : Nat} (f : Bool) {x y : Nat} (ht : t < 4) (hx : Pt x) (hy : Pt y) :
    ActM t f x y (actV t f x (ngB x) y (ngB y)).1 (actV t f x (ngB x) y (ngB y)).2 := by
  have h := act_of f ht hx.ok hy.ok
  rwa [cl_clean_eq hx.cl, cl_clean_eq hy.cl] at h
theorem order_self {x : Nat} (h : Fin32 x) : (FloatKind.f32.format.order x x == some .eq) = true := by
  show (F32.order x x == some .eq) = true
  rw [order_fin F32 h h, cmp_eq]; simp
theorem back_in : ∀ (t : Fin 4) (f : Bool), backT (t.val : Int) f = ((backT (t.val : Int) f).toNat : Int) ∧ (backT (t.val : Int) f).toNat < 4 := by decide +kernel
end Go.Proofs.YtfdgijmmgllmgaaGreatDoor
namespace Go.Proofs.YtfdgijmmgllmgaaGreatDoor
open Go.ChangeShapes Go.WideShapes Go.ChangeAt Go.RowKit Go.Joins
section
variable {H : Type} {enc : TypeId × Value → H} {W : World} {base : Nat} {spare : Nat → Bool} {held : Bool} {v : Value} {d : DataW H} {p : List MemPlace}
def colV (r g b : Nat) : Value := .agg #[.float .f32 r, .float .f32 g, .float .f32 b]
end
end Go.Proofs.YtfdgijmmgllmgaaGreatDoor
namespace Go.Proofs.YtfdgijmmgllmgaaGreatDoor
open Go.ChangeShapes Go.WideShapes Go.ChangeAt Go.RowKit Go.Joins
set_option linter.unusedSimpArgs false
set_option linter.unusedVariables false
set_option maxRecDepth 100000
attribute [local go_sem] store_f
def shareB (x : Nat) : Bool := (FloatKind.f32.format.order x 0 == some .gt || FloatKind.f32.format.order x 0 == some .eq) && (FloatKind.f32.format.order x 1065353216 == some .lt || FloatKind.f32.format.order x 1065353216 == some .eq)
def boundB (x : Nat) : Nat := if FloatKind.f32.format.order x 1065353216 == some .gt then 1065353216 else x
theorem isShare_i (x : Nat) (w : World) :
    Calls Tryz.prog 53 #[.float .f32 x] w fun e w' => e = .returned (.bool (shareB x)) ∧ w' = w := by
  go_enter Tryz.func53, Tryz.ntmps53
  go_wp2
  all_goals (go_ret; exact ⟨by simp_all [shareB], rfl⟩)
theorem differenceOf_i (a b r : Nat) (w : World) (h : FloatKind.f32.format.sub a b = some r) :
    Calls Tryz.prog 115 #[.float .f32 a, .float .f32 b] w fun e w' => e = .returned (.float .f32 (setB r)) ∧ w' = w := by
  have hop := fun t w => run_float_arith (P := Tryz.prog) w .sub t .f32 a b r h
  go_enter Tryz.func115, Tryz.ntmps115
  go_wp2_with (first | (simp only [hop]) | (go_at_call 123; refine (settle_i _ _).mono ?_; rintro e w1 ⟨rfl, rfl⟩))
  all_goals (go_ret; exact ⟨rfl, rfl⟩)
theorem l1Clean_s (x : Nat) (w : World) (h : FloatKind.f32.format.sub x x = some 0) :
    Calls Tryz.prog 139 #[.float .f32 x] w fun e w' => e = .returned (.float .f32 (cleanB x)) ∧ w' = w := by
  have hop := fun t w => run_float_arith (P := Tryz.prog) w .sub t .f32 x x 0 h
  have h0 : FloatKind.f32.format.order 0 0 = some .eq := by kernel_rfl
  go_enter Tryz.func139, Tryz.ntmps139
  go_wp2_with (simp only [hop])
  all_goals (go_ret; exact ⟨by simp_all [cleanB], rfl⟩)
theorem l1Plus_s (a b r : Nat) (w : World) (h : FloatKind.f32.format.add a b = some r) (h0 : FloatKind.f32.format.sub r r = some 0) :
    Calls Tryz.prog 107 #[.float .f32 a, .float .f32 b] w fun e w' => e = .returned (.float .f32 (cleanB r)) ∧ w' = w := by
  have hop := fun t w => run_float_arith (P := Tryz.prog) w .add t .f32 a b r h
  have H0 : Hid (FloatKind.f32.format.sub r r = some 0) := h0
  clear h0
  go_enter Tryz.func107, Tryz.ntmps107
  go_wp2_with (first | (simp only [hop]) | (go_at_call 139; refine (l1Clean_s _ _ H0.out).mono ?_; rintro e w1 ⟨rfl, rfl⟩))
  all_goals (go_ret; exact ⟨rfl, rfl⟩)
theorem l1Minus_s (a b r : Nat) (w : World) (h : FloatKind.f32.format.sub a b = some r) (h0 : FloatKind.f32.format.sub r r = some 0) :
    Calls Tryz.prog 152 #[.float .f32 a, .float .f32 b] w fun e w' => e = .returned (.float .f32 (cleanB r)) ∧ w' = w := by
  have hop := fun t w => run_float_arith (P := Tryz.prog) w .sub t .f32 a b r h
  have H0 : Hid (FloatKind.f32.format.sub r r = some 0) := h0
  clear h0
  go_enter Tryz.func152, Tryz.ntmps152
  go_wp2_with (first | (simp only [hop]) | (go_at_call 139; refine (l1Clean_s _ _ H0.out).mono ?_; rintro e w1 ⟨rfl, rfl⟩))
  all_goals (go_ret; exact ⟨rfl, rfl⟩)
theorem l1Times_s (a b r : Nat) (w : World) (h : FloatKind.f32.format.mul a b = some r) (h0 : FloatKind.f32.format.sub r r = some 0) :
    Calls Tryz.prog 158 #[.float .f32 a, .float .f32 b] w fun e w' => e = .returned (.float .f32 (cleanB r)) ∧ w' = w := by
  have hop := fun t w => run_float_arith (P := Tryz.prog) w .mul t .f32 a b r h
  have H0 : Hid (FloatKind.f32.format.sub r r = some 0) := h0
  clear h0
  go_enter Tryz.func158, Tryz.ntmps158
  go_wp2_with (first | (simp only [hop]) | (go_at_call 139; refine (l1Clean_s _ _ H0.out).mono ?_; rintro e w1 ⟨rfl, rfl⟩))
  all_goals (go_ret; exact ⟨rfl, rfl⟩)
end Go.Proofs.YtfdgijmmgllmgaaGreatDoor
namespace Go.Proofs.YtfdgijmmgllmgaaGreatDoor
open Go.ChangeShapes Go.WideShapes Go.ChangeAt Go.RowKit Go.Joins
set_option linter.unusedSimpArgs false
set_option linter.unusedVariables false
set_option maxRecDepth 100000
attribute [local go_sem] store_f
open Ieee
def cw (s : Bool) (r : Nat) : Nat := if r = 0 ∨ 2139095040 ≤ r then 0 else F32.word s r
def clT (T : Int) : Nat := cw (decide (T < 0)) (rn F32 T.natAbs 0)
def clM (P : Int) : Nat := cw (decide (P < 0)) (rn F32 P.natAbs 149)
def tv (T : Int) : Int := valOf F32 (clT T)
def mv (P : Int) : Int := valOf F32 (clM P)
theorem set_inf (s : Bool) : setB (F32.word s 2139095040) = 0 := by cases s <;> decide +kernel
theorem set_word (s : Bool) (r : Nat) : setB (F32.word s (min r F32.infRung)) = cw s r := by
  unfold cw
  rw [F32_inf]
  by_cases h : r < 2139095040
  · rw [Nat.min_eq_left (by omega), set_clean (fin_word s h), clean_w s h]
    by_cases h0 : r = 0
    · rw [if_pos h0, if_pos (Or.inl h0)]
    · rw [if_neg h0, if_neg (by omega)]
  · rw [Nat.min_eq_right (by omega), set_inf, if_pos (Or.inr (by omega))]
theorem cw_zero (s : Bool) : cw s 0 = 0 := by unfold cw; rw [if_pos (Or.inl rfl)]
theorem set_round (z : Bool) (T : Int) : setB (roundTo F32 z T) = clT T := by
  unfold roundTo clT
  rw [set_word]
  by_cases h : T = 0
  · subst h
    rw [Int.natAbs_zero, rn_zero, cw_zero, cw_zero]
  · rw [if_neg h]
theorem cw_cl (s : Bool) (r : Nat) : Cl (cw s r) := by
  unfold cw
  by_cases h : r = 0 ∨ 2139095040 ≤ r
  · rw [if_pos h]; exact cl_zero
  · rw [if_neg h]
    refine ⟨fin_word s (by omega), word_lt s (by omega), fun h1 => ?_⟩
    rw [rungOf_word F32 s (by rw [F32_sw]; omega)] at h1
    omega
theorem clT_cl (T : Int) : Cl (clT T) := cw_cl _ _
theorem clM_cl (P : Int) : Cl (clM P) := cw_cl _ _
theorem val_cw (s : Bool) (r : Nat) : valOf F32 (cw s r) = if r = 0 ∨ 2139095040 ≤ r then 0 else if s then -(magOf F32 r : Int) else (magOf F32 r : Int) := by
  unfold cw
  by_cases h : r = 0 ∨ 2139095040 ≤ r
  · rw [if_pos h, if_pos h, val_zero]
  · rw [if_neg h, if_neg h, valOf_word F32 s (by rw [F32_sw]; omega)]
theorem sub_cl {a b : Nat} (ha : Fin32 a) (hb : Fin32 b) : ∃ r, F32.sub a b = some r ∧ setB r = clT (valOf F32 a - valOf F32 b) :=
  ⟨_, sub_fin F32 ha hb, set_round _ _⟩
theorem add_cl {a b : Nat} (ha : Fin32 a) (hb : Fin32 b) : ∃ r, F32.add a b = some r ∧ setB r = clT (valOf F32 a + valOf F32 b) :=
  ⟨_, add_fin F32 ha hb, set_round _ _⟩
theorem abs_val (x : Nat) : (valOf F32 x).natAbs = magOf F32 (rungOf F32 x) := by unfold valOf; split <;> omega
theorem val_neg {x : Nat} (h : valOf F32 x ≠ 0) : decide (valOf F32 x < 0) = negOf F32 x := by
  have hm := abs_val x
  unfold valOf at *
  cases negOf F32 x <;> simp_all <;> omega
theorem mul_cl {a b : Nat} (ha : Fin32 a) (hb : Fin32 b) : ∃ r, F32.mul a b = some r ∧ setB r = clM (valOf F32 a * valOf F32 b) := by
  refine ⟨_, mul_fin F32 (q := 149) F32_lp ha hb, ?_⟩
  unfold roundMul clM
  rw [set_word, Int.natAbs_mul, abs_val, abs_val]
  by_cases h : valOf F32 a * valOf F32 b = 0
  · have e : magOf F32 (rungOf F32 a) * magOf F32 (rungOf F32 b) = 0 := by rw [← abs_val, ← abs_val, ← Int.natAbs_mul, h]; rfl
    rw [e, rn_zero, cw_zero, cw_zero]
  · have h1 : valOf F32 a ≠ 0 := fun e => h (by rw [e, Int.zero_mul])
    have h2 : valOf F32 b ≠ 0 := fun e => h (by rw [e, Int.mul_zero])
    have e : (negOf F32 a ^^ negOf F32 b) = decide (valOf F32 a * valOf F32 b < 0) := by
      rw [← val_neg h1, ← val_neg h2]
      generalize valOf F32 a = x at *
      generalize valOf F32 b = y at *
      rcases Int.lt_or_gt_of_ne h1 with p | p <;> rcases Int.lt_or_gt_of_ne h2 with q | q
      · have := Int.mul_pos_of_neg_of_neg p q
        simp [p, q]; omega
      · have := Int.mul_neg_of_neg_of_pos p q
        simp [p, this]; omega
      · have := Int.mul_neg_of_pos_of_neg p q
        simp [q, this]; omega
      · have := Int.mul_pos p q
        have n1 : ¬ x < 0 := by omega
        have n2 : ¬ y < 0 := by omega
        have n3 : ¬ x * y < 0 := by omega
        simp [n1, n2, n3]
    rw [e]
theorem rung_cw {s : Bool} {r : Nat} : rungOf F32 (cw s r) = if r = 0 ∨ 2139095040 ≤ r then 0 else r := by
  unfold cw
  by_cases h : r = 0 ∨ 2139095040 ≤ r
  · rw [if_pos h, if_pos h]; exact rung_of_lt (by omega)
  · rw [if_neg h, if_neg h, rungOf_word F32 s (by rw [F32_sw]; omega)]
theorem val_odd {f : Int → Nat} {T : Int} {q : Nat} (hf : ∀ T, f T = cw (decide (T < 0)) (rn F32 T.natAbs q)) : valOf F32 (f (-T)) = - valOf F32 (f T) := by
  rw [hf, hf, val_cw, val_cw, Int.natAbs_neg]
  by_cases h : rn F32 T.natAbs q = 0 ∨ 2139095040 ≤ rn F32 T.natAbs q
  · rw [if_pos h, if_pos h]; rfl
  · rw [if_neg h, if_neg h]
    have hT : T ≠ 0 := fun e => h (Or.inl (by rw [e]; exact rn_zero q))
    rcases Int.lt_or_gt_of_ne hT with p | p
    · have n1 : ¬ -T < 0 := by omega
      simp [p, n1]; intro; omega
    · have n1 : ¬ T < 0 := by omega
      have n2 : -T < 0 := by omega
      simp [n1, n2]; intro; omega
theorem tv_neg (T : Int) : tv (-T) = - tv T := val_odd (f := clT) (q := 0) (fun _ => rfl)
theorem tv_val {x : Nat} (h : Fin32 x) : tv (valOf F32 x) = valOf F32 x := by
  unfold tv clT
  have hr := fin_rung h
  rw [rn_self, val_cw]
  by_cases h0 : rungOf F32 x = 0
  · rw [if_pos (Or.inl h0), val_eq_zero.2 h0]
  · rw [if_neg (by omega), val_neg (fun e => h0 (val_eq_zero.1 e))]
    rfl
theorem clT_ok {T : Int} (h : T.natAbs ≤ magOf F32 1166016512) : okB (clT T) = true := by
  have h1 : rn F32 T.natAbs 0 ≤ 1166016512 := rn_le F32 (by simpa using h)
  have h2 := (clT_cl T).lt
  have h3 : rungOf F32 (clT T) ≤ 1166016512 := by
    unfold clT; rw [rung_cw]; split <;> omega
  unfold rungOf at h3
  rw [F32_sw] at h3
  simp [okB, h2, h3]
structure Rch (x : Nat) : Prop where
  lt : x < 4294967296
  inb : inB x = true
theorem inB_fin {x : Nat} (h : inB x = true) : Fin32 x := by
  by_cases hf : Fin32 x
  · exact hf
  · exfalso
    unfold inB at h
    have h' : (((F32.read x).order (F32.read 3313500160) == some .gt || (F32.read x).order (F32.read 3313500160) == some .eq) && ((F32.read x).order (F32.read 1166016512) == some .lt || (F32.read x).order (F32.read 1166016512) == some .eq)) = true := h
    have r1 : F32.read 3313500160 = .number true 8388608 (-11) := by kernel_rfl
    have r2 : F32.read 1166016512 = .number false 8388608 (-11) := by kernel_rfl
    rw [r1, r2] at h'
    have h1 : F32.infRung ≤ rungOf F32 x := Nat.le_of_not_lt hf
    rcases Nat.eq_or_lt_of_le h1 with h2 | h2
    · rw [read_inf F32 h2.symm F32_eb] at h'
      cases hn : negOf F32 x <;> rw [hn] at h' <;> simp [Datum.order] at h'
    · rw [read_nan F32 h2 F32_eb] at h'; simp [Datum.order] at h'
theorem Rch.fin {x : Nat} (h : Rch x) : Fin32 x := inB_fin h.inb
theorem ok_rch {x : Nat} (h : okB x = true) : Rch x := ⟨ok_lt h, ok_in h⟩
def sideW (a1 a2 b1 b2 p1 p2 : Nat) : Nat :=
  clT (mv (tv (valOf F32 b1 - valOf F32 a1) * tv (valOf F32 p2 - valOf F32 a2)) - mv (tv (valOf F32 b2 - valOf F32 a2) * tv (valOf F32 p1 - valOf F32 a1)))
theorem side_cl (a1 a2 b1 b2 p1 p2 : Nat) : Cl (sideW a1 a2 b1 b2 p1 p2) := clT_cl _
end Go.Proofs.YtfdgijmmgllmgaaGreatDoor
namespace Go.Proofs.YtfdgijmmgllmgaaGreatDoor
open Ieee
theorem read_zero : F32.read 0 = .number false 0 F32.leastPlace := by kernel_rfl
theorem read_one : F32.read 1065353216 = .number false 8388608 (-23) := by kernel_rfl
theorem not_fin {x : Nat} (h : ¬ Fin32 x) : (F32.read x = .infinity (negOf F32 x)) ∨ ∃ s t, F32.read x = .nan s t := by
  have h1 : F32.infRung ≤ rungOf F32 x := Nat.le_of_not_lt h
  rcases Nat.eq_or_lt_of_le h1 with h2 | h2
  · exact Or.inl (read_inf F32 h2.symm F32_eb)
  · exact Or.inr ⟨_, _, read_nan F32 h2 F32_eb⟩
theorem sub_self_none {x : Nat} (h : ¬ Fin32 x) : F32.sub x x = none := by
  unfold Format.sub
  rcases not_fin h with e | ⟨s, t, e⟩
  · rw [e]; cases negOf F32 x <;> rfl
  · rw [e]; rfl
def Part (x : Nat) : Prop := x ≤ 1065353216 ∨ x = 2147483648
theorem Part.fin {x : Nat} (h : Part x) : Fin32 x := by
  rcases h with h | h
  · exact fin_of_lt (by omega)
  · subst h; unfold Fin32 rungOf; rw [F32_sw, F32_inf]; decide
theorem Part.lt {x : Nat} (h : Part x) : x < 4294967296 := by
  rcases h with h | h <;> omega
theorem share_part {x : Nat} (hx : x < 4294967296) (h : shareB x = true) : Part x := by
  by_cases hf : Fin32 x
  · unfold shareB at h
    rw [order_zero hf, order_fin F32 hf (fin_of_lt (x := 1065353216) (by omega)), val_of_lt (x := 1065353216) (by omega)] at h
    simp only [cmp_eq, cmp_lt, cmp_gt] at h
    simp only [Bool.and_eq_true, Bool.or_eq_true, decide_eq_true_eq] at h
    by_cases hlt : x < 2147483648
    · left
      rw [val_of_lt hlt] at h
      exact le_of_magOf F32 (by omega)
    · right
      have e1 : rungOf F32 x = x - 2147483648 := by unfold rungOf; rw [F32_sw]; omega
      have e2 : negOf F32 x = true := by unfold negOf; rw [F32_sw]; have : x / 2147483648 = 1 := by omega
                                         rw [this]; rfl
      unfold valOf at h
      rw [e1, e2] at h
      simp only [if_true] at h
      rcases Nat.eq_zero_or_pos (x - 2147483648) with h0 | h0
      · omega
      · have := magOf_pos h0; omega
  · exfalso
    unfold shareB at h
    have h1 : ∀ y, F32.order x y = (F32.read x).order (F32.read y) := fun _ => rfl
    have h' : (((F32.read x).order (F32.read 0) == some .gt || (F32.read x).order (F32.read 0) == some .eq) && ((F32.read x).order (F32.read 1065353216) == some .lt || (F32.read x).order (F32.read 1065353216) == some .eq)) = true := h
    rw [read_zero, read_one] at h'
    rcases not_fin hf with e | ⟨s, t, e⟩
    · rw [e] at h'; cases hn : negOf F32 x <;> rw [hn] at h' <;> simp [Datum.order] at h'
    · rw [e] at h'; simp [Datum.order] at h'
theorem part_share {x : Nat} (h : Part x) : shareB x = true := by
  have hf := h.fin
  unfold shareB
  rw [order_zero hf, order_fin F32 hf (fin_of_lt (x := 1065353216) (by omega)), val_of_lt (x := 1065353216) (by omega)]
  simp only [cmp_eq, cmp_lt, cmp_gt]
  simp only [Bool.and_eq_true, Bool.or_eq_true, decide_eq_true_eq]
  rcases h with h | h
  · rw [val_of_lt (by omega)]
    have := magOf_le F32 h
    omega
  · subst h
    have : valOf F32 2147483648 = 0 := val_eq_zero.2 (by unfold rungOf; rw [F32_sw])
    rw [this]; omega
section
variable {P : Program} (w : World)
theorem run_float_nan (t : TypeId) (x y : Nat) (h : FloatKind.f32.format.sub x y = none) : (binOp .sub t (.float .f32 x) (.float .f32 y)).run P w = .ok (.float .f32 ((Question.nanBits .f32 x y).cut (w.tape w.drawn (.nanBits .f32 x y)))) w.drew := by
  simp [binOp, Op.floatArith, h, Question.forced]
end
theorem nan_order (x y t : Nat) : (FloatKind.f32.format.order ((Question.nanBits .f32 x y).cut t) 0 == some .eq) = false := by
  have h : F32.infRung < rungOf F32 ((Question.nanBits .f32 x y).cut t) := by
    show _ < rungOf F32 (t % 2 * 2 ^ 31 + 0x7f800000 + 1 + t / 2 % (2 ^ 23 - 1))
    unfold rungOf
    rw [F32_inf, F32_sw]
    have hb : t / 2 % (2 ^ 23 - 1) < 2 ^ 23 - 1 := Nat.mod_lt _ (by omega)
    have ha : t % 2 = 0 ∨ t % 2 = 1 := by omega
    generalize t / 2 % (2 ^ 23 - 1) = b at hb ⊢
    rcases ha with e | e <;> rw [e] <;> omega
  show ((F32.read _).order (F32.read 0) == some .eq) = false
  rw [read_nan F32 h F32_eb]; rfl
end Go.Proofs.YtfdgijmmgllmgaaGreatDoor
namespace Go.Proofs.YtfdgijmmgllmgaaGreatDoor
open Go.ChangeShapes Go.WideShapes Go.ChangeAt Go.RowKit Go.Joins
set_option linter.unusedSimpArgs false
set_option linter.unusedVariables false
set_option maxRecDepth 100000
attribute [local go_sem] store_f
theorem l1Single_yes (x : Nat) (w : World) (h : FloatKind.f32.format.sub x x = some 0) :
    Calls Tryz.prog 96 #[.float .f32 x] w fun e w' => e = .returned (.bool true) ∧ Below w.heap.size w w' := by
  have hop := fun t w => run_float_arith (P := Tryz.prog) w .sub t .f32 x x 0 h
  have h0 : (FloatKind.f32.format.order 0 0 == some .eq) = true := by kernel_rfl
  go_enter Tryz.func96, Tryz.ntmps96
  go_wp2_with (simp only [hop])
  all_goals (go_ret; exact ⟨by simp_all, Below.refl _ _⟩)
theorem l1Single_no (x : Nat) (w : World) (h : FloatKind.f32.format.sub x x = none) :
    Calls Tryz.prog 96 #[.float .f32 x] w fun e w' => e = .returned (.bool false) ∧ Below w.heap.size w w' := by
  have hop := fun t w => run_float_nan (P := Tryz.prog) w t x x h
  have h0 := nan_order x x
  go_enter Tryz.func96, Tryz.ntmps96
  go_wp2_with (simp only [hop])
  all_goals (go_ret; exact ⟨by simp_all, by (repeat' (first | (with_reducible exact Below.refl _ _) | (with_reducible assumption) | (with_reducible refine Below.alloc ?_ ?_ _) | (with_reducible refine Below.drew ?_) | (with_reducible refine Below.setCell ?_ ?_ _) | (with_reducible refine Below.trans ?_ (Below.mono (by assumption) ?_)) | (with_reducible exact Nat.le_refl _) | omega | (simp only [World.size_alloc, World.size_setCell, World.size_drew]; omega) | (simp; omega) | (simp; done)))⟩)
theorem l1Single_s (x : Nat) (w : World) :
    Calls Tryz.prog 96 #[.float .f32 x] w fun e w' => e = .returned (.bool (rungOf F32 x < F32.infRung)) ∧ Below w.heap.size w w' := by
  by_cases h : Fin32 x
  · refine (l1Single_yes x w (sub_self h)).mono ?_
    rintro e w1 ⟨rfl, hb⟩
    have h' : rungOf F32 x < F32.infRung := h
    exact ⟨by simp [h'], hb⟩
  · refine (l1Single_no x w (sub_self_none h)).mono ?_
    rintro e w1 ⟨rfl, hb⟩
    have h' : ¬ rungOf F32 x < F32.infRung := h
    exact ⟨by simp [h'], hb⟩
theorem part_fin' {x : Nat} (hx : x < 4294967296) (h : ¬ rungOf F32 x < F32.infRung) : shareB x = false := by
  cases h1 : shareB x
  · rfl
  · exact absurd (share_part hx h1).fin h
theorem l2Part_s (x : Nat) (hx : x < 4294967296) (w : World) :
    Calls Tryz.prog 133 #[.float .f32 x] w fun e w' => e = .returned (.bool (shareB x)) ∧ Below w.heap.size w w' := by
  have HX : Hid (x < 4294967296) := hx
  clear hx
  by_cases hs : rungOf F32 x < F32.infRung
  · go_enter Tryz.func133, Tryz.ntmps133
    go_wp2_with (go_at_call 96; refine (l1Single_s _ _).mono ?_; rintro e w1 ⟨rfl, hb⟩; simp only [hs, decide_true])
    all_goals (go_ret; exact ⟨by simp_all [shareB], by (repeat' (first | (with_reducible exact Below.refl _ _) | (with_reducible assumption) | (with_reducible refine Below.alloc ?_ ?_ _) | (with_reducible refine Below.drew ?_) | (with_reducible refine Below.setCell ?_ ?_ _) | (with_reducible refine Below.trans ?_ (Below.mono (by assumption) ?_)) | (with_reducible exact Nat.le_refl _) | omega | (simp only [World.size_alloc, World.size_setCell, World.size_drew]; omega) | (simp; omega) | (simp; done)))⟩)
  · have H2 : Hid (shareB x = false) := part_fin' HX.out hs
    go_enter Tryz.func133, Tryz.ntmps133
    go_wp2_with (go_at_call 96; refine (l1Single_s _ _).mono ?_; rintro e w1 ⟨rfl, hb⟩; simp only [hs, decide_false])
    all_goals (go_ret; exact ⟨by simp [H2.out], by (repeat' (first | (with_reducible exact Below.refl _ _) | (with_reducible assumption) | (with_reducible refine Below.alloc ?_ ?_ _) | (with_reducible refine Below.drew ?_) | (with_reducible refine Below.setCell ?_ ?_ _) | (with_reducible refine Below.trans ?_ (Below.mono (by assumption) ?_)) | (with_reducible exact Nat.le_refl _) | omega | (simp only [World.size_alloc, World.size_setCell, World.size_drew]; omega) | (simp; omega) | (simp; done)))⟩)
theorem l2Part_is {x : Nat} {s : Bool} (hs : shareB x = s) (hx : x < 4294967296) (w : World) :
    Calls Tryz.prog 133 #[.float .f32 x] w fun e w' => e = .returned (.bool s) ∧ Below w.heap.size w w' := hs ▸ l2Part_s x hx w
end Go.Proofs.YtfdgijmmgllmgaaGreatDoor
