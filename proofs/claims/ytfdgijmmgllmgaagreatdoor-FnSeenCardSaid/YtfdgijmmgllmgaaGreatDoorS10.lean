/-
  Texts Cdr Tp Gl Gn Hl Ha, joined.
-/
import Derived.Test.YtfdgijmmgllmgaaGreatDoorS09
import Derived.Test.YtfdgijmmgllmgaaGreatDoorS06
import Derived.Deep.RegionLaw
import Derived.Deep.AppendLies
import Derived.Deep.DeepCutAuto
import Derived.Test.YtfdgijmmgllmgaaGreatDoorS05
import Derived.Test.YtfdgijmmgllmgaaGreatDoorS01
namespace Go.Proofs.YtfdgijmmgllmgaaGreatDoor
open Go.ChangeShapes Go.WideShapes Go.ChangeAt Go.RowKit Go.Joins
set_option linter.unusedSimpArgs false
set_option linter.unusedVariables false
set_option maxRecDepth 100000
attribute [local go_sem] store_f
open Ieee
structure PartDrawn (B q : Nat) (w : World) (e : Ending) (w' : World) (x : Nat) : Prop where
  ret : e = .returned (.float .f32 x)
  le : x ≤ 1065353216
  cur : Cur B w' q
  grown : w.grownBy w' (some q)
def centB (n : Nat) : Nat := match FloatKind.f32.format.div (floatOfInt .f32 n) 1120403456 with | some r => r | none => 0
theorem cents : ∀ n : Nat, n < 101 → FloatKind.f32.format.div (floatOfInt .f32 n) 1120403456 = some (centB n) ∧ centB n ≤ 1065353216 := by decide +kernel
set_option maxHeartbeats 1000000 in
theorem l2One_s (B q : Nat) (w : World) (hcur : Cur B w q) :
    Calls Tryz.prog 70 #[.pointer (some ⟨q, 0, Option.none⟩)] w fun e w' => ∃ x : Nat, PartDrawn B q w e w' x := by
  have HC : Hid (Cur B w q) := hcur
  clear hcur
  go_enter Tryz.func70, Tryz.ntmps70
  go_wp2_with fail
  refine (l1Once_s B q 3 _ HC.out (by omega) (by omega)).mono ?_
  rintro e w1 ⟨t, ⟨rfl, hc1, hg1⟩⟩
  have HC1 : Hid (Cur B w1 q) := hc1
  have HG1 : Hid (w.grownBy w1 (some q)) := hg1
  have s1 := hg1.size
  clear hc1 hg1
  cases t
  · go_wp2_with fail
    refine (l1Below_s B q 101 _ HC1.out (by omega) (by omega)).mono ?_
    rintro e w2 ⟨x, rfl, hx0, hx1, hc2, hg2⟩
    have HC2 : Hid (Cur B w2 q) := hc2
    have HG2 : Hid (w1.grownBy w2 (some q)) := hg2
    clear hc2 hg2
    obtain ⟨n, rfl⟩ : ∃ n : Nat, x = n := ⟨x.toNat, by omega⟩
    have hn : n < 101 := by omega
    have hop := fun t W => run_float_arith (P := Tryz.prog) W .quo t .f32 (floatOfInt .f32 n) 1120403456 _ (cents n hn).1
    have hle : Hid (centB n ≤ 1065353216) := (cents n hn).2
    generalize centB n = y at hop hle
    clear hx0 hx1
    go_wp2_with (simp only [hop])
    go_ret
    exact ⟨y, rfl, hle.out, HC2.out, grownBy_trans HG1.out HG2.out⟩
  · have hqlt := HC1.out.lt
    go_wp2_with fail
    have HA : Hid (Cur B (w1.alloc (.cells #[.float .f32 0, .float .f32 1065353216, .float .f32 1056964608, .float .f32 1048576000] 24)) q) := HC1.out.alloc
    have HK : Hid (Blk (w1.alloc (.cells #[.float .f32 0, .float .f32 1065353216, .float .f32 1056964608, .float .f32 1048576000] 24)) w1.heap.size #[.float .f32 0, .float .f32 1065353216, .float .f32 1056964608, .float .f32 1048576000] 24) := Blk.new _ _ _
    refine (l1Below_s B q 4 _ HA.out (by omega) (by omega)).mono ?_
    rintro e w2 ⟨x, rfl, hx0, hx1, hc2, hg2⟩
    have HB2 := HK.out.grown hg2 (by omega)
    have HC2 : Hid (Cur B w2 q) := hc2
    have HG2 : Hid (w.grownBy w2 (some q)) := grownBy_trans (grown_alloc HG1.out _) hg2
    have l2 := HB2.lt
    have d0 := Blk.cellAt (i := 0) HB2 rfl
    have d1 := Blk.cellAt (i := 1) HB2 rfl
    have d2 := Blk.cellAt (i := 2) HB2 rfl
    have d3 := Blk.cellAt (i := 3) HB2 rfl
    simp at d0 d1 d2 d3
    clear hc2 hg2 HB2
    rcases (by omega : x = 0 ∨ x = 1 ∨ x = 2 ∨ x = 3) with rfl | rfl | rfl | rfl
    all_goals
      go_wp2
      go_ret
      exact ⟨_, rfl, by omega, HC2.out, HG2.out⟩
structure ColDrawn (B q : Nat) (w : World) (e : Ending) (w' : World) (r g b : Nat) : Prop where
  ret : e = .returned (.agg #[.float .f32 r, .float .f32 g, .float .f32 b])
  lr : r ≤ 1065353216
  lg : g ≤ 1065353216
  lb : b ≤ 1065353216
  cur : Cur B w' q
  grown : w.grownBy w' (some q)
set_option maxHeartbeats 1000000 in
theorem l2Draw_s (B q : Nat) (w : World) (hcur : Cur B w q) :
    Calls Tryz.prog 36 #[.pointer (some ⟨q, 0, Option.none⟩)] w fun e w' => ∃ r g b : Nat, ColDrawn B q w e w' r g b := by
  have HC : Hid (Cur B w q) := hcur
  have hq := hcur.lt
  clear hcur
  go_enter Tryz.func36, Tryz.ntmps36
  go_wp2_with fail
  have HA : Hid (Cur B (w.alloc (.cells #[.float .f32 0, .float .f32 0, .float .f32 0] 26)) q) := HC.out.alloc
  have HK : Hid (Blk (w.alloc (.cells #[.float .f32 0, .float .f32 0, .float .f32 0] 26)) w.heap.size #[.float .f32 0, .float .f32 0, .float .f32 0] 26) := Blk.new _ _ _
  refine (l2One_s B q _ HA.out).mono ?_
  rintro e w1 ⟨r, ⟨rfl, lr, hc1, hg1⟩⟩
  have K1 : Hid (Blk w1 w.heap.size #[.float .f32 0, .float .f32 0, .float .f32 0] 26) := HK.out.grown hg1 (by omega)
  have C1 : Hid (Cur B w1 q) := hc1
  have G1 : Hid (w.grownBy w1 (some q)) := grownBy_trans (grown_alloc (grownBy_refl _ _) _) hg1
  clear hc1 hg1
  go_wp2_with fail
  refine (l2One_s B q _ C1.out).mono ?_
  rintro e w2 ⟨g, ⟨rfl, lg, hc2, hg2⟩⟩
  have K2 : Hid (Blk w2 w.heap.size #[.float .f32 0, .float .f32 0, .float .f32 0] 26) := K1.out.grown hg2 (by omega)
  have C2 : Hid (Cur B w2 q) := hc2
  have G2 : Hid (w.grownBy w2 (some q)) := grownBy_trans G1.out hg2
  clear hc2 hg2
  go_wp2_with fail
  refine (l2One_s B q _ C2.out).mono ?_
  rintro e w3 ⟨b, ⟨rfl, lb, hc3, hg3⟩⟩
  have HB3 := K2.out.grown hg3 (by omega)
  have C3 : Hid (Cur B w3 q) := hc3
  have G3 : Hid (w.grownBy w3 (some q)) := grownBy_trans G2.out hg3
  clear hc3 hg3
  have l3 := HB3.lt
  have d0 := Blk.cellAt (i := 0) HB3 rfl
  have d1 := Blk.cellAt (i := 1) HB3 rfl
  have d2 := Blk.cellAt (i := 2) HB3 rfl
  have f0 := Blk.freeAt (i := 0) HB3
  have f1 := Blk.freeAt (i := 1) HB3
  have f2 := Blk.freeAt (i := 2) HB3
  simp at d0 d1 d2
  have K3 : Hid (Blk w3 w.heap.size #[.float .f32 0, .float .f32 0, .float .f32 0] 26) := HB3
  clear HB3
  have LR : Hid (r ≤ 1065353216) := lr
  have LG : Hid (g ≤ 1065353216) := lg
  have LB : Hid (b ≤ 1065353216) := lb
  clear lr lg lb
  go_wp2
  have e0 := (K3.out.set (i := 0) (v := .float .f32 r)).cell 0
  have e1 := ((K3.out.set (i := 0) (v := .float .f32 r)).set (i := 1) (v := .float .f32 g)).cell 1
  have e2 := (((K3.out.set (i := 0) (v := .float .f32 r)).set (i := 1) (v := .float .f32 g)).set (i := 2) (v := .float .f32 b)).cell 2
  simp only [List.setIfInBounds_toArray, List.set_cons_zero, List.set_cons_succ, List.getElem?_toArray, List.getElem?_cons_zero, List.getElem?_cons_succ] at e0 e1 e2
  have CF : Cur B (((w3.setCell ⟨w.heap.size, 0, Option.none⟩ (.float .f32 r)).setCell ⟨w.heap.size, 1, Option.none⟩ (.float .f32 g)).setCell ⟨w.heap.size, 2, Option.none⟩ (.float .f32 b)) q := by
    have h := C3.out
    have hB := h.ge
    obtain ⟨a, len, cap, bs, i, hh, h1, h2, h3, h4, h5⟩ := h
    exact ⟨a, len, cap, bs, i, hh, ((h1.other (by dsimp only; omega)).other (by dsimp only; omega)).other (by dsimp only; omega), h2, h3, h4.of (by
      have h6 : Below B w3 w3 := Below.refl _ _
      exact Below.setCell (Below.setCell (Below.setCell h6 (by dsimp only; omega) _) (by dsimp only; omega) _) (by dsimp only; omega) _), h5⟩
  have GF : w.grownBy (((w3.setCell ⟨w.heap.size, 0, Option.none⟩ (.float .f32 r)).setCell ⟨w.heap.size, 1, Option.none⟩ (.float .f32 g)).setCell ⟨w.heap.size, 2, Option.none⟩ (.float .f32 b)) (some q) :=
    grown_setNew (grown_setNew (grown_setNew G3.out (Nat.le_refl _) _) (Nat.le_refl _) _) (Nat.le_refl _) _
  exact bodyPost_ret (v := .agg #[.float .f32 r, .float .f32 g, .float .f32 b]) (by simp [results, Tryz.results36, go_sem, e0, e1, e2]) rfl ⟨r, g, b, rfl, LR.out, LG.out, LB.out, CF, GF⟩
end Go.Proofs.YtfdgijmmgllmgaaGreatDoor
namespace Go.Proofs.YtfdgijmmgllmgaaGreatDoor
open Go.ChangeShapes Go.WideShapes Go.ChangeAt Go.RowKit Go.Joins
set_option linter.unusedSimpArgs false
set_option linter.unusedVariables false
set_option maxRecDepth 100000
attribute [local go_sem] store_f
open Ieee Go.Lib
attribute [local go_sem] store_c
theorem grown_st' {w w1 w2 : World} {q : Nat} {r : Option Nat} (h : w.grownBy w1 (some q)) (k : w1.grownBy w2 r) (hr : ∀ x, r = some x → w.heap.size ≤ x) : w.grownBy w2 (some q) :=
  ⟨k.os.trans h.os, k.tape.trans h.tape, k.output.trans h.output, Nat.le_trans h.size k.size, fun i hi hne => (k.block i (Nat.lt_of_lt_of_le hi h.size) (fun e => by have := hr i e.symm; omega)).trans (h.block i hi hne)⟩
structure KindDrawn (B q : Nat) (w : World) (e : Ending) (w' : World) (k : Nat) : Prop where
  ret : e = .returned (.int .i64 k)
  lt : k < 4
  cur : Cur B w' q
  grown : w.grownBy w' (some q)
set_option maxHeartbeats 2000000 in
theorem l1Int_5 (B q g : Nat) (t : TypeId) (w : World) (hcur : Cur B w q) (hne : g ≠ q) (hrow : Blk w g #[.int .i64 0, .int .i64 1, .int .i64 2, .int .i64 3, .int .i64 3] t) :
    Calls Tryz.prog 37 #[.pointer (some ⟨q, 0, Option.none⟩), .slice (some ⟨g, 0, Option.none⟩) 5 5] w fun e w' => ∃ x, KindDrawn B q w e w' x := by
  have HC : Hid (Cur B w q) := hcur
  have HB : Hid (∀ k : Nat, k < 5 → ∃ x : Nat, x < 4 ∧ w.cell? ⟨g, k, Option.none⟩ = some (.int .i64 (x : Nat))) := fun k hk => by
    rcases (by omega : k = 0 ∨ k = 1 ∨ k = 2 ∨ k = 3 ∨ k = 4) with rfl | rfl | rfl | rfl | rfl
    · exact ⟨0, by omega, (hrow.cell _).trans rfl⟩
    · exact ⟨1, by omega, (hrow.cell _).trans rfl⟩
    · exact ⟨2, by omega, (hrow.cell _).trans rfl⟩
    · exact ⟨3, by omega, (hrow.cell _).trans rfl⟩
    · exact ⟨3, by omega, (hrow.cell _).trans rfl⟩
  have hlt : Hid (g < w.heap.size) := hrow.lt
  clear hcur hrow
  go_enter Tryz.func37, Tryz.ntmps37
  go_wp2_with fail
  refine (l1Below_s B q 5 _ HC.out (by omega) (by omega)).mono ?_
  rintro e w1 ⟨x, rfl, hx0, hx1, hc1, hg1⟩
  obtain ⟨n, rfl⟩ : ∃ n : Nat, x = n := ⟨x.toNat, by omega⟩
  have hn : n < 5 := by omega
  obtain ⟨y, hy4, hy⟩ := HB.out n hn
  have hy1 : w1.cell? ⟨g, n, Option.none⟩ = some (.int .i64 (y : Nat)) := (World.cell?_of_block (hg1.block g hlt.out (fun e => hne (Option.some.inj e)))).trans hy
  have HC1 : Hid (Cur B w1 q) := hc1
  have HG1 : Hid (w.grownBy w1 (some q)) := hg1
  clear hc1 hg1 hy hx0 hx1
  go_wp2
  go_ret
  exact ⟨y, rfl, hy4, HC1.out, HG1.out⟩
end Go.Proofs.YtfdgijmmgllmgaaGreatDoor
namespace Go.Proofs.YtfdgijmmgllmgaaGreatDoor
open Go.ChangeShapes Go.WideShapes Go.ChangeAt Go.RowKit Go.Joins
set_option linter.unusedSimpArgs false
set_option linter.unusedVariables false
set_option maxRecDepth 100000
attribute [local go_sem] store_f
open Ieee
theorem abs_add (x y : Int) : (x + y).natAbs ≤ x.natAbs + y.natAbs := by omega
theorem add_bd {x y R1 R2 R : Nat} (hx : rungOf F32 x ≤ R1) (hy : rungOf F32 y ≤ R2) (h1 : R1 < 2139095040) (h2 : R2 < 2139095040) (hR : R < 2139095040) (h : magOf F32 R1 + magOf F32 R2 ≤ magOf F32 R) :
    ∃ r, F32.add x y = some r ∧ rungOf F32 r ≤ R ∧ r < 4294967296 := by
  have fx : Fin32 x := by unfold Fin32; rw [F32_inf]; omega
  have fy : Fin32 y := by unfold Fin32; rw [F32_inf]; omega
  have m1 := magOf_le F32 hx
  have m2 := magOf_le F32 hy
  have e := add_fin F32 fx fy
  have hT : (valOf F32 x + valOf F32 y).natAbs ≤ magOf F32 R := by
    have := abs_add (valOf F32 x) (valOf F32 y)
    rw [abs_val, abs_val] at this
    omega
  obtain ⟨e1, e2⟩ := roundTo_eq (negOf F32 x && negOf F32 y) _ hR hT
  rw [e1] at e
  exact ⟨_, e, by rw [rungOf_word F32 _ (by rw [F32_sw]; omega)]; exact e2, word_lt _ (by omega)⟩
def quB (o : Int) (m : Nat) : Nat := match F32.div (floatOfInt .f32 ((m : Int) - o)) 1082130432 with | some r => r | none => 0
theorem qu_32 : ∀ m : Nat, m < 65 → F32.div (floatOfInt .f32 ((m : Int) - 32)) 1082130432 = some (quB 32 m) ∧ quB 32 m < 4294967296 ∧ quB 32 m % 2147483648 ≤ 1090519040 := by decide +kernel
theorem qu_24 : ∀ m : Nat, m < 49 → F32.div (floatOfInt .f32 ((m : Int) - 24)) 1082130432 = some (quB 24 m) ∧ quB 24 m < 4294967296 ∧ quB 24 m % 2147483648 ≤ 1090519040 := by decide +kernel
structure Qu (x : Nat) : Prop where
  lt : x < 4294967296
  le : rungOf F32 x ≤ 1090519040
theorem Qu.ok {x : Nat} (h : Qu x) : okB x = true := by
  have := h.le
  unfold rungOf at this
  rw [F32_sw] at this
  simp [okB, h.lt]; omega
theorem m_16 : magOf F32 1090519040 + magOf F32 1090519040 ≤ magOf F32 1166016512 := by decide +kernel
theorem qu_add {x y : Nat} (hx : Qu x) (hy : Qu y) : (valOf F32 x + valOf F32 y).natAbs ≤ magOf F32 1166016512 := by
  have m1 := magOf_le F32 hx.le
  have m2 := magOf_le F32 hy.le
  have := abs_add (valOf F32 x) (valOf F32 y)
  rw [abs_val, abs_val] at this
  have := m_16
  omega
structure SmallDrawn (B q : Nat) (w : World) (e : Ending) (w' : World) (n : Nat) (o : Int) (m : Nat) : Prop where
  ret : e = .returned (.int .i64 ((m : Int) - o))
  lt : m < n
  cur : Cur B w' q
  grown : w.grownBy w' (some q)
set_option maxHeartbeats 1000000 in
theorem some_32 (B q : Nat) (w : World) (hcur : Cur B w q) :
    Calls Tryz.prog 33 #[.pointer (some ⟨q, 0, Option.none⟩), .int .i64 (-32), .int .i64 32] w fun e w' => ∃ m, SmallDrawn B q w e w' 65 32 m := by
  have HC : Hid (Cur B w q) := hcur
  clear hcur
  go_enter Tryz.func33, Tryz.ntmps33
  go_wp2_with fail
  refine (l1Below_s B q 65 _ HC.out (by omega) (by omega)).mono ?_
  rintro e w1 ⟨x, rfl, hx0, hx1, hc1, hg1⟩
  obtain ⟨n, rfl⟩ : ∃ n : Nat, x = n := ⟨x.toNat, by omega⟩
  have HC1 : Hid (Cur B w1 q) := hc1
  have HG1 : Hid (w.grownBy w1 (some q)) := hg1
  have hn : n < 65 := by omega
  clear hc1 hg1
  go_wp2
  go_ret
  exact ⟨n, by first | rfl | (simp; omega), hn, HC1.out, HG1.out⟩
set_option maxHeartbeats 1000000 in
theorem some_24 (B q : Nat) (w : World) (hcur : Cur B w q) :
    Calls Tryz.prog 33 #[.pointer (some ⟨q, 0, Option.none⟩), .int .i64 (-24), .int .i64 24] w fun e w' => ∃ m, SmallDrawn B q w e w' 49 24 m := by
  have HC : Hid (Cur B w q) := hcur
  clear hcur
  go_enter Tryz.func33, Tryz.ntmps33
  go_wp2_with fail
  refine (l1Below_s B q 49 _ HC.out (by omega) (by omega)).mono ?_
  rintro e w1 ⟨x, rfl, hx0, hx1, hc1, hg1⟩
  obtain ⟨n, rfl⟩ : ∃ n : Nat, x = n := ⟨x.toNat, by omega⟩
  have HC1 : Hid (Cur B w1 q) := hc1
  have HG1 : Hid (w.grownBy w1 (some q)) := hg1
  have hn : n < 49 := by omega
  clear hc1 hg1
  go_wp2
  go_ret
  exact ⟨n, by first | rfl | (simp; omega), hn, HC1.out, HG1.out⟩
structure Plus (a1 a2 b1 b2 x y : Nat) : Prop where
  call : ∀ w : World, Calls Tryz.prog 71 #[.complex .f32 a1 a2, .complex .f32 b1 b2] w fun e w' => e = .returned (.complex .f32 x y) ∧ w' = w
structure Op2' (a b r : Nat) : Prop where
  call : ∀ w : World, Calls Tryz.prog 107 #[.float .f32 a, .float .f32 b] w fun e w' => e = .returned (.float .f32 r) ∧ w' = w
theorem plus1 {a b : Nat} (ha : Qu a) (hb : Qu b) : Op2' a b (clT (valOf F32 a + valOf F32 b)) := ⟨fun w => by
  have fa := ok_fin ha.ok
  have fb := ok_fin hb.ok
  obtain ⟨r, e, h, _⟩ := add_bd ha.le hb.le (by omega) (by omega) (by omega) m_16
  have hf : Fin32 r := by unfold Fin32; rw [F32_inf]; omega
  obtain ⟨r', e', h'⟩ := add_cl fa fb
  rw [e] at e'
  cases e'
  rw [← h', set_clean hf]
  exact l1Plus_s a b r w e (sub_self hf)⟩
theorem plus_of {a1 a2 b1 b2 x y : Nat} (X : Op2' a1 b1 x) (Y : Op2' a2 b2 y) : Plus a1 a2 b1 b2 x y := ⟨fun w => by
  go_enter Tryz.func71, Tryz.ntmps71
  go_wp2_with (go_at_call 107; (first | (with_reducible refine (X.call _).mono ?_) | (with_reducible refine (Y.call _).mono ?_)); rintro e w1 ⟨rfl, rfl⟩)
  go_ret
  exact ⟨rfl, rfl⟩⟩
end Go.Proofs.YtfdgijmmgllmgaaGreatDoor
namespace Go.Proofs.YtfdgijmmgllmgaaGreatDoor
open Go.ChangeShapes Go.WideShapes Go.ChangeAt Go.RowKit Go.Joins
set_option linter.unusedSimpArgs false
set_option linter.unusedVariables false
set_option maxRecDepth 100000
attribute [local go_sem] store_f
open Ieee
attribute [local go_sem] store_c
structure Shd.Drawn (s : Shd) : Prop where
  a1 : okB s.a1 = true
  a2 : okB s.a2 = true
  b1 : okB s.b1 = true
  b2 : okB s.b2 = true
  c1 : okB s.c1 = true
  c2 : okB s.c2 = true
  r : s.r ≤ 1065353216
  g : s.g ≤ 1065353216
  b : s.b ≤ 1065353216
  k : s.k ≤ 1065353216
theorem Shd.Drawn.ok {s : Shd} (h : s.Drawn) : s.Ok :=
  ⟨ok_rch h.a1, ok_rch h.a2, ok_rch h.b1, ok_rch h.b2, ok_rch h.c1, ok_rch h.c2, .inl h.r, .inl h.g, .inl h.b, .inl h.k⟩
theorem grown_set {w w1 : World} {r : Option Nat} (h : w.grownBy w1 r) {p : Addr} (hp : w.heap.size ≤ p.block) (v : Value) : w.grownBy (w1.setCell p v) r := grown_setNew h hp v
structure ShardDrawn (B q : Nat) (w : World) (e : Ending) (w' : World) (s : Shd) : Prop where
  ret : e = .returned (.agg #[.complex .f32 s.a1 s.a2, .complex .f32 s.b1 s.b2, .complex .f32 s.c1 s.c2, .float .f32 s.r, .float .f32 s.g, .float .f32 s.b, .float .f32 s.k])
  ok : s.Drawn
  cur : Cur B w' q
  grown : w.grownBy w' (some q)
set_option maxHeartbeats 16000000 in
theorem l3Draw_s (B q : Nat) (w : World) (hcur : Cur B w q) :
    Calls Tryz.prog 38 #[.pointer (some ⟨q, 0, Option.none⟩)] w fun e w' => ∃ s, ShardDrawn B q w e w' s := by
  have HC : Hid (Cur B w q) := hcur
  have hq := hcur.lt
  clear hcur
  go_enter Tryz.func38, Tryz.ntmps38
  go_wp2_with fail
  have R0 : Hid (Blk (w.alloc (.cells #[.complex .f32 0 0, .complex .f32 0 0, .complex .f32 0 0, .float .f32 0, .float .f32 0, .float .f32 0, .float .f32 0] 36)) w.heap.size #[.complex .f32 0 0, .complex .f32 0 0, .complex .f32 0 0, .float .f32 0, .float .f32 0, .float .f32 0, .float .f32 0] 36) := Blk.new _ _ _
  have C0 : Hid (Cur B (w.alloc (.cells #[.complex .f32 0 0, .complex .f32 0 0, .complex .f32 0 0, .float .f32 0, .float .f32 0, .float .f32 0, .float .f32 0] 36)) q) := HC.out.alloc
  have G0 : Hid (w.grownBy (w.alloc (.cells #[.complex .f32 0 0, .complex .f32 0 0, .complex .f32 0 0, .float .f32 0, .float .f32 0, .float .f32 0, .float .f32 0] 36)) (some q)) := grown_alloc (grownBy_refl _ _) _
  clear HC
  generalize w.alloc (.cells #[.complex .f32 0 0, .complex .f32 0 0, .complex .f32 0 0, .float .f32 0, .float .f32 0, .float .f32 0, .float .f32 0] 36) = W0 at R0 C0 G0 ⊢
  refine (some_32 B q _ C0.out).mono ?_
  rintro e w1 ⟨m, ⟨rfl, hm, hc1, hg1⟩⟩
  have C1 : Hid (Cur B w1 q) := hc1
  have G1 : Hid (W0.grownBy w1 (some q)) := hg1
  obtain ⟨ed, hd1, hd2⟩ := qu_32 m hm
  have QA : Hid (Qu (quB 32 m)) := ⟨hd1, by unfold rungOf; rw [F32_sw]; exact hd2⟩
  have op1 := fun t w => run_float_arith (P := Tryz.prog) w .quo t .f32 _ 1082130432 _ ed
  generalize quB 32 m = a1 at QA op1
  clear hc1 hg1 ed hd1 hd2
  go_wp2_with (simp only [op1])
  refine (some_32 B q _ C1.out).mono ?_
  rintro e w2 ⟨m2, ⟨rfl, hm2, hc2, hg2⟩⟩
  have C2 : Hid (Cur B w2 q) := hc2
  have G2 : Hid (W0.grownBy w2 (some q)) := grownBy_trans G1.out hg2
  obtain ⟨ed, hd1, hd2⟩ := qu_32 m2 hm2
  have QB : Hid (Qu (quB 32 m2)) := ⟨hd1, by unfold rungOf; rw [F32_sw]; exact hd2⟩
  have op2 := fun t w => run_float_arith (P := Tryz.prog) w .quo t .f32 _ 1082130432 _ ed
  generalize quB 32 m2 = a2 at QB op2
  clear hc2 hg2 ed hd1 hd2 op1
  go_wp2_with (simp only [op2])
  refine (some_24 B q _ C2.out).mono ?_
  rintro e w3 ⟨m3, ⟨rfl, hm3, hc3, hg3⟩⟩
  have C3 : Hid (Cur B w3 q) := hc3
  have G3 : Hid (W0.grownBy w3 (some q)) := grownBy_trans G2.out hg3
  obtain ⟨ed, hd1, hd2⟩ := qu_24 m3 hm3
  have QC : Hid (Qu (quB 24 m3)) := ⟨hd1, by unfold rungOf; rw [F32_sw]; exact hd2⟩
  have op3 := fun t w => run_float_arith (P := Tryz.prog) w .quo t .f32 _ 1082130432 _ ed
  generalize quB 24 m3 = d1 at QC op3
  clear hc3 hg3 ed hd1 hd2 op2
  go_wp2_with (simp only [op3])
  refine (some_24 B q _ C3.out).mono ?_
  rintro e w4 ⟨m4, ⟨rfl, hm4, hc4, hg4⟩⟩
  have C4 : Hid (Cur B w4 q) := hc4
  have G4 : Hid (W0.grownBy w4 (some q)) := grownBy_trans G3.out hg4
  obtain ⟨ed, hd1, hd2⟩ := qu_24 m4 hm4
  have QD : Hid (Qu (quB 24 m4)) := ⟨hd1, by unfold rungOf; rw [F32_sw]; exact hd2⟩
  have op4 := fun t w => run_float_arith (P := Tryz.prog) w .quo t .f32 _ 1082130432 _ ed
  generalize quB 24 m4 = d2 at QD op4
  clear hc4 hg4 ed hd1 hd2 op3
  have P1 := plus_of (plus1 QA.out QC.out) (plus1 QB.out QD.out)
  have OB1 : Hid (okB (clT (valOf F32 a1 + valOf F32 d1)) = true) := clT_ok (qu_add QA.out QC.out)
  have OB2 : Hid (okB (clT (valOf F32 a2 + valOf F32 d2)) = true) := clT_ok (qu_add QB.out QD.out)
  generalize clT (valOf F32 a1 + valOf F32 d1) = b1 at P1 OB1
  generalize clT (valOf F32 a2 + valOf F32 d2) = b2 at P1 OB2
  go_wp2_with (simp only [op4])
  refine (P1.call _).mono ?_
  rintro e w4' ⟨rfl, rfl⟩
  clear op4 P1
  go_wp2_with fail
  refine (some_24 B q _ C4.out).mono ?_
  rintro e w5 ⟨m5, ⟨rfl, hm5, hc5, hg5⟩⟩
  have C5 : Hid (Cur B w5 q) := hc5
  have G5 : Hid (W0.grownBy w5 (some q)) := grownBy_trans G4.out hg5
  obtain ⟨ed, hd1, hd2⟩ := qu_24 m5 hm5
  have QE : Hid (Qu (quB 24 m5)) := ⟨hd1, by unfold rungOf; rw [F32_sw]; exact hd2⟩
  have op5 := fun t w => run_float_arith (P := Tryz.prog) w .quo t .f32 _ 1082130432 _ ed
  generalize quB 24 m5 = e1 at QE op5
  clear hc5 hg5 ed hd1 hd2
  go_wp2_with (simp only [op5])
  refine (some_24 B q _ C5.out).mono ?_
  rintro e w6 ⟨m6, ⟨rfl, hm6, hc6, hg6⟩⟩
  have C6 : Hid (Cur B w6 q) := hc6
  have G6 : Hid (W0.grownBy w6 (some q)) := grownBy_trans G5.out hg6
  obtain ⟨ed, hd1, hd2⟩ := qu_24 m6 hm6
  have QF : Hid (Qu (quB 24 m6)) := ⟨hd1, by unfold rungOf; rw [F32_sw]; exact hd2⟩
  have op6 := fun t w => run_float_arith (P := Tryz.prog) w .quo t .f32 _ 1082130432 _ ed
  generalize quB 24 m6 = e2 at QF op6
  clear hc6 hg6 ed hd1 hd2 op5
  have P2 := plus_of (plus1 QA.out QE.out) (plus1 QB.out QF.out)
  have OC1 : Hid (okB (clT (valOf F32 a1 + valOf F32 e1)) = true) := clT_ok (qu_add QA.out QE.out)
  have OC2 : Hid (okB (clT (valOf F32 a2 + valOf F32 e2)) = true) := clT_ok (qu_add QB.out QF.out)
  generalize clT (valOf F32 a1 + valOf F32 e1) = c1 at P2 OC1
  generalize clT (valOf F32 a2 + valOf F32 e2) = c2 at P2 OC2
  go_wp2_with (simp only [op6])
  refine (P2.call _).mono ?_
  rintro e w6' ⟨rfl, rfl⟩
  clear op6 P2
  go_wp2_with fail
  refine (l2Draw_s B q _ C6.out).mono ?_
  rintro e w7 ⟨r, g, b, ⟨rfl, lr, lg, lb, hc7, hg7⟩⟩
  have C7 : Hid (Cur B w7 q) := hc7
  have G7 : Hid (W0.grownBy w7 (some q)) := grownBy_trans G6.out hg7
  have LR : Hid (r ≤ 1065353216) := lr
  have LG : Hid (g ≤ 1065353216) := lg
  have LB : Hid (b ≤ 1065353216) := lb
  clear hc7 hg7 lr lg lb
  go_wp2_with fail
  refine (l2One_s B q _ C7.out).mono ?_
  rintro e w8 ⟨k, ⟨rfl, lk, hc8, hg8⟩⟩
  have C8 : Hid (Cur B w8 q) := hc8
  have G8 : Hid (W0.grownBy w8 (some q)) := grownBy_trans G7.out hg8
  have LK : Hid (k ≤ 1065353216) := lk
  have s8 := hg8.size
  clear hc8 hg8 lk
  obtain ⟨s, hs⟩ : ∃ s : Shd, s = ⟨a1, a2, b1, b2, c1, c2, r, g, b, k⟩ := ⟨_, rfl⟩
  have D : Hid s.Drawn := by rw [hs]; exact ⟨QA.out.ok, QB.out.ok, OB1.out, OB2.out, OC1.out, OC2.out, LR.out, LG.out, LB.out, LK.out⟩
  have z1 : a1 = s.a1 := by rw [hs]
  have z2 : a2 = s.a2 := by rw [hs]
  have z3 : b1 = s.b1 := by rw [hs]
  have z4 : b2 = s.b2 := by rw [hs]
  have z5 : c1 = s.c1 := by rw [hs]
  have z6 : c2 = s.c2 := by rw [hs]
  have z7 : r = s.r := by rw [hs]
  have z8 : g = s.g := by rw [hs]
  have z9 : b = s.b := by rw [hs]
  have z0 : k = s.k := by rw [hs]
  rw [z1, z2, z3, z4, z5, z6, z7, z8, z9, z0]
  clear z1 z2 z3 z4 z5 z6 z7 z8 z9 z0 hs QA QB QC QD QE QF OB1 OB2 OC1 OC2 LR LG LB LK
  have hw0 : w.heap.size < W0.heap.size := R0.out.lt
  go_wp2_with fail
  have C9 : Hid (Cur B (w8.alloc (.cells #[.complex .f32 s.a1 s.a2, .complex .f32 s.b1 s.b2, .complex .f32 s.c1 s.c2, .float .f32 s.r, .float .f32 s.g, .float .f32 s.b, .float .f32 s.k] 36)) q) := C8.out.alloc
  have R9 : Hid (Blk (w8.alloc (.cells #[.complex .f32 s.a1 s.a2, .complex .f32 s.b1 s.b2, .complex .f32 s.c1 s.c2, .float .f32 s.r, .float .f32 s.g, .float .f32 s.b, .float .f32 s.k] 36)) w.heap.size #[.complex .f32 0 0, .complex .f32 0 0, .complex .f32 0 0, .float .f32 0, .float .f32 0, .float .f32 0, .float .f32 0] 36) := (R0.out.grown G8.out (by omega)).alloc
  have S9 : Hid (Blk (w8.alloc (.cells #[.complex .f32 s.a1 s.a2, .complex .f32 s.b1 s.b2, .complex .f32 s.c1 s.c2, .float .f32 s.r, .float .f32 s.g, .float .f32 s.b, .float .f32 s.k] 36)) w8.heap.size #[.complex .f32 s.a1 s.a2, .complex .f32 s.b1 s.b2, .complex .f32 s.c1 s.c2, .float .f32 s.r, .float .f32 s.g, .float .f32 s.b, .float .f32 s.k] 36) := Blk.new _ _ _
  have G9 : Hid (w.grownBy (w8.alloc (.cells #[.complex .f32 s.a1 s.a2, .complex .f32 s.b1 s.b2, .complex .f32 s.c1 s.c2, .float .f32 s.r, .float .f32 s.g, .float .f32 s.b, .float .f32 s.k] 36)) (some q)) := grownBy_trans G0.out (grown_alloc G8.out _)
  have hsz8 := G8.out.size
  have hq9 := C8.out.lt
  clear C8 G8 R0 G0 s8
  generalize w8.alloc (.cells #[.complex .f32 s.a1 s.a2, .complex .f32 s.b1 s.b2, .complex .f32 s.c1 s.c2, .float .f32 s.r, .float .f32 s.g, .float .f32 s.b, .float .f32 s.k] 36) = W9 at C9 R9 S9 G9 ⊢
  refine (l1Once_s B q 5 _ C9.out (by omega) (by omega)).mono ?_
  rintro e w10 ⟨u, ⟨rfl, hc10, hg10⟩⟩
  have C10 : Hid (Cur B w10 q) := hc10
  have R10 : Hid (Blk w10 w.heap.size #[.complex .f32 0 0, .complex .f32 0 0, .complex .f32 0 0, .float .f32 0, .float .f32 0, .float .f32 0, .float .f32 0] 36) := R9.out.grown hg10 (by omega)
  have S10 : Hid (Blk w10 w8.heap.size #[.complex .f32 s.a1 s.a2, .complex .f32 s.b1 s.b2, .complex .f32 s.c1 s.c2, .float .f32 s.r, .float .f32 s.g, .float .f32 s.b, .float .f32 s.k] 36) := S9.out.grown hg10 (by omega)
  have G10 : Hid (w.grownBy w10 (some q)) := grownBy_trans G9.out hg10
  clear hc10 hg10 R9 S9 G9 C9
  have o0 := Blk.cellAt (i := 0) R10.out rfl
  have o1 := Blk.cellAt (i := 1) R10.out rfl
  have o2 := Blk.cellAt (i := 2) R10.out rfl
  have o3 := Blk.cellAt (i := 3) R10.out rfl
  have o4 := Blk.cellAt (i := 4) R10.out rfl
  have o5 := Blk.cellAt (i := 5) R10.out rfl
  have o6 := Blk.cellAt (i := 6) R10.out rfl
  simp only [List.getElem_toArray, List.getElem_cons_zero, List.getElem_cons_succ] at o0 o1 o2 o3 o4 o5 o6
  have p0 := R10.out.free 0
  have p1 := R10.out.free 1
  have p2 := R10.out.free 2
  have p3 := R10.out.free 3
  have p4 := R10.out.free 4
  have p5 := R10.out.free 5
  have p6 := R10.out.free 6
  have ls := S10.out.lt
  cases u
  · (obtain ⟨d0, d1, d2, d3, d4, d5, d6⟩ := blk7 (S10.out))
    go_wp2_with fail
    (have E0 := R10.out.set (i := 0) (v := .complex .f32 s.a1 s.a2); have E1 := E0.set (i := 1) (v := .complex .f32 s.b1 s.b2); have E2 := E1.set (i := 2) (v := .complex .f32 s.c1 s.c2); have E3 := E2.set (i := 3) (v := .float .f32 s.r); have E4 := E3.set (i := 4) (v := .float .f32 s.g); have E5 := E4.set (i := 5) (v := .float .f32 s.b); have E6 := E5.set (i := 6) (v := .float .f32 s.k); have e0 := E0.cell 0; have e1 := E1.cell 1; have e2 := E2.cell 2; have e3 := E3.cell 3; have e4 := E4.cell 4; have e5 := E5.cell 5; have e6 := E6.cell 6; simp only [List.setIfInBounds_toArray, List.set_cons_zero, List.set_cons_succ, List.getElem?_toArray, List.getElem?_cons_zero, List.getElem?_cons_succ] at e0 e1 e2 e3 e4 e5 e6)
    exact bodyPost_ret (v := .agg #[.complex .f32 s.a1 s.a2, .complex .f32 s.b1 s.b2, .complex .f32 s.c1 s.c2, .float .f32 s.r, .float .f32 s.g, .float .f32 s.b, .float .f32 s.k]) (by simp [results, Tryz.results38, go_sem, e0, e1, e2, e3, e4, e5, e6]) rfl ⟨s, rfl, D.out, by (repeat (first | (with_reducible exact C10.out) | (with_reducible refine Cur.set ?_ (by dsimp only; omega)))), by (repeat (first | (with_reducible exact G10.out) | (with_reducible refine grown_set ?_ (by dsimp only; omega) _)))⟩
  · clear o0 o1 o2 o3 o4 o5 o6 p0 p1 p2 p3 p4 p5 p6
    go_wp2_with fail
    refine (l1Point_s B q _ C10.out).mono ?_
    rintro e w11 ⟨x, y, ⟨rfl, hx, hy, hc11, hg11⟩⟩
    have C11 : Hid (Cur B w11 q) := hc11
    have R11 : Hid (Blk w11 w.heap.size #[.complex .f32 0 0, .complex .f32 0 0, .complex .f32 0 0, .float .f32 0, .float .f32 0, .float .f32 0, .float .f32 0] 36) := R10.out.grown hg11 (by omega)
    have S11 : Hid (Blk w11 w8.heap.size #[.complex .f32 s.a1 s.a2, .complex .f32 s.b1 s.b2, .complex .f32 s.c1 s.c2, .float .f32 s.r, .float .f32 s.g, .float .f32 s.b, .float .f32 s.k] 36) := S10.out.grown hg11 (by omega)
    have G11 : Hid (w.grownBy w11 (some q)) := grownBy_trans G10.out hg11
    have OX : Hid (okB x = true) := hx
    have OY : Hid (okB y = true) := hy
    clear hc11 hg11 hx hy R10 S10 G10 C10
    obtain ⟨t, ht⟩ : ∃ t : Shd, t = ⟨s.a1, s.a2, s.b1, s.b2, x, y, s.r, s.g, s.b, s.k⟩ := ⟨_, rfl⟩
    have DT : Hid t.Drawn := by rw [ht]; exact ⟨D.out.a1, D.out.a2, D.out.b1, D.out.b2, OX.out, OY.out, D.out.r, D.out.g, D.out.b, D.out.k⟩
    have z1 : s.a1 = t.a1 := by rw [ht]
    have z2 : s.a2 = t.a2 := by rw [ht]
    have z3 : s.b1 = t.b1 := by rw [ht]
    have z4 : s.b2 = t.b2 := by rw [ht]
    have z5 : x = t.c1 := by rw [ht]
    have z6 : y = t.c2 := by rw [ht]
    have z7 : s.r = t.r := by rw [ht]
    have z8 : s.g = t.g := by rw [ht]
    have z9 : s.b = t.b := by rw [ht]
    have z0 : s.k = t.k := by rw [ht]
    have R12 : Hid (Blk (w11.setCell ⟨w8.heap.size, 2, Option.none⟩ (.complex .f32 x y)) w.heap.size #[.complex .f32 0 0, .complex .f32 0 0, .complex .f32 0 0, .float .f32 0, .float .f32 0, .float .f32 0, .float .f32 0] 36) := R11.out.other (by dsimp only; omega)
    have S12 : Blk (w11.setCell ⟨w8.heap.size, 2, Option.none⟩ (.complex .f32 x y)) w8.heap.size #[.complex .f32 t.a1 t.a2, .complex .f32 t.b1 t.b2, .complex .f32 t.c1 t.c2, .float .f32 t.r, .float .f32 t.g, .float .f32 t.b, .float .f32 t.k] 36 := by
      rw [← z1, ← z2, ← z3, ← z4, ← z5, ← z6, ← z7, ← z8, ← z9, ← z0]
      exact Blk.setAt rfl S11.out rfl
    have hc2 : (w11.cell? ⟨w8.heap.size, 2, Option.none⟩) = some (.complex .f32 s.c1 s.c2) := S11.out.cell 2
    have hf2 := S11.out.free 2
    have C12 : Hid (Cur B (w11.setCell ⟨w8.heap.size, 2, Option.none⟩ (.complex .f32 x y)) q) := C11.out.set (by dsimp only; omega)
    have G12 : Hid (w.grownBy (w11.setCell ⟨w8.heap.size, 2, Option.none⟩ (.complex .f32 x y)) (some q)) := grown_set G11.out (by dsimp only; omega) _
    clear ht z1 z2 z3 z4 z7 z8 z9 z0 S11 R11 C11 G11 OX OY D
    have S12H : Hid (Blk (w11.setCell ⟨w8.heap.size, 2, Option.none⟩ (.complex .f32 x y)) w8.heap.size #[.complex .f32 t.a1 t.a2, .complex .f32 t.b1 t.b2, .complex .f32 t.c1 t.c2, .float .f32 t.r, .float .f32 t.g, .float .f32 t.b, .float .f32 t.k] 36) := S12
    have ls12 := S12.lt
    have hne : w.heap.size < w8.heap.size := by omega
    clear S12
    subst z5 z6
    go_upto_region 5 with fail
    generalize w11.setCell ⟨w8.heap.size, 2, Option.none⟩ (.complex .f32 t.c1 t.c2) = Y at R12 S12H C12 G12 ls12 ⊢
    clear hc2 hf2
    have o0 := Blk.cellAt (i := 0) R12.out rfl
    have o1 := Blk.cellAt (i := 1) R12.out rfl
    have o2 := Blk.cellAt (i := 2) R12.out rfl
    have o3 := Blk.cellAt (i := 3) R12.out rfl
    have o4 := Blk.cellAt (i := 4) R12.out rfl
    have o5 := Blk.cellAt (i := 5) R12.out rfl
    have o6 := Blk.cellAt (i := 6) R12.out rfl
    simp only [List.getElem_toArray, List.getElem_cons_zero, List.getElem_cons_succ] at o0 o1 o2 o3 o4 o5 o6
    have p0 := R12.out.free 0
    have p1 := R12.out.free 1
    have p2 := R12.out.free 2
    have p3 := R12.out.free 3
    have p4 := R12.out.free 4
    have p5 := R12.out.free 5
    have p6 := R12.out.free 6
    (obtain ⟨d0, d1, d2, d3, d4, d5, d6⟩ := blk7 (S12H.out))
    go_wp2_with fail
    (have E0 := R12.out.set (i := 0) (v := .complex .f32 t.a1 t.a2); have E1 := E0.set (i := 1) (v := .complex .f32 t.b1 t.b2); have E2 := E1.set (i := 2) (v := .complex .f32 t.c1 t.c2); have E3 := E2.set (i := 3) (v := .float .f32 t.r); have E4 := E3.set (i := 4) (v := .float .f32 t.g); have E5 := E4.set (i := 5) (v := .float .f32 t.b); have E6 := E5.set (i := 6) (v := .float .f32 t.k); have e0 := E0.cell 0; have e1 := E1.cell 1; have e2 := E2.cell 2; have e3 := E3.cell 3; have e4 := E4.cell 4; have e5 := E5.cell 5; have e6 := E6.cell 6; simp only [List.setIfInBounds_toArray, List.set_cons_zero, List.set_cons_succ, List.getElem?_toArray, List.getElem?_cons_zero, List.getElem?_cons_succ] at e0 e1 e2 e3 e4 e5 e6)
    exact bodyPost_ret (v := .agg #[.complex .f32 t.a1 t.a2, .complex .f32 t.b1 t.b2, .complex .f32 t.c1 t.c2, .float .f32 t.r, .float .f32 t.g, .float .f32 t.b, .float .f32 t.k]) (by simp [results, Tryz.results38, go_sem, e0, e1, e2, e3, e4, e5, e6]) rfl ⟨t, rfl, DT.out, by (repeat (first | (with_reducible exact C12.out) | (with_reducible refine Cur.set ?_ (by dsimp only; omega)))), by (repeat (first | (with_reducible exact G12.out) | (with_reducible refine grown_set ?_ (by dsimp only; omega) _)))⟩
end Go.Proofs.YtfdgijmmgllmgaaGreatDoor
namespace Go.Proofs.YtfdgijmmgllmgaaGreatDoor
open Go.ChangeShapes Go.WideShapes Go.ChangeAt Go.RowKit Go.Joins
set_option linter.unusedSimpArgs false
set_option linter.unusedVariables false
set_option maxRecDepth 100000
attribute [local go_sem] store_f
structure Lit where
  r : Nat
  g : Nat
  b : Nat
instance : Inhabited Lit := ⟨⟨0, 0, 0⟩⟩
structure Lit.Ok (c : Lit) : Prop where
  r : c.r ≤ 1065353216
  g : c.g ≤ 1065353216
  b : c.b ≤ 1065353216
def Lit.cells (c : Lit) : List Value := [.float .f32 c.r, .float .f32 c.g, .float .f32 c.b]
def litCells (l : List Lit) : List Value := l.flatMap Lit.cells
theorem litCells_snoc (l : List Lit) (s : Lit) : litCells (l ++ [s]) = litCells l ++ s.cells := by simp [litCells]
def LitRow (W : World) (b off : Nat) (l : List Lit) : Prop :=
  ∀ k, k < l.length → W.cell? ⟨b, (off + k * 3), Option.none⟩ = some (.float .f32 (l.getD k default).r) ∧ W.cell? ⟨b, (off + k * 3) + 1, Option.none⟩ = some (.float .f32 (l.getD k default).g) ∧ W.cell? ⟨b, (off + k * 3) + 2, Option.none⟩ = some (.float .f32 (l.getD k default).b)
def LitsAt (W : World) (a : Option Addr) (l : List Lit) : Prop :=
  l = [] ∨ ∃ b off, a = some ⟨b, off, Option.none⟩ ∧ LitRow W b off l
theorem LitRow.below {W w1 : World} {b off : Nat} {l : List Lit} (h : LitRow W b off l) (hb : Below W.heap.size W w1) : LitRow w1 b off l := fun k hk => by
  obtain ⟨h0, h1, h2⟩ := h k hk
  exact ⟨cBelow hb h0, cBelow hb h1, cBelow hb h2⟩
theorem LitRow.grown {W w1 : World} {b off : Nat} {l : List Lit} {r : Option Nat} (h : LitRow W b off l) (hg : W.grownBy w1 r) (hne : r ≠ some b) : LitRow w1 b off l := fun k hk => by
  obtain ⟨h0, h1, h2⟩ := h k hk
  have hl := cell_lt h0
  have e : ∀ i, w1.cell? ⟨b, i, Option.none⟩ = W.cell? ⟨b, i, Option.none⟩ := fun i => World.cell?_of_block (hg.block b hl (fun e => hne e.symm))
  rw [e, e, e]
  exact ⟨h0, h1, h2⟩
theorem LitRow.set {W : World} {b off : Nat} {a : Addr} {v : Value} {l : List Lit} (h : LitRow W b off l) (hne : b ≠ a.block) : LitRow (W.setCell a v) b off l := fun k hk => by
  obtain ⟨h0, h1, h2⟩ := h k hk
  exact ⟨cSet hne h0, cSet hne h1, cSet hne h2⟩
theorem LitRow.alloc {W : World} {b off : Nat} {o : Obj} {l : List Lit} (h : LitRow W b off l) : LitRow (W.alloc o) b off l := fun k hk => by
  obtain ⟨h0, h1, h2⟩ := h k hk
  exact ⟨cAlloc h0, cAlloc h1, cAlloc h2⟩
theorem LitRow.drew {W : World} {b off : Nat} {l : List Lit} (h : LitRow W b off l) : LitRow W.drew b off l := h
theorem LitsAt.below {W w1 : World} {a : Option Addr} {l : List Lit} (h : LitsAt W a l) (hb : Below W.heap.size W w1) : LitsAt w1 a l := by
  rcases h with h | ⟨b, off, e, h⟩
  · exact .inl h
  · exact .inr ⟨b, off, e, h.below hb⟩
theorem LitsAt.alloc {W : World} {a : Option Addr} {o : Obj} {l : List Lit} (h : LitsAt W a l) : LitsAt (W.alloc o) a l := by
  rcases h with h | ⟨b, off, e, h⟩
  · exact .inl h
  · exact .inr ⟨b, off, e, h.alloc⟩
theorem LitsAt.drew {W : World} {a : Option Addr} {l : List Lit} (h : LitsAt W a l) : LitsAt W.drew a l := h
theorem litCells_get : ∀ (l : List Lit) (k : Nat), k < l.length → ∀ j, j < 3 → (litCells l)[k * 3 + j]? = (l.getD k default).cells[j]?
  | p :: l, 0, _, j, hj => by
    have e : litCells (p :: l) = p.cells ++ litCells l := rfl
    rw [e, Nat.zero_mul, Nat.zero_add, List.getElem?_append_left (by simp [Lit.cells]; omega)]
    rfl
  | p :: l, k + 1, h, j, hj => by
    have ih := litCells_get l k (by simpa using h) j hj
    have e : litCells (p :: l) = p.cells ++ litCells l := rfl
    have hl : p.cells.length = 3 := rfl
    rw [e, List.getElem?_append_right (by omega), hl, show (k + 1) * 3 + j - 3 = k * 3 + j by omega, ih]
    rfl
theorem litRow_of {W : World} {base g n cap : Nat} {l : List Lit} (h : W.ownsRow base 26 3 (.slice (some ⟨g, 0, Option.none⟩) n cap) n (litCells l)) (hn : l.length = n) : LitRow W g 0 l := fun k hk => by
  have hg := litCells_get l k hk
  simp only [Nat.zero_add]
  rw [h.cellAt _ (by omega), h.cellAt _ (by omega), h.cellAt _ (by omega)]
  exact ⟨hg 0 (by omega), hg 1 (by omega), hg 2 (by omega)⟩
theorem infoC : (Tryz.prog.info? 26).map (fun i => (i.zero, i.size, i.bytes)) = some (some (.agg #[.float .f32 0, .float .f32 0, .float .f32 0]), 3, 12) := by kernel_rfl
end Go.Proofs.YtfdgijmmgllmgaaGreatDoor
namespace Go.Proofs.YtfdgijmmgllmgaaGreatDoor
open Go.ChangeShapes Go.WideShapes Go.ChangeAt Go.RowKit Go.Joins
set_option linter.unusedSimpArgs false
set_option linter.unusedVariables false
set_option maxRecDepth 100000
attribute [local go_sem] store_f
open Ieee
def iw (z : Int) : Nat := floatOfInt .f32 z
theorem iw_all : ∀ m : Nat, m < 15 → okB (iw ((m : Int) - 7)) = true ∧ cleanB (iw ((m : Int) - 7)) = iw ((m : Int) - 7) ∧ ngB (iw ((m : Int) - 7)) = iw (7 - (m : Int)) ∧ floatToIntVal .f32 (iw ((m : Int) - 7)) .i64 = some ((m : Int) - 7) := by decide +kernel
theorem iw_of {z : Int} (h1 : -7 ≤ z) (h2 : z ≤ 7) : okB (iw z) = true ∧ cleanB (iw z) = iw z ∧ ngB (iw z) = iw (-z) ∧ floatToIntVal .f32 (iw z) .i64 = some z := by
  have h := iw_all (z + 7).toNat (by omega)
  have e : (((z + 7).toNat : Nat) : Int) - 7 = z := by omega
  have e2 : 7 - (((z + 7).toNat : Nat) : Int) = -z := by omega
  rw [e, e2] at h
  exact h
def actN : Nat → Bool → Int → Int → Int × Int
  | 0, false, x, y => (x, y)
  | 0, true, x, y => (x, -y)
  | 1, false, x, y => (-y, x)
  | 1, true, x, y => (y, x)
  | 2, false, x, y => (-x, -y)
  | 2, true, x, y => (-x, y)
  | _, false, x, y => (y, -x)
  | _, true, x, y => (-y, -x)
def plX (n k : Nat) : Int := 2 * (k % n : Nat) + 1 - n
def plY (n k : Nat) : Int := n - 1 - 2 * (k / n : Nat)
def cellOf (n : Nat) (x y : Int) : Nat := (((n : Int) - 1 - y) / 2).toNat * n + ((x + n - 1) / 2).toNat
def cellN (n t : Nat) (f : Bool) (k : Nat) : Nat := cellOf n (actN t f (plX n k) (plY n k)).1 (actN t f (plX n k) (plY n k)).2
theorem pl_bd {n k : Nat} (h1 : 1 ≤ n) (hk : k < n * n) : (-((n : Int) - 1) ≤ plX n k ∧ plX n k ≤ (n : Int) - 1) ∧ (-((n : Int) - 1) ≤ plY n k ∧ plY n k ≤ (n : Int) - 1) := by
  have a := Nat.mod_lt k (show 0 < n by omega)
  have b : k / n < n := (Nat.div_lt_iff_lt_mul (by omega)).2 hk
  unfold plX plY
  generalize k % n = u at *
  generalize k / n = v at *
  omega
def cellFacts (n t : Nat) (f : Bool) (k : Nat) : Bool :=
  let c := cellN n t f k
  decide (c < n * n) && decide (plX n c = (actN t f (plX n k) (plY n k)).1) && decide (plY n c = (actN t f (plX n k) (plY n k)).2) && decide (cellN n 0 false k = k)
def cellsAll : Bool := (List.range 9).all fun n => (List.range (n * n)).all fun k => (List.range 4).all fun t => cellFacts n t false k && cellFacts n t true k
theorem cells_all : cellsAll = true := by decide +kernel
theorem cell_facts {n k t : Nat} {f : Bool} (h8 : n ≤ 8) (hk : k < n * n) (ht : t < 4) : cellFacts n t f k = true := by
  have h := cells_all
  unfold cellsAll at h
  have h2 := List.all_eq_true.1 h n (List.mem_range.2 (by omega))
  have h3 := List.all_eq_true.1 h2 k (List.mem_range.2 hk)
  have h4 := List.all_eq_true.1 h3 t (List.mem_range.2 ht)
  rw [Bool.and_eq_true] at h4
  cases f
  · exact h4.1
  · exact h4.2
theorem cell_lt' {n k t : Nat} {f : Bool} (h8 : n ≤ 8) (hk : k < n * n) (ht : t < 4) : cellN n t f k < n * n := by
  have h := cell_facts (f := f) h8 hk ht
  simp only [cellFacts, Bool.and_eq_true, decide_eq_true_eq] at h
  exact h.1.1.1
theorem cell_place {n k t : Nat} {f : Bool} (h8 : n ≤ 8) (hk : k < n * n) (ht : t < 4) : plX n (cellN n t f k) = (actN t f (plX n k) (plY n k)).1 ∧ plY n (cellN n t f k) = (actN t f (plX n k) (plY n k)).2 := by
  have h := cell_facts (f := f) h8 hk ht
  simp only [cellFacts, Bool.and_eq_true, decide_eq_true_eq] at h
  exact ⟨h.1.1.2, h.1.2⟩
theorem cell_none {n k : Nat} (h8 : n ≤ 8) (hk : k < n * n) : cellN n 0 false k = k := by
  have h := cell_facts (f := false) h8 hk (show 0 < 4 by omega)
  simp only [cellFacts, Bool.and_eq_true, decide_eq_true_eq] at h
  exact h.2
theorem act_place {n k t : Nat} (f : Bool) (h1 : 1 ≤ n) (h8 : n ≤ 8) (hk : k < n * n) (ht : t < 4) :
    ActM t f (iw (plX n k)) (iw (plY n k)) (iw (plX n (cellN n t f k))) (iw (plY n (cellN n t f k))) := by
  obtain ⟨bx, b_y⟩ := pl_bd h1 hk
  obtain ⟨e1, e2⟩ := cell_place (f := f) h8 hk ht
  obtain ⟨o1, c1, n1, _⟩ := iw_of (z := plX n k) (by omega) (by omega)
  obtain ⟨o2, c2, n2, _⟩ := iw_of (z := plY n k) (by omega) (by omega)
  have A := act_of f ht o1 o2
  rw [c1, c2, n1, n2] at A
  have e : actV t f (iw (plX n k)) (iw (-plX n k)) (iw (plY n k)) (iw (-plY n k)) = (iw (actN t f (plX n k) (plY n k)).1, iw (actN t f (plX n k) (plY n k)).2) := by
    rcases (by omega : t = 0 ∨ t = 1 ∨ t = 2 ∨ t = 3) with rfl | rfl | rfl | rfl <;> cases f <;> rfl
  rw [e] at A
  rw [e1, e2]
  exact A
end Go.Proofs.YtfdgijmmgllmgaaGreatDoor
