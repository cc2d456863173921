/-
  Texts Up, joined.
-/
import Derived.Test.YtfdgijmmgllmgaaGreatDoorS02
import Derived.Test.YtfdgijmmgllmgaaGreatDoorS01
namespace Go.Proofs.YtfdgijmmgllmgaaGreatDoor
open Go.ChangeShapes Go.WideShapes Go.ChangeAt Go.RowKit Go.Joins
set_option linter.unusedSimpArgs false
set_option linter.unusedVariables false
set_option maxRecDepth 100000
attribute [local go_sem] store_f
open Ieee
theorem store_c (P : Program) (w : World) (a : Addr) (m : Mode) (k : FloatKind) (b c : Nat) : (store a (.complex k b c) m).run P w = stored P w a (.complex k b c) m := run_store P w a _ m rfl
attribute [local go_sem] store_c
theorem placeOf_i (t : Int) (f : Bool) (w : World) (h0 : 0 ≤ t) (h4 : t < 4) :
    Calls Tryz.prog 125 #[.agg #[.int .i64 t, .bool f]] w fun e w' => e = .returned (.int .i64 (if f then 4 + t else t)) ∧ Below w.heap.size w w' := by
  cases f
  all_goals
    go_enter Tryz.func125, Tryz.ntmps125
    go_wp2
    go_returns; exact ⟨by first | rfl | (simp; omega), by (repeat' (first | (with_reducible exact Below.refl _ _) | (with_reducible assumption) | (with_reducible refine Below.alloc ?_ ?_ _) | (with_reducible refine Below.drew ?_) | (with_reducible refine Below.setCell ?_ ?_ _) | (with_reducible refine Below.trans ?_ (Below.mono (by assumption) ?_)) | (with_reducible exact Nat.le_refl _) | omega | (simp only [World.size_alloc, World.size_setCell, World.size_drew]; omega) | (simp; omega) | (simp; done)))⟩
theorem cmul_i0 (t : TypeId) (w : World) : (binOp .mul t (.complex .f32 1065353216 0) (.complex .f32 0 1065353216)).run Tryz.prog w = .ok (.complex .f32 0 1065353216) w := by kernel_rfl
theorem cmul_m0 (t : TypeId) (w : World) : (binOp .mul t (.complex .f32 1065353216 0) (.complex .f32 0 3212836864)).run Tryz.prog w = .ok (.complex .f32 0 3212836864) w := by kernel_rfl
theorem cmul_i1 (t : TypeId) (w : World) : (binOp .mul t (.complex .f32 0 1065353216) (.complex .f32 0 1065353216)).run Tryz.prog w = .ok (.complex .f32 3212836864 0) w := by kernel_rfl
theorem cmul_m1 (t : TypeId) (w : World) : (binOp .mul t (.complex .f32 0 1065353216) (.complex .f32 0 3212836864)).run Tryz.prog w = .ok (.complex .f32 1065353216 0) w := by kernel_rfl
theorem cmul_i2 (t : TypeId) (w : World) : (binOp .mul t (.complex .f32 3212836864 0) (.complex .f32 0 1065353216)).run Tryz.prog w = .ok (.complex .f32 2147483648 3212836864) w := by kernel_rfl
theorem cmul_m2 (t : TypeId) (w : World) : (binOp .mul t (.complex .f32 3212836864 0) (.complex .f32 0 3212836864)).run Tryz.prog w = .ok (.complex .f32 0 1065353216) w := by kernel_rfl
theorem cmul_i3 (t : TypeId) (w : World) : (binOp .mul t (.complex .f32 2147483648 3212836864) (.complex .f32 0 1065353216)).run Tryz.prog w = .ok (.complex .f32 1065353216 2147483648) w := by kernel_rfl
theorem cmul_m3 (t : TypeId) (w : World) : (binOp .mul t (.complex .f32 2147483648 3212836864) (.complex .f32 0 3212836864)).run Tryz.prog w = .ok (.complex .f32 3212836864 0) w := by kernel_rfl
def pairsV : Nat → Array Value
  | 0 => #[.complex .f32 0 0, .complex .f32 0 0, .complex .f32 0 0, .complex .f32 0 0, .complex .f32 0 0, .complex .f32 0 0, .complex .f32 0 0, .complex .f32 0 0, .complex .f32 0 0, .complex .f32 0 0, .complex .f32 0 0, .complex .f32 0 0, .complex .f32 0 0, .complex .f32 0 0, .complex .f32 0 0, .complex .f32 0 0]
  | 1 => #[.complex .f32 1065353216 0, .complex .f32 0 1065353216, .complex .f32 0 0, .complex .f32 0 0, .complex .f32 0 0, .complex .f32 0 0, .complex .f32 0 0, .complex .f32 0 0, .complex .f32 1065353216 0, .complex .f32 0 3212836864, .complex .f32 0 0, .complex .f32 0 0, .complex .f32 0 0, .complex .f32 0 0, .complex .f32 0 0, .complex .f32 0 0]
  | 2 => #[.complex .f32 1065353216 0, .complex .f32 0 1065353216, .complex .f32 0 1065353216, .complex .f32 3212836864 0, .complex .f32 0 0, .complex .f32 0 0, .complex .f32 0 0, .complex .f32 0 0, .complex .f32 1065353216 0, .complex .f32 0 3212836864, .complex .f32 0 1065353216, .complex .f32 1065353216 0, .complex .f32 0 0, .complex .f32 0 0, .complex .f32 0 0, .complex .f32 0 0]
  | 3 => #[.complex .f32 1065353216 0, .complex .f32 0 1065353216, .complex .f32 0 1065353216, .complex .f32 3212836864 0, .complex .f32 3212836864 0, .complex .f32 2147483648 3212836864, .complex .f32 0 0, .complex .f32 0 0, .complex .f32 1065353216 0, .complex .f32 0 3212836864, .complex .f32 0 1065353216, .complex .f32 1065353216 0, .complex .f32 3212836864 0, .complex .f32 0 1065353216, .complex .f32 0 0, .complex .f32 0 0]
  | _ => #[.complex .f32 1065353216 0, .complex .f32 0 1065353216, .complex .f32 0 1065353216, .complex .f32 3212836864 0, .complex .f32 3212836864 0, .complex .f32 2147483648 3212836864, .complex .f32 2147483648 3212836864, .complex .f32 1065353216 2147483648, .complex .f32 1065353216 0, .complex .f32 0 3212836864, .complex .f32 0 1065353216, .complex .f32 1065353216 0, .complex .f32 3212836864 0, .complex .f32 0 1065353216, .complex .f32 2147483648 3212836864, .complex .f32 3212836864 0]
def oneV : Nat → Value
  | 0 => .complex .f32 1065353216 0
  | 1 => .complex .f32 0 1065353216
  | 2 => .complex .f32 3212836864 0
  | 3 => .complex .f32 2147483648 3212836864
  | _ => .complex .f32 1065353216 2147483648
theorem up_ret (w W : World) (a : Act) (h0 : a.tmps[0]? = some (.pointer (some ⟨w.heap.size, 0, Option.none⟩))) (H : Blk W w.heap.size (pairsV 4) 171) (hB : Below w.heap.size w W) (hd : a.defers = []) :
    bodyPost Tryz.prog Tryz.f124 (fun e w' => e = .returned (.agg (pairsV 4)) ∧ Below w.heap.size w w') Exit.ret a W := by
  have c0 := Blk.cellAt (i := 0) H rfl
  have c1 := Blk.cellAt (i := 1) H rfl
  have c2 := Blk.cellAt (i := 2) H rfl
  have c3 := Blk.cellAt (i := 3) H rfl
  have c4 := Blk.cellAt (i := 4) H rfl
  have c5 := Blk.cellAt (i := 5) H rfl
  have c6 := Blk.cellAt (i := 6) H rfl
  have c7 := Blk.cellAt (i := 7) H rfl
  have c8 := Blk.cellAt (i := 8) H rfl
  have c9 := Blk.cellAt (i := 9) H rfl
  have c10 := Blk.cellAt (i := 10) H rfl
  have c11 := Blk.cellAt (i := 11) H rfl
  have c12 := Blk.cellAt (i := 12) H rfl
  have c13 := Blk.cellAt (i := 13) H rfl
  have c14 := Blk.cellAt (i := 14) H rfl
  have c15 := Blk.cellAt (i := 15) H rfl
  simp only [pairsV, List.getElem_toArray, List.getElem_cons_zero, List.getElem_cons_succ] at c0 c1 c2 c3 c4 c5 c6 c7 c8 c9 c10 c11 c12 c13 c14 c15
  exact bodyPost_ret (v := .agg (pairsV 4)) (by simp [results, Tryz.results124, go_sem, h0, pairsV, c0, c1, c2, c3, c4, c5, c6, c7, c8, c9, c10, c11, c12, c13, c14, c15]) hd ⟨rfl, hB⟩
set_option maxHeartbeats 1000000 in
theorem unitPairs_i (w : World) :
    Calls Tryz.prog 124 #[] w fun e w' => e = .returned (.agg (pairsV 4)) ∧ Below w.heap.size w w' := by
  go_enter Tryz.func124, Tryz.ntmps124
  go_wp2
  go_loopw [2, 6] (fun a i wr => ∃ k : Nat, k ≤ 4 ∧ i = .int .i64 k ∧ a = oneV k ∧ Blk wr (w.heap.size + 1) (pairsV k) 171 ∧ Blk wr w.heap.size (pairsV 0) 171 ∧ Below w.heap.size w wr) (fun _ i _ => 4 - (intOf i).toNat)
  case atStart => exact ⟨0, by omega, rfl, rfl, Blk.newAt (by simp), (Blk.new _ _ _).alloc, by (repeat' (first | (with_reducible exact Below.refl _ _) | (with_reducible assumption) | (with_reducible refine Below.alloc ?_ ?_ _) | (with_reducible refine Below.drew ?_) | (with_reducible refine Below.setCell ?_ ?_ _) | (with_reducible refine Below.trans ?_ (Below.mono (by assumption) ?_)) | (with_reducible exact Nat.le_refl _) | omega | (simp only [World.size_alloc, World.size_setCell, World.size_drew]; omega) | (simp; omega) | (simp; done)))⟩
  case round =>
    obtain ⟨k, hk, rfl, ha, hp, hr, hbel⟩ := hrel
    rcases (by omega : k = 0 ∨ k = 1 ∨ k = 2 ∨ k = 3 ∨ k = 4) with rfl | rfl | rfl | rfl | rfl
    · simp only [oneV] at ha
      subst ha
      have HP : Hid (Blk wr (w.heap.size + 1) (pairsV 0) 171) := hp
      have HR : Hid (Blk wr w.heap.size (pairsV 0) 171) := hr
      have hlt := hp.lt
      clear hp hr
      go_wp2_with fail
      refine (placeOf_i _ _ _ (by omega) (by omega)).mono ?_
      rintro e w1 ⟨rfl, hb1⟩
      have H1 : Hid (Blk w1 (w.heap.size + 1) (pairsV 0) 171) := Blk.belowAt hb1 (by (repeat (first | (with_reducible exact HP.out) | (with_reducible refine Blk.below ?_ (by assumption)) | (with_reducible refine Blk.alloc ?_) | (with_reducible refine Blk.drew ?_) | (with_reducible refine Blk.other ?_ (by dsimp only; omega)))))
      have R1 : Hid (Blk w1 w.heap.size (pairsV 0) 171) := Blk.belowAt hb1 (by (repeat (first | (with_reducible exact HR.out) | (with_reducible refine Blk.below ?_ (by assumption)) | (with_reducible refine Blk.alloc ?_) | (with_reducible refine Blk.drew ?_) | (with_reducible refine Blk.other ?_ (by dsimp only; omega)))))
      have F1 : Hid (Blk w1 (wr.heap.size + 1) #[.int .i64 0, .bool true] 52) := Blk.belowAt hb1 (by (repeat (first | (with_reducible exact Blk.newAt (by simp; done)) | (with_reducible refine Blk.below ?_ (by assumption)) | (with_reducible refine Blk.alloc ?_) | (with_reducible refine Blk.drew ?_) | (with_reducible refine Blk.other ?_ (by dsimp only; omega)))))
      have hB1 : Below w.heap.size w w1 := by (repeat' (first | (with_reducible exact Below.refl _ _) | (with_reducible assumption) | (with_reducible refine Below.alloc ?_ ?_ _) | (with_reducible refine Below.drew ?_) | (with_reducible refine Below.setCell ?_ ?_ _) | (with_reducible refine Below.trans ?_ (Below.mono (by assumption) ?_)) | (with_reducible exact Nat.le_refl _) | omega | (simp only [World.size_alloc, World.size_setCell, World.size_drew]; omega) | (simp; omega) | (simp; done)))
      have hs1 := hB1.size
      have hl1 := H1.out.lt
      have hf1 := F1.out.lt
      have c0 := Blk.cellAt (i := 0) H1.out rfl
      have c1 := Blk.cellAt (i := 1) H1.out rfl
      have g0 := Blk.freeAt (i := 0) H1.out
      have g1 := Blk.freeAt (i := 1) H1.out
      have d0 := Blk.cellAt (i := 0) F1.out rfl
      have d1 := Blk.cellAt (i := 1) F1.out rfl
      simp only [pairsV, List.getElem_toArray, List.getElem_cons_zero, List.getElem_cons_succ] at c0 c1 d0 d1
      go_wp2_with (simp only [cmul_i0])
      refine (placeOf_i _ _ _ (by omega) (by omega)).mono ?_
      rintro e w2 ⟨rfl, hb2⟩
      have H2 : Hid (Blk w2 (w.heap.size + 1) _ 171) := Blk.belowAt hb2 (Blk.set (i := 1) (v := (.complex .f32 0 1065353216)) (Blk.set (i := 0) (v := (.complex .f32 1065353216 0)) H1.out))
      have R2 : Hid (Blk w2 w.heap.size (pairsV 0) 171) := Blk.belowAt hb2 (Blk.other (Blk.other R1.out (by dsimp only; omega)) (by dsimp only; omega))
      have hB2 : Below w.heap.size w w2 := by (repeat' (first | (with_reducible exact Below.refl _ _) | (with_reducible assumption) | (with_reducible refine Below.alloc ?_ ?_ _) | (with_reducible refine Below.drew ?_) | (with_reducible refine Below.setCell ?_ ?_ _) | (with_reducible refine Below.trans ?_ (Below.mono (by assumption) ?_)) | (with_reducible exact Nat.le_refl _) | omega | (simp only [World.size_alloc, World.size_setCell, World.size_drew]; omega) | (simp; omega) | (simp; done)))
      have hs2 := hB2.size
      have hl2 := H2.out.lt
      have c2 := Blk.cellAt (i := 8) H2.out rfl
      have c3 := Blk.cellAt (i := 9) H2.out rfl
      have g2 := Blk.freeAt (i := 8) H2.out
      have g3 := Blk.freeAt (i := 9) H2.out
      have H3 := Blk.set (i := 9) (v := (.complex .f32 0 3212836864)) (Blk.set (i := 8) (v := (.complex .f32 1065353216 0)) H2.out)
      have HH3 : Hid (Blk _ (w.heap.size + 1) (pairsV 1) 171) := H3
      have R3 : Hid (Blk _ w.heap.size (pairsV 0) 171) := Blk.other (a := ⟨w.heap.size + 1, 9, Option.none⟩) (v := (.complex .f32 0 3212836864)) (Blk.other (a := ⟨w.heap.size + 1, 8, Option.none⟩) (v := (.complex .f32 1065353216 0)) R2.out (by dsimp only; omega)) (by dsimp only; omega)
      clear c0 c1 g0 g1 d0 d1 hb2 hb1 H3
      simp only [pairsV, List.getElem_toArray, List.getElem_cons_zero, List.getElem_cons_succ, List.setIfInBounds_toArray, List.set_cons_zero, List.set_cons_succ] at c2 c3
      go_wp2_with (first | simp only [cmul_m0] | simp only [cmul_i0])
      go_roundw
      case rel => exact ⟨1, by omega, by go_num, rfl, HH3.out, R3.out, by (repeat' (first | (with_reducible exact Below.refl _ _) | (with_reducible assumption) | (with_reducible refine Below.alloc ?_ ?_ _) | (with_reducible refine Below.drew ?_) | (with_reducible refine Below.setCell ?_ ?_ _) | (with_reducible refine Below.trans ?_ (Below.mono (by assumption) ?_)) | (with_reducible exact Nat.le_refl _) | omega | (simp only [World.size_alloc, World.size_setCell, World.size_drew]; omega) | (simp; omega) | (simp; done)))⟩
      case measure => simp [intOf]
    · simp only [oneV] at ha
      subst ha
      have HP : Hid (Blk wr (w.heap.size + 1) (pairsV 1) 171) := hp
      have HR : Hid (Blk wr w.heap.size (pairsV 0) 171) := hr
      have hlt := hp.lt
      clear hp hr
      go_wp2_with fail
      refine (placeOf_i _ _ _ (by omega) (by omega)).mono ?_
      rintro e w1 ⟨rfl, hb1⟩
      have H1 : Hid (Blk w1 (w.heap.size + 1) (pairsV 1) 171) := Blk.belowAt hb1 (by (repeat (first | (with_reducible exact HP.out) | (with_reducible refine Blk.below ?_ (by assumption)) | (with_reducible refine Blk.alloc ?_) | (with_reducible refine Blk.drew ?_) | (with_reducible refine Blk.other ?_ (by dsimp only; omega)))))
      have R1 : Hid (Blk w1 w.heap.size (pairsV 0) 171) := Blk.belowAt hb1 (by (repeat (first | (with_reducible exact HR.out) | (with_reducible refine Blk.below ?_ (by assumption)) | (with_reducible refine Blk.alloc ?_) | (with_reducible refine Blk.drew ?_) | (with_reducible refine Blk.other ?_ (by dsimp only; omega)))))
      have F1 : Hid (Blk w1 (wr.heap.size + 1) #[.int .i64 1, .bool true] 52) := Blk.belowAt hb1 (by (repeat (first | (with_reducible exact Blk.newAt (by simp; done)) | (with_reducible refine Blk.below ?_ (by assumption)) | (with_reducible refine Blk.alloc ?_) | (with_reducible refine Blk.drew ?_) | (with_reducible refine Blk.other ?_ (by dsimp only; omega)))))
      have hB1 : Below w.heap.size w w1 := by (repeat' (first | (with_reducible exact Below.refl _ _) | (with_reducible assumption) | (with_reducible refine Below.alloc ?_ ?_ _) | (with_reducible refine Below.drew ?_) | (with_reducible refine Below.setCell ?_ ?_ _) | (with_reducible refine Below.trans ?_ (Below.mono (by assumption) ?_)) | (with_reducible exact Nat.le_refl _) | omega | (simp only [World.size_alloc, World.size_setCell, World.size_drew]; omega) | (simp; omega) | (simp; done)))
      have hs1 := hB1.size
      have hl1 := H1.out.lt
      have hf1 := F1.out.lt
      have c0 := Blk.cellAt (i := 2) H1.out rfl
      have c1 := Blk.cellAt (i := 3) H1.out rfl
      have g0 := Blk.freeAt (i := 2) H1.out
      have g1 := Blk.freeAt (i := 3) H1.out
      have d0 := Blk.cellAt (i := 0) F1.out rfl
      have d1 := Blk.cellAt (i := 1) F1.out rfl
      simp only [pairsV, List.getElem_toArray, List.getElem_cons_zero, List.getElem_cons_succ] at c0 c1 d0 d1
      go_wp2_with (simp only [cmul_i1])
      refine (placeOf_i _ _ _ (by omega) (by omega)).mono ?_
      rintro e w2 ⟨rfl, hb2⟩
      have H2 : Hid (Blk w2 (w.heap.size + 1) _ 171) := Blk.belowAt hb2 (Blk.set (i := 3) (v := (.complex .f32 3212836864 0)) (Blk.set (i := 2) (v := (.complex .f32 0 1065353216)) H1.out))
      have R2 : Hid (Blk w2 w.heap.size (pairsV 0) 171) := Blk.belowAt hb2 (Blk.other (Blk.other R1.out (by dsimp only; omega)) (by dsimp only; omega))
      have hB2 : Below w.heap.size w w2 := by (repeat' (first | (with_reducible exact Below.refl _ _) | (with_reducible assumption) | (with_reducible refine Below.alloc ?_ ?_ _) | (with_reducible refine Below.drew ?_) | (with_reducible refine Below.setCell ?_ ?_ _) | (with_reducible refine Below.trans ?_ (Below.mono (by assumption) ?_)) | (with_reducible exact Nat.le_refl _) | omega | (simp only [World.size_alloc, World.size_setCell, World.size_drew]; omega) | (simp; omega) | (simp; done)))
      have hs2 := hB2.size
      have hl2 := H2.out.lt
      have c2 := Blk.cellAt (i := 10) H2.out rfl
      have c3 := Blk.cellAt (i := 11) H2.out rfl
      have g2 := Blk.freeAt (i := 10) H2.out
      have g3 := Blk.freeAt (i := 11) H2.out
      have H3 := Blk.set (i := 11) (v := (.complex .f32 1065353216 0)) (Blk.set (i := 10) (v := (.complex .f32 0 1065353216)) H2.out)
      have HH3 : Hid (Blk _ (w.heap.size + 1) (pairsV 2) 171) := H3
      have R3 : Hid (Blk _ w.heap.size (pairsV 0) 171) := Blk.other (a := ⟨w.heap.size + 1, 11, Option.none⟩) (v := (.complex .f32 1065353216 0)) (Blk.other (a := ⟨w.heap.size + 1, 10, Option.none⟩) (v := (.complex .f32 0 1065353216)) R2.out (by dsimp only; omega)) (by dsimp only; omega)
      clear c0 c1 g0 g1 d0 d1 hb2 hb1 H3
      simp only [pairsV, List.getElem_toArray, List.getElem_cons_zero, List.getElem_cons_succ, List.setIfInBounds_toArray, List.set_cons_zero, List.set_cons_succ] at c2 c3
      go_wp2_with (first | simp only [cmul_m1] | simp only [cmul_i1])
      go_roundw
      case rel => exact ⟨2, by omega, by go_num, rfl, HH3.out, R3.out, by (repeat' (first | (with_reducible exact Below.refl _ _) | (with_reducible assumption) | (with_reducible refine Below.alloc ?_ ?_ _) | (with_reducible refine Below.drew ?_) | (with_reducible refine Below.setCell ?_ ?_ _) | (with_reducible refine Below.trans ?_ (Below.mono (by assumption) ?_)) | (with_reducible exact Nat.le_refl _) | omega | (simp only [World.size_alloc, World.size_setCell, World.size_drew]; omega) | (simp; omega) | (simp; done)))⟩
      case measure => simp [intOf]
    · simp only [oneV] at ha
      subst ha
      have HP : Hid (Blk wr (w.heap.size + 1) (pairsV 2) 171) := hp
      have HR : Hid (Blk wr w.heap.size (pairsV 0) 171) := hr
      have hlt := hp.lt
      clear hp hr
      go_wp2_with fail
      refine (placeOf_i _ _ _ (by omega) (by omega)).mono ?_
      rintro e w1 ⟨rfl, hb1⟩
      have H1 : Hid (Blk w1 (w.heap.size + 1) (pairsV 2) 171) := Blk.belowAt hb1 (by (repeat (first | (with_reducible exact HP.out) | (with_reducible refine Blk.below ?_ (by assumption)) | (with_reducible refine Blk.alloc ?_) | (with_reducible refine Blk.drew ?_) | (with_reducible refine Blk.other ?_ (by dsimp only; omega)))))
      have R1 : Hid (Blk w1 w.heap.size (pairsV 0) 171) := Blk.belowAt hb1 (by (repeat (first | (with_reducible exact HR.out) | (with_reducible refine Blk.below ?_ (by assumption)) | (with_reducible refine Blk.alloc ?_) | (with_reducible refine Blk.drew ?_) | (with_reducible refine Blk.other ?_ (by dsimp only; omega)))))
      have F1 : Hid (Blk w1 (wr.heap.size + 1) #[.int .i64 2, .bool true] 52) := Blk.belowAt hb1 (by (repeat (first | (with_reducible exact Blk.newAt (by simp; done)) | (with_reducible refine Blk.below ?_ (by assumption)) | (with_reducible refine Blk.alloc ?_) | (with_reducible refine Blk.drew ?_) | (with_reducible refine Blk.other ?_ (by dsimp only; omega)))))
      have hB1 : Below w.heap.size w w1 := by (repeat' (first | (with_reducible exact Below.refl _ _) | (with_reducible assumption) | (with_reducible refine Below.alloc ?_ ?_ _) | (with_reducible refine Below.drew ?_) | (with_reducible refine Below.setCell ?_ ?_ _) | (with_reducible refine Below.trans ?_ (Below.mono (by assumption) ?_)) | (with_reducible exact Nat.le_refl _) | omega | (simp only [World.size_alloc, World.size_setCell, World.size_drew]; omega) | (simp; omega) | (simp; done)))
      have hs1 := hB1.size
      have hl1 := H1.out.lt
      have hf1 := F1.out.lt
      have c0 := Blk.cellAt (i := 4) H1.out rfl
      have c1 := Blk.cellAt (i := 5) H1.out rfl
      have g0 := Blk.freeAt (i := 4) H1.out
      have g1 := Blk.freeAt (i := 5) H1.out
      have d0 := Blk.cellAt (i := 0) F1.out rfl
      have d1 := Blk.cellAt (i := 1) F1.out rfl
      simp only [pairsV, List.getElem_toArray, List.getElem_cons_zero, List.getElem_cons_succ] at c0 c1 d0 d1
      go_wp2_with (simp only [cmul_i2])
      refine (placeOf_i _ _ _ (by omega) (by omega)).mono ?_
      rintro e w2 ⟨rfl, hb2⟩
      have H2 : Hid (Blk w2 (w.heap.size + 1) _ 171) := Blk.belowAt hb2 (Blk.set (i := 5) (v := (.complex .f32 2147483648 3212836864)) (Blk.set (i := 4) (v := (.complex .f32 3212836864 0)) H1.out))
      have R2 : Hid (Blk w2 w.heap.size (pairsV 0) 171) := Blk.belowAt hb2 (Blk.other (Blk.other R1.out (by dsimp only; omega)) (by dsimp only; omega))
      have hB2 : Below w.heap.size w w2 := by (repeat' (first | (with_reducible exact Below.refl _ _) | (with_reducible assumption) | (with_reducible refine Below.alloc ?_ ?_ _) | (with_reducible refine Below.drew ?_) | (with_reducible refine Below.setCell ?_ ?_ _) | (with_reducible refine Below.trans ?_ (Below.mono (by assumption) ?_)) | (with_reducible exact Nat.le_refl _) | omega | (simp only [World.size_alloc, World.size_setCell, World.size_drew]; omega) | (simp; omega) | (simp; done)))
      have hs2 := hB2.size
      have hl2 := H2.out.lt
      have c2 := Blk.cellAt (i := 12) H2.out rfl
      have c3 := Blk.cellAt (i := 13) H2.out rfl
      have g2 := Blk.freeAt (i := 12) H2.out
      have g3 := Blk.freeAt (i := 13) H2.out
      have H3 := Blk.set (i := 13) (v := (.complex .f32 0 1065353216)) (Blk.set (i := 12) (v := (.complex .f32 3212836864 0)) H2.out)
      have HH3 : Hid (Blk _ (w.heap.size + 1) (pairsV 3) 171) := H3
      have R3 : Hid (Blk _ w.heap.size (pairsV 0) 171) := Blk.other (a := ⟨w.heap.size + 1, 13, Option.none⟩) (v := (.complex .f32 0 1065353216)) (Blk.other (a := ⟨w.heap.size + 1, 12, Option.none⟩) (v := (.complex .f32 3212836864 0)) R2.out (by dsimp only; omega)) (by dsimp only; omega)
      clear c0 c1 g0 g1 d0 d1 hb2 hb1 H3
      simp only [pairsV, List.getElem_toArray, List.getElem_cons_zero, List.getElem_cons_succ, List.setIfInBounds_toArray, List.set_cons_zero, List.set_cons_succ] at c2 c3
      go_wp2_with (first | simp only [cmul_m2] | simp only [cmul_i2])
      go_roundw
      case rel => exact ⟨3, by omega, by go_num, rfl, HH3.out, R3.out, by (repeat' (first | (with_reducible exact Below.refl _ _) | (with_reducible assumption) | (with_reducible refine Below.alloc ?_ ?_ _) | (with_reducible refine Below.drew ?_) | (with_reducible refine Below.setCell ?_ ?_ _) | (with_reducible refine Below.trans ?_ (Below.mono (by assumption) ?_)) | (with_reducible exact Nat.le_refl _) | omega | (simp only [World.size_alloc, World.size_setCell, World.size_drew]; omega) | (simp; omega) | (simp; done)))⟩
      case measure => simp [intOf]
    · simp only [oneV] at ha
      subst ha
      have HP : Hid (Blk wr (w.heap.size + 1) (pairsV 3) 171) := hp
      have HR : Hid (Blk wr w.heap.size (pairsV 0) 171) := hr
      have hlt := hp.lt
      clear hp hr
      go_wp2_with fail
      refine (placeOf_i _ _ _ (by omega) (by omega)).mono ?_
      rintro e w1 ⟨rfl, hb1⟩
      have H1 : Hid (Blk w1 (w.heap.size + 1) (pairsV 3) 171) := Blk.belowAt hb1 (by (repeat (first | (with_reducible exact HP.out) | (with_reducible refine Blk.below ?_ (by assumption)) | (with_reducible refine Blk.alloc ?_) | (with_reducible refine Blk.drew ?_) | (with_reducible refine Blk.other ?_ (by dsimp only; omega)))))
      have R1 : Hid (Blk w1 w.heap.size (pairsV 0) 171) := Blk.belowAt hb1 (by (repeat (first | (with_reducible exact HR.out) | (with_reducible refine Blk.below ?_ (by assumption)) | (with_reducible refine Blk.alloc ?_) | (with_reducible refine Blk.drew ?_) | (with_reducible refine Blk.other ?_ (by dsimp only; omega)))))
      have F1 : Hid (Blk w1 (wr.heap.size + 1) #[.int .i64 3, .bool true] 52) := Blk.belowAt hb1 (by (repeat (first | (with_reducible exact Blk.newAt (by simp; done)) | (with_reducible refine Blk.below ?_ (by assumption)) | (with_reducible refine Blk.alloc ?_) | (with_reducible refine Blk.drew ?_) | (with_reducible refine Blk.other ?_ (by dsimp only; omega)))))
      have hB1 : Below w.heap.size w w1 := by (repeat' (first | (with_reducible exact Below.refl _ _) | (with_reducible assumption) | (with_reducible refine Below.alloc ?_ ?_ _) | (with_reducible refine Below.drew ?_) | (with_reducible refine Below.setCell ?_ ?_ _) | (with_reducible refine Below.trans ?_ (Below.mono (by assumption) ?_)) | (with_reducible exact Nat.le_refl _) | omega | (simp only [World.size_alloc, World.size_setCell, World.size_drew]; omega) | (simp; omega) | (simp; done)))
      have hs1 := hB1.size
      have hl1 := H1.out.lt
      have hf1 := F1.out.lt
      have c0 := Blk.cellAt (i := 6) H1.out rfl
      have c1 := Blk.cellAt (i := 7) H1.out rfl
      have g0 := Blk.freeAt (i := 6) H1.out
      have g1 := Blk.freeAt (i := 7) H1.out
      have d0 := Blk.cellAt (i := 0) F1.out rfl
      have d1 := Blk.cellAt (i := 1) F1.out rfl
      simp only [pairsV, List.getElem_toArray, List.getElem_cons_zero, List.getElem_cons_succ] at c0 c1 d0 d1
      go_wp2_with (simp only [cmul_i3])
      refine (placeOf_i _ _ _ (by omega) (by omega)).mono ?_
      rintro e w2 ⟨rfl, hb2⟩
      have H2 : Hid (Blk w2 (w.heap.size + 1) _ 171) := Blk.belowAt hb2 (Blk.set (i := 7) (v := (.complex .f32 1065353216 2147483648)) (Blk.set (i := 6) (v := (.complex .f32 2147483648 3212836864)) H1.out))
      have R2 : Hid (Blk w2 w.heap.size (pairsV 0) 171) := Blk.belowAt hb2 (Blk.other (Blk.other R1.out (by dsimp only; omega)) (by dsimp only; omega))
      have hB2 : Below w.heap.size w w2 := by (repeat' (first | (with_reducible exact Below.refl _ _) | (with_reducible assumption) | (with_reducible refine Below.alloc ?_ ?_ _) | (with_reducible refine Below.drew ?_) | (with_reducible refine Below.setCell ?_ ?_ _) | (with_reducible refine Below.trans ?_ (Below.mono (by assumption) ?_)) | (with_reducible exact Nat.le_refl _) | omega | (simp only [World.size_alloc, World.size_setCell, World.size_drew]; omega) | (simp; omega) | (simp; done)))
      have hs2 := hB2.size
      have hl2 := H2.out.lt
      have c2 := Blk.cellAt (i := 14) H2.out rfl
      have c3 := Blk.cellAt (i := 15) H2.out rfl
      have g2 := Blk.freeAt (i := 14) H2.out
      have g3 := Blk.freeAt (i := 15) H2.out
      have H3 := Blk.set (i := 15) (v := (.complex .f32 3212836864 0)) (Blk.set (i := 14) (v := (.complex .f32 2147483648 3212836864)) H2.out)
      have HH3 : Hid (Blk _ (w.heap.size + 1) (pairsV 4) 171) := H3
      have R3 : Hid (Blk _ w.heap.size (pairsV 0) 171) := Blk.other (a := ⟨w.heap.size + 1, 15, Option.none⟩) (v := (.complex .f32 3212836864 0)) (Blk.other (a := ⟨w.heap.size + 1, 14, Option.none⟩) (v := (.complex .f32 2147483648 3212836864)) R2.out (by dsimp only; omega)) (by dsimp only; omega)
      clear c0 c1 g0 g1 d0 d1 hb2 hb1 H3
      simp only [pairsV, List.getElem_toArray, List.getElem_cons_zero, List.getElem_cons_succ, List.setIfInBounds_toArray, List.set_cons_zero, List.set_cons_succ] at c2 c3
      go_wp2_with (first | simp only [cmul_m3] | simp only [cmul_i3])
      go_roundw
      case rel => exact ⟨4, by omega, by go_num, rfl, HH3.out, R3.out, by (repeat' (first | (with_reducible exact Below.refl _ _) | (with_reducible assumption) | (with_reducible refine Below.alloc ?_ ?_ _) | (with_reducible refine Below.drew ?_) | (with_reducible refine Below.setCell ?_ ?_ _) | (with_reducible refine Below.trans ?_ (Below.mono (by assumption) ?_)) | (with_reducible exact Nat.le_refl _) | omega | (simp only [World.size_alloc, World.size_setCell, World.size_drew]; omega) | (simp; omega) | (simp; done)))⟩
      case measure => simp [intOf]
    · simp only [oneV] at ha
      subst ha
      have HP : Hid (Blk wr (w.heap.size + 1) (pairsV 4) 171) := hp
      have HR : Hid (Blk wr w.heap.size (pairsV 0) 171) := hr
      have hlt := hp.lt
      clear hp hr
      have c0 := Blk.cellAt (i := 0) HP.out rfl
      have d0 := Blk.cellAt (i := 0) HR.out rfl
      have g0 := Blk.freeAt (i := 0) HR.out
      have c1 := Blk.cellAt (i := 1) HP.out rfl
      have d1 := Blk.cellAt (i := 1) HR.out rfl
      have g1 := Blk.freeAt (i := 1) HR.out
      have c2 := Blk.cellAt (i := 2) HP.out rfl
      have d2 := Blk.cellAt (i := 2) HR.out rfl
      have g2 := Blk.freeAt (i := 2) HR.out
      have c3 := Blk.cellAt (i := 3) HP.out rfl
      have d3 := Blk.cellAt (i := 3) HR.out rfl
      have g3 := Blk.freeAt (i := 3) HR.out
      have c4 := Blk.cellAt (i := 4) HP.out rfl
      have d4 := Blk.cellAt (i := 4) HR.out rfl
      have g4 := Blk.freeAt (i := 4) HR.out
      have c5 := Blk.cellAt (i := 5) HP.out rfl
      have d5 := Blk.cellAt (i := 5) HR.out rfl
      have g5 := Blk.freeAt (i := 5) HR.out
      have c6 := Blk.cellAt (i := 6) HP.out rfl
      have d6 := Blk.cellAt (i := 6) HR.out rfl
      have g6 := Blk.freeAt (i := 6) HR.out
      have c7 := Blk.cellAt (i := 7) HP.out rfl
      have d7 := Blk.cellAt (i := 7) HR.out rfl
      have g7 := Blk.freeAt (i := 7) HR.out
      have c8 := Blk.cellAt (i := 8) HP.out rfl
      have d8 := Blk.cellAt (i := 8) HR.out rfl
      have g8 := Blk.freeAt (i := 8) HR.out
      have c9 := Blk.cellAt (i := 9) HP.out rfl
      have d9 := Blk.cellAt (i := 9) HR.out rfl
      have g9 := Blk.freeAt (i := 9) HR.out
      have c10 := Blk.cellAt (i := 10) HP.out rfl
      have d10 := Blk.cellAt (i := 10) HR.out rfl
      have g10 := Blk.freeAt (i := 10) HR.out
      have c11 := Blk.cellAt (i := 11) HP.out rfl
      have d11 := Blk.cellAt (i := 11) HR.out rfl
      have g11 := Blk.freeAt (i := 11) HR.out
      have c12 := Blk.cellAt (i := 12) HP.out rfl
      have d12 := Blk.cellAt (i := 12) HR.out rfl
      have g12 := Blk.freeAt (i := 12) HR.out
      have c13 := Blk.cellAt (i := 13) HP.out rfl
      have d13 := Blk.cellAt (i := 13) HR.out rfl
      have g13 := Blk.freeAt (i := 13) HR.out
      have c14 := Blk.cellAt (i := 14) HP.out rfl
      have d14 := Blk.cellAt (i := 14) HR.out rfl
      have g14 := Blk.freeAt (i := 14) HR.out
      have c15 := Blk.cellAt (i := 15) HP.out rfl
      have d15 := Blk.cellAt (i := 15) HR.out rfl
      have g15 := Blk.freeAt (i := 15) HR.out
      simp only [pairsV, List.getElem_toArray, List.getElem_cons_zero, List.getElem_cons_succ] at c0 d0 c1 d1 c2 d2 c3 d3 c4 d4 c5 d5 c6 d6 c7 d7 c8 d8 c9 d9 c10 d10 c11 d11 c12 d12 c13 d13 c14 d14 c15 d15
      have HF : Hid (Blk _ w.heap.size (pairsV 4) 171) := (Blk.set (i := 15) (v := (.complex .f32 3212836864 0)) (Blk.set (i := 14) (v := (.complex .f32 2147483648 3212836864)) (Blk.set (i := 13) (v := (.complex .f32 0 1065353216)) (Blk.set (i := 12) (v := (.complex .f32 3212836864 0)) (Blk.set (i := 11) (v := (.complex .f32 1065353216 0)) (Blk.set (i := 10) (v := (.complex .f32 0 1065353216)) (Blk.set (i := 9) (v := (.complex .f32 0 3212836864)) (Blk.set (i := 8) (v := (.complex .f32 1065353216 0)) (Blk.set (i := 7) (v := (.complex .f32 1065353216 2147483648)) (Blk.set (i := 6) (v := (.complex .f32 2147483648 3212836864)) (Blk.set (i := 5) (v := (.complex .f32 2147483648 3212836864)) (Blk.set (i := 4) (v := (.complex .f32 3212836864 0)) (Blk.set (i := 3) (v := (.complex .f32 3212836864 0)) (Blk.set (i := 2) (v := (.complex .f32 0 1065353216)) (Blk.set (i := 1) (v := (.complex .f32 0 1065353216)) (Blk.set (i := 0) (v := (.complex .f32 1065353216 0)) HR.out))))))))))))))))
      go_wp2_with fail
      clear c0 d0 g0 c1 d1 g1 c2 d2 g2 c3 d3 g3 c4 d4 g4 c5 d5 g5 c6 d6 g6 c7 d7 g7 c8 d8 g8 c9 d9 g9 c10 d10 g10 c11 d11 g11 c12 d12 g12 c13 d13 g13 c14 d14 g14 c15 d15 g15
      exact up_ret w _ _ rfl HF.out (by (repeat' (first | (with_reducible exact Below.refl _ _) | (with_reducible assumption) | (with_reducible refine Below.alloc ?_ ?_ _) | (with_reducible refine Below.drew ?_) | (with_reducible refine Below.setCell ?_ ?_ _) | (with_reducible refine Below.trans ?_ (Below.mono (by assumption) ?_)) | (with_reducible exact Nat.le_refl _) | omega | (simp only [World.size_alloc, World.size_setCell, World.size_drew]; omega) | (simp; omega) | (simp; done)))) rfl
end Go.Proofs.YtfdgijmmgllmgaaGreatDoor
