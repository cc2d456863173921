/-
  Texts Gfm, joined.
-/
import Derived.Test.YtfdgijmmgllmgaaGreatDoorS35
import Derived.Deep.RegionHeld3
namespace Go.Proofs.YtfdgijmmgllmgaaGreatDoor
open Go.ChangeShapes Go.WideShapes Go.ChangeAt Go.RowKit Go.Joins
set_option linter.unusedSimpArgs false
set_option linter.unusedVariables false
set_option maxRecDepth 100000
attribute [local go_sem] store_f
open Ieee
attribute [local go_sem] store_c
set_option maxHeartbeats 8000000 in
theorem with_move {q : Nat} {W : World} {s : Shd} {x1 x2 y1 y2 z1 z2 : Nat} (A : Clo 87 q W s.a1 s.a2 x1 x2) (B : Clo 87 q W s.b1 s.b2 y1 y2) (C : Clo 87 q W s.c1 s.c2 z1 z2) :
    WithC 87 q W s (s.put x1 x2 y1 y2 z1 z2) := ⟨by
  obtain ⟨t, ht⟩ : ∃ t, t = s.put x1 x2 y1 y2 z1 z2 := ⟨_, rfl⟩
  have h1 : t.a1 = x1 := by rw [ht]; rfl
  have h2 : t.a2 = x2 := by rw [ht]; rfl
  have h3 : t.b1 = y1 := by rw [ht]; rfl
  have h4 : t.b2 = y2 := by rw [ht]; rfl
  have h5 : t.c1 = z1 := by rw [ht]; rfl
  have h6 : t.c2 = z2 := by rw [ht]; rfl
  have h7 : s.r = t.r := by rw [ht]; rfl
  have h8 : s.g = t.g := by rw [ht]; rfl
  have h9 : s.b = t.b := by rw [ht]; rfl
  have h0 : s.k = t.k := by rw [ht]; rfl
  rw [← ht]
  subst h1 h2 h3 h4 h5 h6
  rw [h7, h8, h9, h0]
  clear ht h7 h8 h9 h0
  go_enter Tryz.func86, Tryz.ntmps86
  go_wp2_with fail
  generalize hW : (W.alloc (.cells #[.complex .f32 s.a1 s.a2, .complex .f32 s.b1 s.b2, .complex .f32 s.c1 s.c2, .float .f32 t.r, .float .f32 t.g, .float .f32 t.b, .float .f32 t.k] 36)).alloc (.cells #[.complex .f32 0 0, .complex .f32 0 0, .complex .f32 0 0, .float .f32 0, .float .f32 0, .float .f32 0, .float .f32 0] 36) = X
  have D0 : Blk X W.heap.size #[.complex .f32 s.a1 s.a2, .complex .f32 s.b1 s.b2, .complex .f32 s.c1 s.c2, .float .f32 t.r, .float .f32 t.g, .float .f32 t.b, .float .f32 t.k] 36 := by rw [← hW]; exact (Blk.new _ _ _).alloc
  have D1 : Blk X (W.heap.size + 1) #[.complex .f32 0 0, .complex .f32 0 0, .complex .f32 0 0, .float .f32 0, .float .f32 0, .float .f32 0, .float .f32 0] 36 := by rw [← hW]; exact Blk.newAt (by simp)
  have hB : Below W.heap.size W X := by rw [← hW]; (repeat' (first | (with_reducible exact Below.refl _ _) | (with_reducible assumption) | (with_reducible refine Below.alloc ?_ ?_ _) | (with_reducible refine Below.drew ?_) | (with_reducible refine Below.setCell ?_ ?_ _) | (with_reducible refine Below.trans ?_ (Below.mono (by assumption) ?_)) | (with_reducible exact Nat.le_refl _) | omega | (simp only [World.size_alloc, World.size_setCell, World.size_drew]; omega) | (simp; omega) | (simp; done)))
  have R0 : Hid (Blk X W.heap.size #[.complex .f32 s.a1 s.a2, .complex .f32 s.b1 s.b2, .complex .f32 s.c1 s.c2, .float .f32 t.r, .float .f32 t.g, .float .f32 t.b, .float .f32 t.k] 36) := D0
  have R1 : Hid (Blk X (W.heap.size + 1) #[.complex .f32 0 0, .complex .f32 0 0, .complex .f32 0 0, .float .f32 0, .float .f32 0, .float .f32 0, .float .f32 0] 36) := D1
  have HB : Hid (Below W.heap.size W X) := hB
  have l1 := D1.lt
  have c0 := Blk.cellAt (i := 0) D0 rfl
  have c1 := Blk.cellAt (i := 1) D0 rfl
  have c2 := Blk.cellAt (i := 2) D0 rfl
  simp only [List.getElem_toArray, List.getElem_cons_zero, List.getElem_cons_succ] at c0 c1 c2
  clear hW D0 D1 hB
  go_region_with (first | (go_at_call 87; (with_reducible refine (A.call _ ?_).mono ?_); (next => exact HB.out.drew); rintro e w4 ⟨rfl, hb4⟩; have R40 : Hid (Blk w4 W.heap.size _ 36) := Blk.belowAt hb4 (Blk.drew R0.out); have R41 : Hid (Blk w4 (W.heap.size + 1) _ 36) := Blk.belowAt hb4 (Blk.drew R1.out); have B4 : Hid (Below W.heap.size W w4) := HB.out.drew.trans (hb4.mono (by simp; omega)); have u1 := Blk.cellAt (i := 1) R40.out rfl; have u2 := Blk.cellAt (i := 2) R40.out rfl; simp only [List.getElem_toArray, List.getElem_cons_zero, List.getElem_cons_succ] at u1 u2; clear hb4) | (go_at_call 87; (with_reducible refine (B.call _ ?_).mono ?_); (next => exact B4.out); rintro e w5 ⟨rfl, hb5⟩; have R50 : Hid (Blk w5 W.heap.size _ 36) := Blk.belowAt hb5 R40.out; have R51 : Hid (Blk w5 (W.heap.size + 1) _ 36) := Blk.belowAt hb5 R41.out; have B5 : Hid (Below W.heap.size W w5) := B4.out.trans (hb5.mono (by have := R40.out.lt; omega)); have v2 := Blk.cellAt (i := 2) R50.out rfl; simp only [List.getElem_toArray, List.getElem_cons_zero, List.getElem_cons_succ] at v2; clear hb5) | (go_at_call 87; (with_reducible refine (C.call _ ?_).mono ?_); (next => exact B5.out); rintro e w6 ⟨rfl, hb6⟩; have R60 : Hid (Blk w6 W.heap.size _ 36) := Blk.belowAt hb6 R50.out; have R61 : Hid (Blk w6 (W.heap.size + 1) _ 36) := Blk.belowAt hb6 R51.out; have B6 : Hid (Below W.heap.size W w6) := B5.out.trans (hb6.mono (by have := R50.out.lt; omega)); have f0 := R60.out.free 0; have f1 := R60.out.free 1; have f2 := R60.out.free 2; have a0 := Blk.cellAt (i := 0) R60.out rfl; have a1 := Blk.cellAt (i := 1) R60.out rfl; have a2 := Blk.cellAt (i := 2) R60.out rfl; simp only [List.getElem_toArray, List.getElem_cons_zero, List.getElem_cons_succ] at a0 a1 a2; clear hb6))
  all_goals
    have B6' := B6.out
    generalize hY : ((w6.setCell ⟨W.heap.size, 0, Option.none⟩ (.complex .f32 t.a1 t.a2)).setCell ⟨W.heap.size, 1, Option.none⟩ (.complex .f32 t.b1 t.b2)).setCell ⟨W.heap.size, 2, Option.none⟩ (.complex .f32 t.c1 t.c2) = Y
    have D0 : Blk Y W.heap.size #[.complex .f32 t.a1 t.a2, .complex .f32 t.b1 t.b2, .complex .f32 t.c1 t.c2, .float .f32 t.r, .float .f32 t.g, .float .f32 t.b, .float .f32 t.k] 36 := by rw [← hY]; exact Blk.setAt (b := W.heap.size) rfl (Blk.setAt (b := W.heap.size) rfl (Blk.setAt (b := W.heap.size) rfl R60.out rfl) rfl) rfl
    have D1 : Blk Y (W.heap.size + 1) #[.complex .f32 0 0, .complex .f32 0 0, .complex .f32 0 0, .float .f32 0, .float .f32 0, .float .f32 0, .float .f32 0] 36 := by rw [← hY]; exact ((R61.out.other (by dsimp only; omega)).other (by dsimp only; omega)).other (by dsimp only; omega)
    have HBY : Hid (Below W.heap.size W Y) := by rw [← hY]; exact ((B6'.setCell (Nat.le_refl _) _).setCell (Nat.le_refl _) _).setCell (Nat.le_refl _) _
    clear hY B6' f0 f1 f2 a0 a1 a2 R40 R41 R50 R51 R60 R61 B4 B5 B6
    try clear u1
    try clear u2
    try clear v2
    have ly := D1.lt
    (obtain ⟨d0, d1, d2, d3, d4, d5, d6⟩ := blk7 (D0))
    have D1H : Hid (Blk Y (W.heap.size + 1) #[.complex .f32 0 0, .complex .f32 0 0, .complex .f32 0 0, .float .f32 0, .float .f32 0, .float .f32 0, .float .f32 0] 36) := D1
    have o0 := Blk.cellAt (i := 0) D1 rfl
    have o1 := Blk.cellAt (i := 1) D1 rfl
    have o2 := Blk.cellAt (i := 2) D1 rfl
    have o3 := Blk.cellAt (i := 3) D1 rfl
    have o4 := Blk.cellAt (i := 4) D1 rfl
    have o5 := Blk.cellAt (i := 5) D1 rfl
    have o6 := Blk.cellAt (i := 6) D1 rfl
    simp only [List.getElem_toArray, List.getElem_cons_zero, List.getElem_cons_succ] at o0 o1 o2 o3 o4 o5 o6
    have p0 := D1.free 0
    have p1 := D1.free 1
    have p2 := D1.free 2
    have p3 := D1.free 3
    have p4 := D1.free 4
    have p5 := D1.free 5
    have p6 := D1.free 6
    clear D0 D1
    go_wp2
    (have E0 := D1H.out.set (i := 0) (v := .complex .f32 t.a1 t.a2); have E1 := E0.set (i := 1) (v := .complex .f32 t.b1 t.b2); have E2 := E1.set (i := 2) (v := .complex .f32 t.c1 t.c2); have E3 := E2.set (i := 3) (v := .float .f32 t.r); have E4 := E3.set (i := 4) (v := .float .f32 t.g); have E5 := E4.set (i := 5) (v := .float .f32 t.b); have E6 := E5.set (i := 6) (v := .float .f32 t.k); have e0 := E0.cell 0; have e1 := E1.cell 1; have e2 := E2.cell 2; have e3 := E3.cell 3; have e4 := E4.cell 4; have e5 := E5.cell 5; have e6 := E6.cell 6; simp only [List.setIfInBounds_toArray, List.set_cons_zero, List.set_cons_succ, List.getElem?_toArray, List.getElem?_cons_zero, List.getElem?_cons_succ] at e0 e1 e2 e3 e4 e5 e6)
    exact bodyPost_ret (v := .agg #[.complex .f32 t.a1 t.a2, .complex .f32 t.b1 t.b2, .complex .f32 t.c1 t.c2, .float .f32 t.r, .float .f32 t.g, .float .f32 t.b, .float .f32 t.k]) (by simp [results, Tryz.results86, go_sem, e0, e1, e2, e3, e4, e5, e6]) rfl ⟨rfl, by have hbb := HBY.out; (repeat' (first | (with_reducible exact Below.refl _ _) | (with_reducible assumption) | (with_reducible refine Below.alloc ?_ ?_ _) | (with_reducible refine Below.drew ?_) | (with_reducible refine Below.setCell ?_ ?_ _) | (with_reducible refine Below.trans ?_ (Below.mono (by assumption) ?_)) | (with_reducible exact Nat.le_refl _) | omega | (simp only [World.size_alloc, World.size_setCell, World.size_drew]; omega) | (simp; omega) | (simp; done)))⟩⟩
end Go.Proofs.YtfdgijmmgllmgaaGreatDoor
