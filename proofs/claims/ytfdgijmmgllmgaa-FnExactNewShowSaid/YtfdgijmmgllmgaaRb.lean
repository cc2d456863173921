/-
  IsShow of a bare show: the model.
-/
import Derived.Test.YtfdgijmmgllmgaaRa
namespace Go.Proofs.Ytfdgijmmgllmgaa
open Go.ChangeShapes Go.WideShapes Go.ChangeAt Go.RowKit Go.Joins
set_option linter.unusedSimpArgs false
set_option linter.unusedVariables false
set_option maxRecDepth 100000
attribute [local go_sem] store_f
open Ieee Go.Lib

theorem fin0q : Fin32 0 := fin_of_lt (by omega)
theorem pt00_s (w : World) : Calls Try.prog 116 #[.complex .f32 0 0] w fun e w' => e = .returned (.bool true) ∧ Below w.heap.size w w' := by
  have S1 := fun w => l1Single_yes 0 w (sub_self fin0q)
  have H1 := Lib.hid S1
  clear S1
  go_enter Try.func116, Try.ntmps116
  go_wp2_with (go_at_call 79; refine (H1.out _).mono ?_; rintro e w1 ⟨rfl, hb⟩; obtain ⟨hc, hf⟩ := bcell hb; have HL := keepL (by (repeat (first | (with_reducible assumption) | (with_reducible apply AllLt.alloc) | (with_reducible apply AllLt.setCell) | (with_reducible apply AllLt.drew) | (with_reducible exact AllLt.nil _)))) hb; have hq := HL; simp only [AllLt, and_true, World.size_alloc, World.size_setCell, World.size_drew] at hq; have hbs := hb.size; try simp only [World.size_alloc, World.size_setCell, World.size_drew] at hbs)
  all_goals (go_ret; exact ⟨by first | rfl | simp | decide, by (repeat' (first | (with_reducible exact Below.refl _ _) | (with_reducible assumption) | (with_reducible refine Below.alloc ?_ ?_ _) | (with_reducible refine Below.drew ?_) | (with_reducible refine Below.setCell ?_ ?_ _) | (with_reducible refine Below.trans ?_ (Below.mono (by assumption) ?_)) | (with_reducible exact Nat.le_refl _) | omega | (simp only [World.size_alloc, World.size_setCell, World.size_drew]; omega) | (simp; omega) | (simp; done)))⟩)
theorem areNil_s (w : World) : Calls Try.prog 80 #[.slice Option.none 0 0] w fun e w' => e = .returned (.bool true) ∧ Below w.heap.size w w' := by
  go_enter Try.func80, Try.ntmps80
  go_wp2_with fail
  go_loopw [7] (fun i wr => i = .int .i64 0 ∧ Below w.heap.size w wr) (fun _ _ => 0)
  case atStart => exact ⟨rfl, by (repeat' (first | (with_reducible exact Below.refl _ _) | (with_reducible assumption) | (with_reducible refine Below.alloc ?_ ?_ _) | (with_reducible refine Below.drew ?_) | (with_reducible refine Below.setCell ?_ ?_ _) | (with_reducible refine Below.trans ?_ (Below.mono (by assumption) ?_)) | (with_reducible exact Nat.le_refl _) | omega | (simp only [World.size_alloc, World.size_setCell, World.size_drew]; omega) | (simp; omega) | (simp; done)))⟩
  case round =>
    obtain ⟨rfl, hb⟩ := hrel
    go_wp2
    go_ret
    exact ⟨rfl, hb⟩
theorem share0s (w : World) : Calls Try.prog 113 #[.float .f32 0] w fun e w' => e = .returned (.bool true) ∧ Below w.heap.size w w' := by
  have h := l2Part_s 0 (by omega) w
  rwa [share0] at h
set_option maxHeartbeats 16000000 in
theorem tumNil_s (k : Int) (w : World) : Calls Try.prog 81 #[.agg #[.int .i64 k, .complex .f32 0 0, .float .f32 0, .slice Option.none 0 0]] w fun e w' => e = .returned (.bool (lieB k 0 3)) ∧ Below w.heap.size w w' := by
  have YK := fun w => l1In_s k 0 3 w
  generalize lieB k 0 3 = q at *
  have HK := Lib.hid YK
  clear YK
  go_enter Try.func81, Try.ntmps81
  go_wp2_with fail
  generalize hX : w.alloc (.cells #[.int .i64 k, .complex .f32 0 0, .float .f32 0, .slice Option.none 0 0] 52) = X
  have M0 : Hid (Blk X w.heap.size #[.int .i64 k, .complex .f32 0 0, .float .f32 0, .slice Option.none 0 0] 52) := by rw [← hX]; exact Blk.new _ _ _
  have G0 : Hid (Below w.heap.size w X) := by rw [← hX]; show Below w.heap.size w _; (repeat' (first | (with_reducible exact Below.refl _ _) | (with_reducible assumption) | (with_reducible refine Below.alloc ?_ ?_ _) | (with_reducible refine Below.drew ?_) | (with_reducible refine Below.setCell ?_ ?_ _) | (with_reducible refine Below.trans ?_ (Below.mono (by assumption) ?_)) | (with_reducible exact Nat.le_refl _) | omega | (simp only [World.size_alloc, World.size_setCell, World.size_drew]; omega) | (simp; omega) | (simp; done)))
  clear hX
  refine (HK.out _).mono ?_
  rintro e w1 ⟨rfl, hb⟩
  have M1 := Lib.hid (M0.out.below hb)
  have G1 : Hid (Below w.heap.size w w1) := G0.out.trans (hb.mono G0.out.size)
  clear hb M0 G0 HK
  cases q
  · go_wp2
    go_ret
    exact ⟨rfl, G1.out⟩
  · (have m0 := Blk.cellAt (i := 0) M1.out rfl; have m1 := Blk.cellAt (i := 1) M1.out rfl; have m2 := Blk.cellAt (i := 2) M1.out rfl; have m3 := Blk.cellAt (i := 3) M1.out rfl; simp only [List.getElem_toArray, List.getElem_cons_zero, List.getElem_cons_succ] at m0 m1 m2 m3)
    have l1 := M1.out.lt
    go_wp2_with fail
    refine (pt00_s _).mono ?_
    rintro e w2 ⟨rfl, hb⟩
    have M2 := Lib.hid (M1.out.below hb)
    have G2 : Hid (Below w.heap.size w w2) := G1.out.trans (hb.mono G1.out.size)
    clear hb M1 G1 m0 m1 m2 m3 l1
    (have m0 := Blk.cellAt (i := 0) M2.out rfl; have m1 := Blk.cellAt (i := 1) M2.out rfl; have m2 := Blk.cellAt (i := 2) M2.out rfl; have m3 := Blk.cellAt (i := 3) M2.out rfl; simp only [List.getElem_toArray, List.getElem_cons_zero, List.getElem_cons_succ] at m0 m1 m2 m3)
    have l1 := M2.out.lt
    go_wp2_with fail
    refine (share0s _).mono ?_
    rintro e w3 ⟨rfl, hb⟩
    have M3 := Lib.hid (M2.out.below hb)
    have G3 : Hid (Below w.heap.size w w3) := G2.out.trans (hb.mono G2.out.size)
    clear hb M2 G2 m0 m1 m2 m3 l1
    (have m0 := Blk.cellAt (i := 0) M3.out rfl; have m1 := Blk.cellAt (i := 1) M3.out rfl; have m2 := Blk.cellAt (i := 2) M3.out rfl; have m3 := Blk.cellAt (i := 3) M3.out rfl; simp only [List.getElem_toArray, List.getElem_cons_zero, List.getElem_cons_succ] at m0 m1 m2 m3)
    have l1 := M3.out.lt
    go_wp2_with fail
    go_loopw [30] (fun i wr => i = .int .i64 0 ∧ Below w.heap.size w wr) (fun _ _ => 0)
    case atStart => exact ⟨rfl, G3.out⟩
    case round =>
      obtain ⟨rfl, hb⟩ := hrel
      go_wp2
      go_ret
      exact ⟨rfl, hb⟩
def bareSq (k n : Int) (t r g b : Nat) : Bool := lieB n 1 8 && decide (rungOf F32 t < F32.infRung) && !(FloatKind.f32.format.order t 0 == some .lt) && !(FloatKind.f32.format.order t 0 == some .eq) && !(FloatKind.f32.format.order t 1132462080 == some .gt) && colB r g b && lieB k 0 3
set_option maxHeartbeats 32000000 in
theorem bareIs_s {k n : Int} {t r g b : Nat} (hr : r < 4294967296) (hg : g < 4294967296) (hb : b < 4294967296) : BareIs 44 k n t r g b (bareSq k n t r g b) := ⟨fun w => by
  have H1 : Hid (∀ w : World, Calls Try.prog 75 #[.int .i64 n, .int .i64 1, .int .i64 8] w fun e w' => e = .returned (.bool (lieB n 1 8)) ∧ Below w.heap.size w w') := fun w => l1In_s n 1 8 w
  have H2 : Hid (∀ w : World, Calls Try.prog 79 #[.float .f32 t] w fun e w' => e = .returned (.bool (decide (rungOf F32 t < F32.infRung))) ∧ Below w.heap.size w w') := fun w => l1Single_s t w
  have H3 : Hid (∀ w : World, Calls Try.prog 76 #[.agg #[.float .f32 r, .float .f32 g, .float .f32 b]] w fun e w' => e = .returned (.bool (colB r g b)) ∧ Below w.heap.size w w') := fun w => isColour_s r g b hr hg hb w
  have H5 : Hid (∀ w : World, Calls Try.prog 81 #[.agg #[.int .i64 k, .complex .f32 0 0, .float .f32 0, .slice Option.none 0 0]] w fun e w' => e = .returned (.bool (lieB k 0 3)) ∧ Below w.heap.size w w') := fun w => tumNil_s k w
  have H6 : Hid (∀ w : World, Calls Try.prog 75 #[.int .i64 0, .int .i64 0, .int .i64 200] w fun e w' => e = .returned (.bool true) ∧ Below w.heap.size w w') := fun w => by
    have h := l1In_s 0 0 200 w
    rwa [lieB_yes (by omega) (by omega)] at h
  unfold bareSq
  clear hr hg hb
  generalize lieB n 1 8 = q1 at *
  generalize decide (rungOf F32 t < F32.infRung) = q2 at *
  generalize colB r g b = q3 at *
  generalize lieB k 0 3 = q4 at *
  obtain ⟨c0, s0⟩ : ∃ c, (FloatKind.f32.format.order t 0 == some .lt) = c := ⟨_, rfl⟩
  obtain ⟨c1, s1⟩ : ∃ c, (FloatKind.f32.format.order t 0 == some .eq) = c := ⟨_, rfl⟩
  obtain ⟨c2, s2⟩ : ∃ c, (FloatKind.f32.format.order t 1132462080 == some .gt) = c := ⟨_, rfl⟩
  rw [s0, s1, s2]
  go_enter Try.func44, Try.ntmps44
  go_wp2_with fail
  generalize hX : w.alloc (.cells #[.int .i64 n, .float .f32 t, .float .f32 r, .float .f32 g, .float .f32 b, .slice Option.none 0 0, .int .i64 k, .complex .f32 0 0, .float .f32 0, .slice Option.none 0 0, .int .i64 0, .slice Option.none 0 0] 55) = X
  have M0 : Hid (Blk X w.heap.size #[.int .i64 n, .float .f32 t, .float .f32 r, .float .f32 g, .float .f32 b, .slice Option.none 0 0, .int .i64 k, .complex .f32 0 0, .float .f32 0, .slice Option.none 0 0, .int .i64 0, .slice Option.none 0 0] 55) := by rw [← hX]; exact Blk.new _ _ _
  have G0 : Hid (Below w.heap.size w X) := by rw [← hX]; show Below w.heap.size w _; (repeat' (first | (with_reducible exact Below.refl _ _) | (with_reducible assumption) | (with_reducible refine Below.alloc ?_ ?_ _) | (with_reducible refine Below.drew ?_) | (with_reducible refine Below.setCell ?_ ?_ _) | (with_reducible refine Below.trans ?_ (Below.mono (by assumption) ?_)) | (with_reducible exact Nat.le_refl _) | omega | (simp only [World.size_alloc, World.size_setCell, World.size_drew]; omega) | (simp; omega) | (simp; done)))
  clear hX
  refine (H1.out _).mono ?_
  rintro e w1 ⟨rfl, hb⟩
  have M1 := Lib.hid (M0.out.below hb)
  have G1 : Hid (Below w.heap.size w w1) := G0.out.trans (hb.mono G0.out.size)
  clear hb M0 G0 H1
  cases q1
  · go_wp2
    go_ret
    exact ⟨rfl, G1.out⟩
  (have p0 := Blk.cellAt (i := 0) M1.out rfl; have p1 := Blk.cellAt (i := 1) M1.out rfl; have p2 := Blk.cellAt (i := 2) M1.out rfl; have p3 := Blk.cellAt (i := 3) M1.out rfl; have p4 := Blk.cellAt (i := 4) M1.out rfl; have p5 := Blk.cellAt (i := 5) M1.out rfl; have p6 := Blk.cellAt (i := 6) M1.out rfl; have p7 := Blk.cellAt (i := 7) M1.out rfl; have p8 := Blk.cellAt (i := 8) M1.out rfl; have p9 := Blk.cellAt (i := 9) M1.out rfl; have p10 := Blk.cellAt (i := 10) M1.out rfl; have p11 := Blk.cellAt (i := 11) M1.out rfl; simp only [List.getElem_toArray, List.getElem_cons_zero, List.getElem_cons_succ] at p0 p1 p2 p3 p4 p5 p6 p7 p8 p9 p10 p11)
  have l1 := M1.out.lt
  go_wp2_with fail
  refine (H2.out _).mono ?_
  rintro e w2 ⟨rfl, hb⟩
  have M2 := Lib.hid (M1.out.below hb)
  have G2 : Hid (Below w.heap.size w w2) := G1.out.trans (hb.mono G1.out.size)
  clear hb M1 G1 H2 p0 p1 p2 p3 p4 p5 p6 p7 p8 p9 p10 p11 l1
  cases q2
  · go_wp2
    go_ret
    exact ⟨rfl, G2.out⟩
  cases c0
  rotate_left
  · (have p0 := Blk.cellAt (i := 0) M2.out rfl; have p1 := Blk.cellAt (i := 1) M2.out rfl; have p2 := Blk.cellAt (i := 2) M2.out rfl; have p3 := Blk.cellAt (i := 3) M2.out rfl; have p4 := Blk.cellAt (i := 4) M2.out rfl; have p5 := Blk.cellAt (i := 5) M2.out rfl; have p6 := Blk.cellAt (i := 6) M2.out rfl; have p7 := Blk.cellAt (i := 7) M2.out rfl; have p8 := Blk.cellAt (i := 8) M2.out rfl; have p9 := Blk.cellAt (i := 9) M2.out rfl; have p10 := Blk.cellAt (i := 10) M2.out rfl; have p11 := Blk.cellAt (i := 11) M2.out rfl; simp only [List.getElem_toArray, List.getElem_cons_zero, List.getElem_cons_succ] at p0 p1 p2 p3 p4 p5 p6 p7 p8 p9 p10 p11)
    have l1 := M2.out.lt
    go_wp2
    go_ret
    exact ⟨rfl, G2.out⟩
  cases c1
  rotate_left
  · (have p0 := Blk.cellAt (i := 0) M2.out rfl; have p1 := Blk.cellAt (i := 1) M2.out rfl; have p2 := Blk.cellAt (i := 2) M2.out rfl; have p3 := Blk.cellAt (i := 3) M2.out rfl; have p4 := Blk.cellAt (i := 4) M2.out rfl; have p5 := Blk.cellAt (i := 5) M2.out rfl; have p6 := Blk.cellAt (i := 6) M2.out rfl; have p7 := Blk.cellAt (i := 7) M2.out rfl; have p8 := Blk.cellAt (i := 8) M2.out rfl; have p9 := Blk.cellAt (i := 9) M2.out rfl; have p10 := Blk.cellAt (i := 10) M2.out rfl; have p11 := Blk.cellAt (i := 11) M2.out rfl; simp only [List.getElem_toArray, List.getElem_cons_zero, List.getElem_cons_succ] at p0 p1 p2 p3 p4 p5 p6 p7 p8 p9 p10 p11)
    have l1 := M2.out.lt
    go_wp2
    go_ret
    exact ⟨rfl, G2.out⟩
  cases c2
  rotate_left
  · (have p0 := Blk.cellAt (i := 0) M2.out rfl; have p1 := Blk.cellAt (i := 1) M2.out rfl; have p2 := Blk.cellAt (i := 2) M2.out rfl; have p3 := Blk.cellAt (i := 3) M2.out rfl; have p4 := Blk.cellAt (i := 4) M2.out rfl; have p5 := Blk.cellAt (i := 5) M2.out rfl; have p6 := Blk.cellAt (i := 6) M2.out rfl; have p7 := Blk.cellAt (i := 7) M2.out rfl; have p8 := Blk.cellAt (i := 8) M2.out rfl; have p9 := Blk.cellAt (i := 9) M2.out rfl; have p10 := Blk.cellAt (i := 10) M2.out rfl; have p11 := Blk.cellAt (i := 11) M2.out rfl; simp only [List.getElem_toArray, List.getElem_cons_zero, List.getElem_cons_succ] at p0 p1 p2 p3 p4 p5 p6 p7 p8 p9 p10 p11)
    have l1 := M2.out.lt
    go_wp2
    go_ret
    exact ⟨rfl, G2.out⟩
  (have p0 := Blk.cellAt (i := 0) M2.out rfl; have p1 := Blk.cellAt (i := 1) M2.out rfl; have p2 := Blk.cellAt (i := 2) M2.out rfl; have p3 := Blk.cellAt (i := 3) M2.out rfl; have p4 := Blk.cellAt (i := 4) M2.out rfl; have p5 := Blk.cellAt (i := 5) M2.out rfl; have p6 := Blk.cellAt (i := 6) M2.out rfl; have p7 := Blk.cellAt (i := 7) M2.out rfl; have p8 := Blk.cellAt (i := 8) M2.out rfl; have p9 := Blk.cellAt (i := 9) M2.out rfl; have p10 := Blk.cellAt (i := 10) M2.out rfl; have p11 := Blk.cellAt (i := 11) M2.out rfl; simp only [List.getElem_toArray, List.getElem_cons_zero, List.getElem_cons_succ] at p0 p1 p2 p3 p4 p5 p6 p7 p8 p9 p10 p11)
  have l1 := M2.out.lt
  go_wp2_with fail
  refine (H3.out _).mono ?_
  rintro e w3 ⟨rfl, hb⟩
  have M3 := Lib.hid (M2.out.below hb)
  have G3 : Hid (Below w.heap.size w w3) := G2.out.trans (hb.mono G2.out.size)
  clear hb M2 G2 H3 p0 p1 p2 p3 p4 p5 p6 p7 p8 p9 p10 p11 l1 s0 s1 s2
  cases q3
  · go_wp2
    go_ret
    exact ⟨rfl, G3.out⟩
  (have p0 := Blk.cellAt (i := 0) M3.out rfl; have p1 := Blk.cellAt (i := 1) M3.out rfl; have p2 := Blk.cellAt (i := 2) M3.out rfl; have p3 := Blk.cellAt (i := 3) M3.out rfl; have p4 := Blk.cellAt (i := 4) M3.out rfl; have p5 := Blk.cellAt (i := 5) M3.out rfl; have p6 := Blk.cellAt (i := 6) M3.out rfl; have p7 := Blk.cellAt (i := 7) M3.out rfl; have p8 := Blk.cellAt (i := 8) M3.out rfl; have p9 := Blk.cellAt (i := 9) M3.out rfl; have p10 := Blk.cellAt (i := 10) M3.out rfl; have p11 := Blk.cellAt (i := 11) M3.out rfl; simp only [List.getElem_toArray, List.getElem_cons_zero, List.getElem_cons_succ] at p0 p1 p2 p3 p4 p5 p6 p7 p8 p9 p10 p11)
  have l1 := M3.out.lt
  go_wp2_with fail
  refine (areNil_s _).mono ?_
  rintro e w4 ⟨rfl, hb⟩
  have M4 := Lib.hid (M3.out.below hb)
  have G4 : Hid (Below w.heap.size w w4) := G3.out.trans (hb.mono G3.out.size)
  clear hb M3 G3 p0 p1 p2 p3 p4 p5 p6 p7 p8 p9 p10 p11 l1
  (have p0 := Blk.cellAt (i := 0) M4.out rfl; have p1 := Blk.cellAt (i := 1) M4.out rfl; have p2 := Blk.cellAt (i := 2) M4.out rfl; have p3 := Blk.cellAt (i := 3) M4.out rfl; have p4 := Blk.cellAt (i := 4) M4.out rfl; have p5 := Blk.cellAt (i := 5) M4.out rfl; have p6 := Blk.cellAt (i := 6) M4.out rfl; have p7 := Blk.cellAt (i := 7) M4.out rfl; have p8 := Blk.cellAt (i := 8) M4.out rfl; have p9 := Blk.cellAt (i := 9) M4.out rfl; have p10 := Blk.cellAt (i := 10) M4.out rfl; have p11 := Blk.cellAt (i := 11) M4.out rfl; simp only [List.getElem_toArray, List.getElem_cons_zero, List.getElem_cons_succ] at p0 p1 p2 p3 p4 p5 p6 p7 p8 p9 p10 p11)
  have l1 := M4.out.lt
  go_wp2_with fail
  refine (H5.out _).mono ?_
  rintro e w5 ⟨rfl, hb⟩
  have M5 := Lib.hid (M4.out.below hb)
  have G5 : Hid (Below w.heap.size w w5) := G4.out.trans (hb.mono G4.out.size)
  clear hb M4 G4 H5 p0 p1 p2 p3 p4 p5 p6 p7 p8 p9 p10 p11 l1
  cases q4
  · go_wp2
    go_ret
    exact ⟨rfl, G5.out⟩
  (have p0 := Blk.cellAt (i := 0) M5.out rfl; have p1 := Blk.cellAt (i := 1) M5.out rfl; have p2 := Blk.cellAt (i := 2) M5.out rfl; have p3 := Blk.cellAt (i := 3) M5.out rfl; have p4 := Blk.cellAt (i := 4) M5.out rfl; have p5 := Blk.cellAt (i := 5) M5.out rfl; have p6 := Blk.cellAt (i := 6) M5.out rfl; have p7 := Blk.cellAt (i := 7) M5.out rfl; have p8 := Blk.cellAt (i := 8) M5.out rfl; have p9 := Blk.cellAt (i := 9) M5.out rfl; have p10 := Blk.cellAt (i := 10) M5.out rfl; have p11 := Blk.cellAt (i := 11) M5.out rfl; simp only [List.getElem_toArray, List.getElem_cons_zero, List.getElem_cons_succ] at p0 p1 p2 p3 p4 p5 p6 p7 p8 p9 p10 p11)
  have l1 := M5.out.lt
  go_wp2_with fail
  refine (H6.out _).mono ?_
  rintro e w6 ⟨rfl, hb⟩
  have M6 := Lib.hid (M5.out.below hb)
  have G6 : Hid (Below w.heap.size w w6) := G5.out.trans (hb.mono G5.out.size)
  clear hb M5 G5 H6 p0 p1 p2 p3 p4 p5 p6 p7 p8 p9 p10 p11 l1
  (have p0 := Blk.cellAt (i := 0) M6.out rfl; have p1 := Blk.cellAt (i := 1) M6.out rfl; have p2 := Blk.cellAt (i := 2) M6.out rfl; have p3 := Blk.cellAt (i := 3) M6.out rfl; have p4 := Blk.cellAt (i := 4) M6.out rfl; have p5 := Blk.cellAt (i := 5) M6.out rfl; have p6 := Blk.cellAt (i := 6) M6.out rfl; have p7 := Blk.cellAt (i := 7) M6.out rfl; have p8 := Blk.cellAt (i := 8) M6.out rfl; have p9 := Blk.cellAt (i := 9) M6.out rfl; have p10 := Blk.cellAt (i := 10) M6.out rfl; have p11 := Blk.cellAt (i := 11) M6.out rfl; simp only [List.getElem_toArray, List.getElem_cons_zero, List.getElem_cons_succ] at p0 p1 p2 p3 p4 p5 p6 p7 p8 p9 p10 p11)
  have l1 := M6.out.lt
  go_wp2_with fail
  go_loopw [62] (fun i wr => i = .int .i64 0 ∧ Blk wr w.heap.size #[.int .i64 n, .float .f32 t, .float .f32 r, .float .f32 g, .float .f32 b, .slice Option.none 0 0, .int .i64 k, .complex .f32 0 0, .float .f32 0, .slice Option.none 0 0, .int .i64 0, .slice Option.none 0 0] 55 ∧ Below w.heap.size w wr) (fun _ _ => 0)
  case atStart => exact ⟨rfl, M6.out, G6.out⟩
  case round =>
    obtain ⟨rfl, hM, hb⟩ := hrel
    clear p0 p1 p2 p3 p4 p5 p6 p7 p8 p9 p10 p11 l1
    (have p0 := Blk.cellAt (i := 0) hM rfl; have p1 := Blk.cellAt (i := 1) hM rfl; have p2 := Blk.cellAt (i := 2) hM rfl; have p3 := Blk.cellAt (i := 3) hM rfl; have p4 := Blk.cellAt (i := 4) hM rfl; have p5 := Blk.cellAt (i := 5) hM rfl; have p6 := Blk.cellAt (i := 6) hM rfl; have p7 := Blk.cellAt (i := 7) hM rfl; have p8 := Blk.cellAt (i := 8) hM rfl; have p9 := Blk.cellAt (i := 9) hM rfl; have p10 := Blk.cellAt (i := 10) hM rfl; have p11 := Blk.cellAt (i := 11) hM rfl; simp only [List.getElem_toArray, List.getElem_cons_zero, List.getElem_cons_succ] at p0 p1 p2 p3 p4 p5 p6 p7 p8 p9 p10 p11)
    have l1 := hM.lt
    clear hM
    go_wp2
    go_ret
    exact ⟨rfl, hb⟩⟩
end Go.Proofs.Ytfdgijmmgllmgaa
