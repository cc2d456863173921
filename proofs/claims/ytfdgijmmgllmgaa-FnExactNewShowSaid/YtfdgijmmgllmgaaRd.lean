/-
  The laws' equality, mark and held of bare shows.
-/
import Derived.Test.YtfdgijmmgllmgaaRc
namespace Go.Proofs.Ytfdgijmmgllmgaa
open Go.ChangeShapes Go.WideShapes Go.ChangeAt Go.RowKit Go.Joins
set_option linter.unusedSimpArgs false
set_option linter.unusedVariables false
set_option maxRecDepth 100000
attribute [local go_sem] store_f
open Ieee Go.Lib

theorem sameC0 (w : World) : Calls Try.prog 88 #[.complex .f64 0 0, .complex .f64 0 0] w fun e w' => e = .returned (.bool true) ∧ w' = w := by
  go_enter Try.func88, Try.ntmps88
  go_wp2_with (go_at_call 46; refine (sameFloat_zero _).mono ?_; rintro e w1 ⟨rfl, rfl⟩)
  go_ret
  exact ⟨rfl, rfl⟩
set_option maxHeartbeats 8000000 in
theorem eqT_i (k : Int) (w : World) : Calls Try.prog 49 #[.agg #[.int .i64 k, .complex .f32 0 0, .float .f32 0, .slice Option.none 0 0], .agg #[.int .i64 k, .complex .f32 0 0, .float .f32 0, .slice Option.none 0 0]] w fun e w' => e = .returned (.bool true) ∧ Below w.heap.size w w' := by
  have hcv := fun w => run_convert_complex (P := Try.prog) w 49 127 .f32 .f64 0 0 0 0 (by rw [Try.underlying49]; rfl) Try.underlying127 (by kernel_rfl)
  have hff := fun w => run_convert_float_float (P := Try.prog) w 30 83 .f32 .f64 0 0 (by rw [Try.underlying30]; rfl) Try.underlying83 (by kernel_rfl)
  go_enter Try.func49, Try.ntmps49
  go_wp2_with (first | simp only [hcv] | simp only [hff] | (go_at_call 88; refine (sameC0 _).mono ?_; rintro e w1 ⟨rfl, rfl⟩) | (go_at_call 46; refine (sameFloat_zero _).mono ?_; rintro e w1 ⟨rfl, rfl⟩))
  generalize hX : (w.alloc (.cells #[.int .i64 k, .complex .f32 0 0, .float .f32 0, .slice Option.none 0 0] 52)).alloc (.cells #[.int .i64 k, .complex .f32 0 0, .float .f32 0, .slice Option.none 0 0] 52) = X
  have G0 : Hid (Below w.heap.size w X) := by rw [← hX]; show Below w.heap.size w _; (repeat' (first | (with_reducible exact Below.refl _ _) | (with_reducible assumption) | (with_reducible refine Below.alloc ?_ ?_ _) | (with_reducible refine Below.drew ?_) | (with_reducible refine Below.setCell ?_ ?_ _) | (with_reducible refine Below.trans ?_ (Below.mono (by assumption) ?_)) | (with_reducible exact Nat.le_refl _) | omega | (simp only [World.size_alloc, World.size_setCell, World.size_drew]; omega) | (simp; omega) | (simp; done)))
  clear hX hcv hff
  refine (nil2_Bead.call _).mono ?_
  rintro e w1 ⟨rfl, hb⟩
  have G1 : Hid (Below w.heap.size w w1) := G0.out.trans (hb.mono G0.out.size)
  clear hb G0
  go_wp2
  go_ret
  exact ⟨rfl, G1.out⟩
theorem markT_i (k : Int) (w : World) : Calls Try.prog 52 #[.agg #[.int .i64 k, .complex .f32 0 0, .float .f32 0, .slice Option.none 0 0], .int .i64 1] w fun e w' => e = .returned (.int .i64 1) ∧ Below w.heap.size w w' := by
  go_enter Try.func52, Try.ntmps52
  go_wp2_with fail
  generalize hX : w.alloc (.cells #[.int .i64 k, .complex .f32 0 0, .float .f32 0, .slice Option.none 0 0] 52) = X
  have G0 : Hid (Below w.heap.size w X) := by rw [← hX]; show Below w.heap.size w _; (repeat' (first | (with_reducible exact Below.refl _ _) | (with_reducible assumption) | (with_reducible refine Below.alloc ?_ ?_ _) | (with_reducible refine Below.drew ?_) | (with_reducible refine Below.setCell ?_ ?_ _) | (with_reducible refine Below.trans ?_ (Below.mono (by assumption) ?_)) | (with_reducible exact Nat.le_refl _) | omega | (simp only [World.size_alloc, World.size_setCell, World.size_drew]; omega) | (simp; omega) | (simp; done)))
  clear hX
  refine ((mark_Bead 1).call _).mono ?_
  rintro e w1 ⟨rfl, hb⟩
  have G1 : Hid (Below w.heap.size w w1) := G0.out.trans (hb.mono G0.out.size)
  clear hb G0
  go_wp2
  go_ret
  exact ⟨rfl, G1.out⟩
theorem heldT_i (k : Int) (w : World) : Calls Try.prog 55 #[.agg #[.int .i64 k, .complex .f32 0 0, .float .f32 0, .slice Option.none 0 0], .int .i64 1] w fun e w' => e = .returned (.int .i64 1) ∧ Below w.heap.size w w' := by
  go_enter Try.func55, Try.ntmps55
  go_wp2_with fail
  generalize hX : w.alloc (.cells #[.int .i64 k, .complex .f32 0 0, .float .f32 0, .slice Option.none 0 0] 52) = X
  have G0 : Hid (Below w.heap.size w X) := by rw [← hX]; show Below w.heap.size w _; (repeat' (first | (with_reducible exact Below.refl _ _) | (with_reducible assumption) | (with_reducible refine Below.alloc ?_ ?_ _) | (with_reducible refine Below.drew ?_) | (with_reducible refine Below.setCell ?_ ?_ _) | (with_reducible refine Below.trans ?_ (Below.mono (by assumption) ?_)) | (with_reducible exact Nat.le_refl _) | omega | (simp only [World.size_alloc, World.size_setCell, World.size_drew]; omega) | (simp; omega) | (simp; done)))
  clear hX
  refine ((held_Bead 1).call _).mono ?_
  rintro e w1 ⟨rfl, hb⟩
  have G1 : Hid (Below w.heap.size w w1) := G0.out.trans (hb.mono G0.out.size)
  clear hb G0
  go_wp2
  go_ret
  exact ⟨rfl, G1.out⟩
set_option maxHeartbeats 8000000 in
theorem markShow_i (k n : Int) (t r g b : Nat) (w : World) : Calls Try.prog 24 #[.agg #[.int .i64 n, .float .f32 t, .float .f32 r, .float .f32 g, .float .f32 b, .slice Option.none 0 0, .int .i64 k, .complex .f32 0 0, .float .f32 0, .slice Option.none 0 0, .int .i64 0, .slice Option.none 0 0], .int .i64 1] w fun e w' => e = .returned (.int .i64 1) ∧ Below w.heap.size w w' := by
  go_enter Try.func24, Try.ntmps24
  go_wp2_with fail
  generalize hX : w.alloc (.cells #[.int .i64 n, .float .f32 t, .float .f32 r, .float .f32 g, .float .f32 b, .slice Option.none 0 0, .int .i64 k, .complex .f32 0 0, .float .f32 0, .slice Option.none 0 0, .int .i64 0, .slice Option.none 0 0] 55) = X
  have M0 : Hid (Blk X w.heap.size #[.int .i64 n, .float .f32 t, .float .f32 r, .float .f32 g, .float .f32 b, .slice Option.none 0 0, .int .i64 k, .complex .f32 0 0, .float .f32 0, .slice Option.none 0 0, .int .i64 0, .slice Option.none 0 0] 55) := by rw [← hX]; exact Blk.new _ _ _
  have G0 : Hid (Below w.heap.size w X) := by rw [← hX]; show Below w.heap.size w _; (repeat' (first | (with_reducible exact Below.refl _ _) | (with_reducible assumption) | (with_reducible refine Below.alloc ?_ ?_ _) | (with_reducible refine Below.drew ?_) | (with_reducible refine Below.setCell ?_ ?_ _) | (with_reducible refine Below.trans ?_ (Below.mono (by assumption) ?_)) | (with_reducible exact Nat.le_refl _) | omega | (simp only [World.size_alloc, World.size_setCell, World.size_drew]; omega) | (simp; omega) | (simp; done)))
  clear hX
  refine ((mark_Shard 1).call _).mono ?_
  rintro e w1 ⟨rfl, hb⟩
  have M1 := Lib.hid (M0.out.below hb)
  have G1 : Hid (Below w.heap.size w w1) := G0.out.trans (hb.mono G0.out.size)
  clear hb M0 G0
  (have p0 := Blk.cellAt (i := 0) M1.out rfl; have p1 := Blk.cellAt (i := 1) M1.out rfl; have p2 := Blk.cellAt (i := 2) M1.out rfl; have p3 := Blk.cellAt (i := 3) M1.out rfl; have p4 := Blk.cellAt (i := 4) M1.out rfl; have p5 := Blk.cellAt (i := 5) M1.out rfl; have p6 := Blk.cellAt (i := 6) M1.out rfl; have p7 := Blk.cellAt (i := 7) M1.out rfl; have p8 := Blk.cellAt (i := 8) M1.out rfl; have p9 := Blk.cellAt (i := 9) M1.out rfl; have p10 := Blk.cellAt (i := 10) M1.out rfl; have p11 := Blk.cellAt (i := 11) M1.out rfl; simp only [List.getElem_toArray, List.getElem_cons_zero, List.getElem_cons_succ] at p0 p1 p2 p3 p4 p5 p6 p7 p8 p9 p10 p11)
  have l1 := M1.out.lt
  go_wp2_with fail
  refine (markT_i k _).mono ?_
  rintro e w2 ⟨rfl, hb⟩
  have M2 := Lib.hid (M1.out.below hb)
  have G2 : Hid (Below w.heap.size w w2) := G1.out.trans (hb.mono G1.out.size)
  clear hb M1 G1 p0 p1 p2 p3 p4 p5 p6 p7 p8 p9 p10 p11 l1
  (have p0 := Blk.cellAt (i := 0) M2.out rfl; have p1 := Blk.cellAt (i := 1) M2.out rfl; have p2 := Blk.cellAt (i := 2) M2.out rfl; have p3 := Blk.cellAt (i := 3) M2.out rfl; have p4 := Blk.cellAt (i := 4) M2.out rfl; have p5 := Blk.cellAt (i := 5) M2.out rfl; have p6 := Blk.cellAt (i := 6) M2.out rfl; have p7 := Blk.cellAt (i := 7) M2.out rfl; have p8 := Blk.cellAt (i := 8) M2.out rfl; have p9 := Blk.cellAt (i := 9) M2.out rfl; have p10 := Blk.cellAt (i := 10) M2.out rfl; have p11 := Blk.cellAt (i := 11) M2.out rfl; simp only [List.getElem_toArray, List.getElem_cons_zero, List.getElem_cons_succ] at p0 p1 p2 p3 p4 p5 p6 p7 p8 p9 p10 p11)
  have l1 := M2.out.lt
  go_wp2_with fail
  refine ((mark_Event 1).call _).mono ?_
  rintro e w3 ⟨rfl, hb⟩
  have M3 := Lib.hid (M2.out.below hb)
  have G3 : Hid (Below w.heap.size w w3) := G2.out.trans (hb.mono G2.out.size)
  clear hb M2 G2 p0 p1 p2 p3 p4 p5 p6 p7 p8 p9 p10 p11 l1
  go_wp2
  go_ret
  exact ⟨rfl, G3.out⟩
set_option maxHeartbeats 8000000 in
theorem heldShow_i (k n : Int) (t r g b : Nat) (w : World) : Calls Try.prog 25 #[.agg #[.int .i64 n, .float .f32 t, .float .f32 r, .float .f32 g, .float .f32 b, .slice Option.none 0 0, .int .i64 k, .complex .f32 0 0, .float .f32 0, .slice Option.none 0 0, .int .i64 0, .slice Option.none 0 0], .int .i64 1] w fun e w' => e = .returned (.int .i64 1) ∧ Below w.heap.size w w' := by
  go_enter Try.func25, Try.ntmps25
  go_wp2_with fail
  generalize hX : w.alloc (.cells #[.int .i64 n, .float .f32 t, .float .f32 r, .float .f32 g, .float .f32 b, .slice Option.none 0 0, .int .i64 k, .complex .f32 0 0, .float .f32 0, .slice Option.none 0 0, .int .i64 0, .slice Option.none 0 0] 55) = X
  have M0 : Hid (Blk X w.heap.size #[.int .i64 n, .float .f32 t, .float .f32 r, .float .f32 g, .float .f32 b, .slice Option.none 0 0, .int .i64 k, .complex .f32 0 0, .float .f32 0, .slice Option.none 0 0, .int .i64 0, .slice Option.none 0 0] 55) := by rw [← hX]; exact Blk.new _ _ _
  have G0 : Hid (Below w.heap.size w X) := by rw [← hX]; show Below w.heap.size w _; (repeat' (first | (with_reducible exact Below.refl _ _) | (with_reducible assumption) | (with_reducible refine Below.alloc ?_ ?_ _) | (with_reducible refine Below.drew ?_) | (with_reducible refine Below.setCell ?_ ?_ _) | (with_reducible refine Below.trans ?_ (Below.mono (by assumption) ?_)) | (with_reducible exact Nat.le_refl _) | omega | (simp only [World.size_alloc, World.size_setCell, World.size_drew]; omega) | (simp; omega) | (simp; done)))
  clear hX
  refine ((held_Shard 1).call _).mono ?_
  rintro e w1 ⟨rfl, hb⟩
  have M1 := Lib.hid (M0.out.below hb)
  have G1 : Hid (Below w.heap.size w w1) := G0.out.trans (hb.mono G0.out.size)
  clear hb M0 G0
  (have p0 := Blk.cellAt (i := 0) M1.out rfl; have p1 := Blk.cellAt (i := 1) M1.out rfl; have p2 := Blk.cellAt (i := 2) M1.out rfl; have p3 := Blk.cellAt (i := 3) M1.out rfl; have p4 := Blk.cellAt (i := 4) M1.out rfl; have p5 := Blk.cellAt (i := 5) M1.out rfl; have p6 := Blk.cellAt (i := 6) M1.out rfl; have p7 := Blk.cellAt (i := 7) M1.out rfl; have p8 := Blk.cellAt (i := 8) M1.out rfl; have p9 := Blk.cellAt (i := 9) M1.out rfl; have p10 := Blk.cellAt (i := 10) M1.out rfl; have p11 := Blk.cellAt (i := 11) M1.out rfl; simp only [List.getElem_toArray, List.getElem_cons_zero, List.getElem_cons_succ] at p0 p1 p2 p3 p4 p5 p6 p7 p8 p9 p10 p11)
  have l1 := M1.out.lt
  go_wp2_with fail
  refine (heldT_i k _).mono ?_
  rintro e w2 ⟨rfl, hb⟩
  have M2 := Lib.hid (M1.out.below hb)
  have G2 : Hid (Below w.heap.size w w2) := G1.out.trans (hb.mono G1.out.size)
  clear hb M1 G1 p0 p1 p2 p3 p4 p5 p6 p7 p8 p9 p10 p11 l1
  (have p0 := Blk.cellAt (i := 0) M2.out rfl; have p1 := Blk.cellAt (i := 1) M2.out rfl; have p2 := Blk.cellAt (i := 2) M2.out rfl; have p3 := Blk.cellAt (i := 3) M2.out rfl; have p4 := Blk.cellAt (i := 4) M2.out rfl; have p5 := Blk.cellAt (i := 5) M2.out rfl; have p6 := Blk.cellAt (i := 6) M2.out rfl; have p7 := Blk.cellAt (i := 7) M2.out rfl; have p8 := Blk.cellAt (i := 8) M2.out rfl; have p9 := Blk.cellAt (i := 9) M2.out rfl; have p10 := Blk.cellAt (i := 10) M2.out rfl; have p11 := Blk.cellAt (i := 11) M2.out rfl; simp only [List.getElem_toArray, List.getElem_cons_zero, List.getElem_cons_succ] at p0 p1 p2 p3 p4 p5 p6 p7 p8 p9 p10 p11)
  have l1 := M2.out.lt
  go_wp2_with fail
  refine ((held_Event 1).call _).mono ?_
  rintro e w3 ⟨rfl, hb⟩
  have M3 := Lib.hid (M2.out.below hb)
  have G3 : Hid (Below w.heap.size w w3) := G2.out.trans (hb.mono G2.out.size)
  clear hb M2 G2 p0 p1 p2 p3 p4 p5 p6 p7 p8 p9 p10 p11 l1
  go_wp2
  go_ret
  exact ⟨rfl, G3.out⟩
set_option maxHeartbeats 16000000 in
theorem eqShow_i (k n : Int) {t r g b : Nat} (ht : t < 4294967296) (hr : r < 4294967296) (hg : g < 4294967296) (hb : b < 4294967296) (w : World) : Calls Try.prog 23 #[.agg #[.int .i64 n, .float .f32 t, .float .f32 r, .float .f32 g, .float .f32 b, .slice Option.none 0 0, .int .i64 k, .complex .f32 0 0, .float .f32 0, .slice Option.none 0 0, .int .i64 0, .slice Option.none 0 0], .agg #[.int .i64 n, .float .f32 t, .float .f32 r, .float .f32 g, .float .f32 b, .slice Option.none 0 0, .int .i64 k, .complex .f32 0 0, .float .f32 0, .slice Option.none 0 0, .int .i64 0, .slice Option.none 0 0]] w fun e w' => e = .returned (.bool true) ∧ Below w.heap.size w w' := by
  obtain ⟨nf, st, W⟩ := wid_of ht
  have q0 := W.run
  have EC : Hid (∀ w : World, Calls Try.prog 47 #[.agg #[.float .f32 r, .float .f32 g, .float .f32 b], .agg #[.float .f32 r, .float .f32 g, .float .f32 b]] w fun e w' => e = .returned (.bool true) ∧ Below w.heap.size w w') := fun w => (eqColM (c := ⟨r, g, b⟩) hr hg hb).call w
  clear hr hg hb ht
  cases st
  · simp only [if_true, Bool.false_eq_true, if_false] at q0
    go_enter Try.func23, Try.ntmps23
    go_wp2_with (first | (simp only [q0]) | (go_at_call 46; (with_reducible refine ((W.same _ _).call _).mono ?_); rintro e w1 ⟨rfl, rfl⟩))
    generalize hX : ((w.alloc (.cells #[.int .i64 n, .float .f32 t, .float .f32 r, .float .f32 g, .float .f32 b, .slice Option.none 0 0, .int .i64 k, .complex .f32 0 0, .float .f32 0, .slice Option.none 0 0, .int .i64 0, .slice Option.none 0 0] 55)).alloc (.cells #[.int .i64 n, .float .f32 t, .float .f32 r, .float .f32 g, .float .f32 b, .slice Option.none 0 0, .int .i64 k, .complex .f32 0 0, .float .f32 0, .slice Option.none 0 0, .int .i64 0, .slice Option.none 0 0] 55)) = X
    have M0 : Hid (Blk X w.heap.size #[.int .i64 n, .float .f32 t, .float .f32 r, .float .f32 g, .float .f32 b, .slice Option.none 0 0, .int .i64 k, .complex .f32 0 0, .float .f32 0, .slice Option.none 0 0, .int .i64 0, .slice Option.none 0 0] 55) := by rw [← hX]; exact (Blk.new _ _ _).alloc
    have N0 : Hid (Blk X (w.heap.size + 1) #[.int .i64 n, .float .f32 t, .float .f32 r, .float .f32 g, .float .f32 b, .slice Option.none 0 0, .int .i64 k, .complex .f32 0 0, .float .f32 0, .slice Option.none 0 0, .int .i64 0, .slice Option.none 0 0] 55) := by rw [← hX]; exact (Blk.newAt (by simp))
    have G0 : Hid (Below w.heap.size w X) := by rw [← hX]; show Below w.heap.size w _; (repeat' (first | (with_reducible exact Below.refl _ _) | (with_reducible assumption) | (with_reducible refine Below.alloc ?_ ?_ _) | (with_reducible refine Below.drew ?_) | (with_reducible refine Below.setCell ?_ ?_ _) | (with_reducible refine Below.trans ?_ (Below.mono (by assumption) ?_)) | (with_reducible exact Nat.le_refl _) | omega | (simp only [World.size_alloc, World.size_setCell, World.size_drew]; omega) | (simp; omega) | (simp; done)))
    clear hX q0
    refine (EC.out _).mono ?_
    rintro e w1 ⟨rfl, hb⟩
    have M1 := Lib.hid (M0.out.below hb)
    have N1 := Lib.hid (N0.out.below hb)
    have G1 : Hid (Below w.heap.size w w1) := G0.out.trans (hb.mono G0.out.size)
    clear hb M0 N0 G0
    (have p0 := Blk.cellAt (i := 0) M1.out rfl; have p1 := Blk.cellAt (i := 1) M1.out rfl; have p2 := Blk.cellAt (i := 2) M1.out rfl; have p3 := Blk.cellAt (i := 3) M1.out rfl; have p4 := Blk.cellAt (i := 4) M1.out rfl; have p5 := Blk.cellAt (i := 5) M1.out rfl; have p6 := Blk.cellAt (i := 6) M1.out rfl; have p7 := Blk.cellAt (i := 7) M1.out rfl; have p8 := Blk.cellAt (i := 8) M1.out rfl; have p9 := Blk.cellAt (i := 9) M1.out rfl; have p10 := Blk.cellAt (i := 10) M1.out rfl; have p11 := Blk.cellAt (i := 11) M1.out rfl; simp only [List.getElem_toArray, List.getElem_cons_zero, List.getElem_cons_succ] at p0 p1 p2 p3 p4 p5 p6 p7 p8 p9 p10 p11)
    (have q0 := Blk.cellAt (i := 0) N1.out rfl; have q1 := Blk.cellAt (i := 1) N1.out rfl; have q2 := Blk.cellAt (i := 2) N1.out rfl; have q3 := Blk.cellAt (i := 3) N1.out rfl; have q4 := Blk.cellAt (i := 4) N1.out rfl; have q5 := Blk.cellAt (i := 5) N1.out rfl; have q6 := Blk.cellAt (i := 6) N1.out rfl; have q7 := Blk.cellAt (i := 7) N1.out rfl; have q8 := Blk.cellAt (i := 8) N1.out rfl; have q9 := Blk.cellAt (i := 9) N1.out rfl; have q10 := Blk.cellAt (i := 10) N1.out rfl; have q11 := Blk.cellAt (i := 11) N1.out rfl; simp only [List.getElem_toArray, List.getElem_cons_zero, List.getElem_cons_succ] at q0 q1 q2 q3 q4 q5 q6 q7 q8 q9 q10 q11)
    have l1 := M1.out.lt
    have l2 := N1.out.lt
    go_wp2_with fail
    refine (nil2_Shard.call _).mono ?_
    rintro e w2 ⟨rfl, hb⟩
    have M2 := Lib.hid (M1.out.below hb)
    have N2 := Lib.hid (N1.out.below hb)
    have G2 : Hid (Below w.heap.size w w2) := G1.out.trans (hb.mono G1.out.size)
    clear hb M1 N1 G1 p0 q0 p1 q1 p2 q2 p3 q3 p4 q4 p5 q5 p6 q6 p7 q7 p8 q8 p9 q9 p10 q10 p11 q11 l1 l2
    (have p0 := Blk.cellAt (i := 0) M2.out rfl; have p1 := Blk.cellAt (i := 1) M2.out rfl; have p2 := Blk.cellAt (i := 2) M2.out rfl; have p3 := Blk.cellAt (i := 3) M2.out rfl; have p4 := Blk.cellAt (i := 4) M2.out rfl; have p5 := Blk.cellAt (i := 5) M2.out rfl; have p6 := Blk.cellAt (i := 6) M2.out rfl; have p7 := Blk.cellAt (i := 7) M2.out rfl; have p8 := Blk.cellAt (i := 8) M2.out rfl; have p9 := Blk.cellAt (i := 9) M2.out rfl; have p10 := Blk.cellAt (i := 10) M2.out rfl; have p11 := Blk.cellAt (i := 11) M2.out rfl; simp only [List.getElem_toArray, List.getElem_cons_zero, List.getElem_cons_succ] at p0 p1 p2 p3 p4 p5 p6 p7 p8 p9 p10 p11)
    (have q0 := Blk.cellAt (i := 0) N2.out rfl; have q1 := Blk.cellAt (i := 1) N2.out rfl; have q2 := Blk.cellAt (i := 2) N2.out rfl; have q3 := Blk.cellAt (i := 3) N2.out rfl; have q4 := Blk.cellAt (i := 4) N2.out rfl; have q5 := Blk.cellAt (i := 5) N2.out rfl; have q6 := Blk.cellAt (i := 6) N2.out rfl; have q7 := Blk.cellAt (i := 7) N2.out rfl; have q8 := Blk.cellAt (i := 8) N2.out rfl; have q9 := Blk.cellAt (i := 9) N2.out rfl; have q10 := Blk.cellAt (i := 10) N2.out rfl; have q11 := Blk.cellAt (i := 11) N2.out rfl; simp only [List.getElem_toArray, List.getElem_cons_zero, List.getElem_cons_succ] at q0 q1 q2 q3 q4 q5 q6 q7 q8 q9 q10 q11)
    have l1 := M2.out.lt
    have l2 := N2.out.lt
    go_wp2_with fail
    refine (eqT_i k _).mono ?_
    rintro e w3 ⟨rfl, hb⟩
    have M3 := Lib.hid (M2.out.below hb)
    have N3 := Lib.hid (N2.out.below hb)
    have G3 : Hid (Below w.heap.size w w3) := G2.out.trans (hb.mono G2.out.size)
    clear hb M2 N2 G2 p0 q0 p1 q1 p2 q2 p3 q3 p4 q4 p5 q5 p6 q6 p7 q7 p8 q8 p9 q9 p10 q10 p11 q11 l1 l2
    (have p0 := Blk.cellAt (i := 0) M3.out rfl; have p1 := Blk.cellAt (i := 1) M3.out rfl; have p2 := Blk.cellAt (i := 2) M3.out rfl; have p3 := Blk.cellAt (i := 3) M3.out rfl; have p4 := Blk.cellAt (i := 4) M3.out rfl; have p5 := Blk.cellAt (i := 5) M3.out rfl; have p6 := Blk.cellAt (i := 6) M3.out rfl; have p7 := Blk.cellAt (i := 7) M3.out rfl; have p8 := Blk.cellAt (i := 8) M3.out rfl; have p9 := Blk.cellAt (i := 9) M3.out rfl; have p10 := Blk.cellAt (i := 10) M3.out rfl; have p11 := Blk.cellAt (i := 11) M3.out rfl; simp only [List.getElem_toArray, List.getElem_cons_zero, List.getElem_cons_succ] at p0 p1 p2 p3 p4 p5 p6 p7 p8 p9 p10 p11)
    (have q0 := Blk.cellAt (i := 0) N3.out rfl; have q1 := Blk.cellAt (i := 1) N3.out rfl; have q2 := Blk.cellAt (i := 2) N3.out rfl; have q3 := Blk.cellAt (i := 3) N3.out rfl; have q4 := Blk.cellAt (i := 4) N3.out rfl; have q5 := Blk.cellAt (i := 5) N3.out rfl; have q6 := Blk.cellAt (i := 6) N3.out rfl; have q7 := Blk.cellAt (i := 7) N3.out rfl; have q8 := Blk.cellAt (i := 8) N3.out rfl; have q9 := Blk.cellAt (i := 9) N3.out rfl; have q10 := Blk.cellAt (i := 10) N3.out rfl; have q11 := Blk.cellAt (i := 11) N3.out rfl; simp only [List.getElem_toArray, List.getElem_cons_zero, List.getElem_cons_succ] at q0 q1 q2 q3 q4 q5 q6 q7 q8 q9 q10 q11)
    have l1 := M3.out.lt
    have l2 := N3.out.lt
    go_wp2_with fail
    refine (nil2_Event.call _).mono ?_
    rintro e w4 ⟨rfl, hb⟩
    have M4 := Lib.hid (M3.out.below hb)
    have N4 := Lib.hid (N3.out.below hb)
    have G4 : Hid (Below w.heap.size w w4) := G3.out.trans (hb.mono G3.out.size)
    clear hb M3 N3 G3 p0 q0 p1 q1 p2 q2 p3 q3 p4 q4 p5 q5 p6 q6 p7 q7 p8 q8 p9 q9 p10 q10 p11 q11 l1 l2
    go_wp2
    go_ret
    exact ⟨rfl, G4.out⟩
  · simp only [if_true, Bool.false_eq_true, if_false] at q0
    go_enter Try.func23, Try.ntmps23
    go_wp2_with (first | (simp only [q0]) | (go_at_call 46; (with_reducible refine ((W.same _ _).call _).mono ?_); rintro e w1 ⟨rfl, rfl⟩))
    generalize hX : ((w.alloc (.cells #[.int .i64 n, .float .f32 t, .float .f32 r, .float .f32 g, .float .f32 b, .slice Option.none 0 0, .int .i64 k, .complex .f32 0 0, .float .f32 0, .slice Option.none 0 0, .int .i64 0, .slice Option.none 0 0] 55)).alloc (.cells #[.int .i64 n, .float .f32 t, .float .f32 r, .float .f32 g, .float .f32 b, .slice Option.none 0 0, .int .i64 k, .complex .f32 0 0, .float .f32 0, .slice Option.none 0 0, .int .i64 0, .slice Option.none 0 0] 55)).drew.drew = X
    have M0 : Hid (Blk X w.heap.size #[.int .i64 n, .float .f32 t, .float .f32 r, .float .f32 g, .float .f32 b, .slice Option.none 0 0, .int .i64 k, .complex .f32 0 0, .float .f32 0, .slice Option.none 0 0, .int .i64 0, .slice Option.none 0 0] 55) := by rw [← hX]; exact (Blk.new _ _ _).alloc.drew.drew
    have N0 : Hid (Blk X (w.heap.size + 1) #[.int .i64 n, .float .f32 t, .float .f32 r, .float .f32 g, .float .f32 b, .slice Option.none 0 0, .int .i64 k, .complex .f32 0 0, .float .f32 0, .slice Option.none 0 0, .int .i64 0, .slice Option.none 0 0] 55) := by rw [← hX]; exact (Blk.newAt (by simp)).drew.drew
    have G0 : Hid (Below w.heap.size w X) := by rw [← hX]; show Below w.heap.size w _; (repeat' (first | (with_reducible exact Below.refl _ _) | (with_reducible assumption) | (with_reducible refine Below.alloc ?_ ?_ _) | (with_reducible refine Below.drew ?_) | (with_reducible refine Below.setCell ?_ ?_ _) | (with_reducible refine Below.trans ?_ (Below.mono (by assumption) ?_)) | (with_reducible exact Nat.le_refl _) | omega | (simp only [World.size_alloc, World.size_setCell, World.size_drew]; omega) | (simp; omega) | (simp; done)))
    clear hX q0
    refine (EC.out _).mono ?_
    rintro e w1 ⟨rfl, hb⟩
    have M1 := Lib.hid (M0.out.below hb)
    have N1 := Lib.hid (N0.out.below hb)
    have G1 : Hid (Below w.heap.size w w1) := G0.out.trans (hb.mono G0.out.size)
    clear hb M0 N0 G0
    (have p0 := Blk.cellAt (i := 0) M1.out rfl; have p1 := Blk.cellAt (i := 1) M1.out rfl; have p2 := Blk.cellAt (i := 2) M1.out rfl; have p3 := Blk.cellAt (i := 3) M1.out rfl; have p4 := Blk.cellAt (i := 4) M1.out rfl; have p5 := Blk.cellAt (i := 5) M1.out rfl; have p6 := Blk.cellAt (i := 6) M1.out rfl; have p7 := Blk.cellAt (i := 7) M1.out rfl; have p8 := Blk.cellAt (i := 8) M1.out rfl; have p9 := Blk.cellAt (i := 9) M1.out rfl; have p10 := Blk.cellAt (i := 10) M1.out rfl; have p11 := Blk.cellAt (i := 11) M1.out rfl; simp only [List.getElem_toArray, List.getElem_cons_zero, List.getElem_cons_succ] at p0 p1 p2 p3 p4 p5 p6 p7 p8 p9 p10 p11)
    (have q0 := Blk.cellAt (i := 0) N1.out rfl; have q1 := Blk.cellAt (i := 1) N1.out rfl; have q2 := Blk.cellAt (i := 2) N1.out rfl; have q3 := Blk.cellAt (i := 3) N1.out rfl; have q4 := Blk.cellAt (i := 4) N1.out rfl; have q5 := Blk.cellAt (i := 5) N1.out rfl; have q6 := Blk.cellAt (i := 6) N1.out rfl; have q7 := Blk.cellAt (i := 7) N1.out rfl; have q8 := Blk.cellAt (i := 8) N1.out rfl; have q9 := Blk.cellAt (i := 9) N1.out rfl; have q10 := Blk.cellAt (i := 10) N1.out rfl; have q11 := Blk.cellAt (i := 11) N1.out rfl; simp only [List.getElem_toArray, List.getElem_cons_zero, List.getElem_cons_succ] at q0 q1 q2 q3 q4 q5 q6 q7 q8 q9 q10 q11)
    have l1 := M1.out.lt
    have l2 := N1.out.lt
    go_wp2_with fail
    refine (nil2_Shard.call _).mono ?_
    rintro e w2 ⟨rfl, hb⟩
    have M2 := Lib.hid (M1.out.below hb)
    have N2 := Lib.hid (N1.out.below hb)
    have G2 : Hid (Below w.heap.size w w2) := G1.out.trans (hb.mono G1.out.size)
    clear hb M1 N1 G1 p0 q0 p1 q1 p2 q2 p3 q3 p4 q4 p5 q5 p6 q6 p7 q7 p8 q8 p9 q9 p10 q10 p11 q11 l1 l2
    (have p0 := Blk.cellAt (i := 0) M2.out rfl; have p1 := Blk.cellAt (i := 1) M2.out rfl; have p2 := Blk.cellAt (i := 2) M2.out rfl; have p3 := Blk.cellAt (i := 3) M2.out rfl; have p4 := Blk.cellAt (i := 4) M2.out rfl; have p5 := Blk.cellAt (i := 5) M2.out rfl; have p6 := Blk.cellAt (i := 6) M2.out rfl; have p7 := Blk.cellAt (i := 7) M2.out rfl; have p8 := Blk.cellAt (i := 8) M2.out rfl; have p9 := Blk.cellAt (i := 9) M2.out rfl; have p10 := Blk.cellAt (i := 10) M2.out rfl; have p11 := Blk.cellAt (i := 11) M2.out rfl; simp only [List.getElem_toArray, List.getElem_cons_zero, List.getElem_cons_succ] at p0 p1 p2 p3 p4 p5 p6 p7 p8 p9 p10 p11)
    (have q0 := Blk.cellAt (i := 0) N2.out rfl; have q1 := Blk.cellAt (i := 1) N2.out rfl; have q2 := Blk.cellAt (i := 2) N2.out rfl; have q3 := Blk.cellAt (i := 3) N2.out rfl; have q4 := Blk.cellAt (i := 4) N2.out rfl; have q5 := Blk.cellAt (i := 5) N2.out rfl; have q6 := Blk.cellAt (i := 6) N2.out rfl; have q7 := Blk.cellAt (i := 7) N2.out rfl; have q8 := Blk.cellAt (i := 8) N2.out rfl; have q9 := Blk.cellAt (i := 9) N2.out rfl; have q10 := Blk.cellAt (i := 10) N2.out rfl; have q11 := Blk.cellAt (i := 11) N2.out rfl; simp only [List.getElem_toArray, List.getElem_cons_zero, List.getElem_cons_succ] at q0 q1 q2 q3 q4 q5 q6 q7 q8 q9 q10 q11)
    have l1 := M2.out.lt
    have l2 := N2.out.lt
    go_wp2_with fail
    refine (eqT_i k _).mono ?_
    rintro e w3 ⟨rfl, hb⟩
    have M3 := Lib.hid (M2.out.below hb)
    have N3 := Lib.hid (N2.out.below hb)
    have G3 : Hid (Below w.heap.size w w3) := G2.out.trans (hb.mono G2.out.size)
    clear hb M2 N2 G2 p0 q0 p1 q1 p2 q2 p3 q3 p4 q4 p5 q5 p6 q6 p7 q7 p8 q8 p9 q9 p10 q10 p11 q11 l1 l2
    (have p0 := Blk.cellAt (i := 0) M3.out rfl; have p1 := Blk.cellAt (i := 1) M3.out rfl; have p2 := Blk.cellAt (i := 2) M3.out rfl; have p3 := Blk.cellAt (i := 3) M3.out rfl; have p4 := Blk.cellAt (i := 4) M3.out rfl; have p5 := Blk.cellAt (i := 5) M3.out rfl; have p6 := Blk.cellAt (i := 6) M3.out rfl; have p7 := Blk.cellAt (i := 7) M3.out rfl; have p8 := Blk.cellAt (i := 8) M3.out rfl; have p9 := Blk.cellAt (i := 9) M3.out rfl; have p10 := Blk.cellAt (i := 10) M3.out rfl; have p11 := Blk.cellAt (i := 11) M3.out rfl; simp only [List.getElem_toArray, List.getElem_cons_zero, List.getElem_cons_succ] at p0 p1 p2 p3 p4 p5 p6 p7 p8 p9 p10 p11)
    (have q0 := Blk.cellAt (i := 0) N3.out rfl; have q1 := Blk.cellAt (i := 1) N3.out rfl; have q2 := Blk.cellAt (i := 2) N3.out rfl; have q3 := Blk.cellAt (i := 3) N3.out rfl; have q4 := Blk.cellAt (i := 4) N3.out rfl; have q5 := Blk.cellAt (i := 5) N3.out rfl; have q6 := Blk.cellAt (i := 6) N3.out rfl; have q7 := Blk.cellAt (i := 7) N3.out rfl; have q8 := Blk.cellAt (i := 8) N3.out rfl; have q9 := Blk.cellAt (i := 9) N3.out rfl; have q10 := Blk.cellAt (i := 10) N3.out rfl; have q11 := Blk.cellAt (i := 11) N3.out rfl; simp only [List.getElem_toArray, List.getElem_cons_zero, List.getElem_cons_succ] at q0 q1 q2 q3 q4 q5 q6 q7 q8 q9 q10 q11)
    have l1 := M3.out.lt
    have l2 := N3.out.lt
    go_wp2_with fail
    refine (nil2_Event.call _).mono ?_
    rintro e w4 ⟨rfl, hb⟩
    have M4 := Lib.hid (M3.out.below hb)
    have N4 := Lib.hid (N3.out.below hb)
    have G4 : Hid (Below w.heap.size w w4) := G3.out.trans (hb.mono G3.out.size)
    clear hb M3 N3 G3 p0 q0 p1 q1 p2 q2 p3 q3 p4 q4 p5 q5 p6 q6 p7 q7 p8 q8 p9 q9 p10 q10 p11 q11 l1 l2
    go_wp2
    go_ret
    exact ⟨rfl, G4.out⟩
end Go.Proofs.Ytfdgijmmgllmgaa
