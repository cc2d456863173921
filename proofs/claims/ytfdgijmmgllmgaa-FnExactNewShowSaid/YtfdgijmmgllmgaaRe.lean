/-
  NewShow of the program and of the model, at whatever words.
-/
import Derived.Test.YtfdgijmmgllmgaaRd
namespace Go.Proofs.Ytfdgijmmgllmgaa
open Go.ChangeShapes Go.WideShapes Go.ChangeAt Go.RowKit Go.Joins
set_option linter.unusedSimpArgs false
set_option linter.unusedVariables false
set_option maxRecDepth 100000
attribute [local go_sem] store_f
open Ieee Go.Lib
attribute [local go_sem] store_c

theorem step_same {t : Nat} (ht : t < 4294967296) : (decide (rungOf F32 t < F32.infRung) && !(FloatKind.f32.format.order t 0 == some .lt) && !(FloatKind.f32.format.order t 0 == some .eq) && !(FloatKind.f32.format.order t 1132462080 == some .gt)) = stepQ t := by
  unfold stepQ
  by_cases h : Fin32 t
  · have h' : decide (rungOf F32 t < F32.infRung) = true := decide_eq_true h
    have e0 : FloatKind.f32.format.order t 0 = some (compare (valOf F32 t) (valOf F32 0)) := order_fin F32 h (fin_of_lt (by omega))
    have e1 : FloatKind.f32.format.order t 1132462080 = some (compare (valOf F32 t) (valOf F32 1132462080)) := order_fin F32 h (fin_of_lt (by omega))
    rw [h', e0, e1]
    generalize compare (valOf F32 t) (valOf F32 0) = o0
    generalize compare (valOf F32 t) (valOf F32 1132462080) = o1
    cases o0 <;> cases o1 <;> decide
  · have h' : decide (rungOf F32 t < F32.infRung) = false := decide_eq_false h
    rw [h']
    by_cases hi : rungOf F32 t = F32.infRung
    · unfold rungOf at hi
      rw [F32_sw, F32_inf] at hi
      rcases (by omega : t = 2139095040 ∨ t = 4286578688) with rfl | rfl <;> decide +kernel
    · have hn : F32.infRung < rungOf F32 t := by unfold Fin32 at h; omega
      have e0 : FloatKind.f32.format.order t 0 = none := by
        show (F32.read t).order (F32.read 0) = none
        rw [read_nan F32 hn F32_eb]; rfl
      rw [e0]; rfl
theorem bare_same {k n : Int} {t r g b : Nat} (ht : t < 4294967296) : bareSq k n t r g b = bareQ k n t r g b := by
  have hs : lieB n 1 8 = sizeB n := by unfold lieB sizeB; simp
  have hk : lieB k 0 3 = kindB k := by unfold lieB kindB; simp
  unfold bareSq bareQ
  rw [hs, hk, ← step_same ht]
  simp only [Bool.and_assoc]

structure NewB (F : FuncId) (k n : Int) (t r g b : Nat) (k' n' : Int) (t' r' g' b' : Nat) (p : Bool) : Prop where
  call : ∀ w : World, Calls Try.prog F #[.int .i64 k, .int .i64 n, .float .f32 t, .agg #[.float .f32 r, .float .f32 g, .float .f32 b]] w fun e w' => e = .returned (.tuple #[.agg #[.int .i64 n', .float .f32 t', .float .f32 r', .float .f32 g', .float .f32 b', .slice Option.none 0 0, .int .i64 k', .complex .f32 0 0, .float .f32 0, .slice Option.none 0 0, .int .i64 0, .slice Option.none 0 0], .bool p]) ∧ Below w.heap.size w w'
theorem put_b {W : World} {P : Nat} (k n : Int) (t r g b : Nat) (h : Blk W P #[.int .i64 0, .float .f32 0, .float .f32 0, .float .f32 0, .float .f32 0, .slice Option.none 0 0, .int .i64 0, .complex .f32 0 0, .float .f32 0, .slice Option.none 0 0, .int .i64 0, .slice Option.none 0 0] 55) :
    Blk ((((((((((((W.setCell ⟨P, 0, Option.none⟩ (.int .i64 n)).setCell ⟨P, 1, Option.none⟩ (.float .f32 t)).setCell ⟨P, 2, Option.none⟩ (.float .f32 r)).setCell ⟨P, 3, Option.none⟩ (.float .f32 g)).setCell ⟨P, 4, Option.none⟩ (.float .f32 b)).setCell ⟨P, 5, Option.none⟩ (.slice Option.none 0 0)).setCell ⟨P, 6, Option.none⟩ (.int .i64 k)).setCell ⟨P, 7, Option.none⟩ (.complex .f32 0 0)).setCell ⟨P, 8, Option.none⟩ (.float .f32 0)).setCell ⟨P, 9, Option.none⟩ (.slice Option.none 0 0)).setCell ⟨P, 10, Option.none⟩ (.int .i64 0)).setCell ⟨P, 11, Option.none⟩ (.slice Option.none 0 0)) P #[.int .i64 n, .float .f32 t, .float .f32 r, .float .f32 g, .float .f32 b, .slice Option.none 0 0, .int .i64 k, .complex .f32 0 0, .float .f32 0, .slice Option.none 0 0, .int .i64 0, .slice Option.none 0 0] 55 := by
  have RS := (((((((((((h.set (i := 0) (v := .int .i64 n)).set (i := 1) (v := .float .f32 t)).set (i := 2) (v := .float .f32 r)).set (i := 3) (v := .float .f32 g)).set (i := 4) (v := .float .f32 b)).set (i := 5) (v := .slice Option.none 0 0)).set (i := 6) (v := .int .i64 k)).set (i := 7) (v := .complex .f32 0 0)).set (i := 8) (v := .float .f32 0)).set (i := 9) (v := .slice Option.none 0 0)).set (i := 10) (v := .int .i64 0)).set (i := 11) (v := .slice Option.none 0 0)
  simp only [List.setIfInBounds_toArray, List.set_cons_zero, List.set_cons_succ] at RS
  exact RS
theorem below12 {w W : World} {B P : Nat} {u0 u1 u2 u3 u4 u5 u6 u7 u8 u9 u10 u11 : Value} (h : Below B w W) (hP : B ≤ P) :
    Below B w ((((((((((((W.setCell ⟨P, 0, Option.none⟩ u0).setCell ⟨P, 1, Option.none⟩ u1).setCell ⟨P, 2, Option.none⟩ u2).setCell ⟨P, 3, Option.none⟩ u3).setCell ⟨P, 4, Option.none⟩ u4).setCell ⟨P, 5, Option.none⟩ u5).setCell ⟨P, 6, Option.none⟩ u6).setCell ⟨P, 7, Option.none⟩ u7).setCell ⟨P, 8, Option.none⟩ u8).setCell ⟨P, 9, Option.none⟩ u9).setCell ⟨P, 10, Option.none⟩ u10).setCell ⟨P, 11, Option.none⟩ u11) :=
  (((((((((((h.setCell hP _).setCell hP _).setCell hP _).setCell hP _).setCell hP _).setCell hP _).setCell hP _).setCell hP _).setCell hP _).setCell hP _).setCell hP _).setCell hP _
set_option maxHeartbeats 32000000 in
theorem newI_true {k n : Int} {t r g b : Nat} (S : BareIs 45 k n t r g b true) : NewB 22 k n t r g b k n t r g b true := ⟨fun w => by
  go_enter Try.func22, Try.ntmps22
  go_wp2_with fail
  generalize hX : ((w.alloc (.cells #[.float .f32 r, .float .f32 g, .float .f32 b] 47)).alloc (.cells #[.int .i64 0, .float .f32 0, .float .f32 0, .float .f32 0, .float .f32 0, .slice Option.none 0 0, .int .i64 0, .complex .f32 0 0, .float .f32 0, .slice Option.none 0 0, .int .i64 0, .slice Option.none 0 0] 55)).alloc (.cells #[.int .i64 n, .float .f32 t, .float .f32 r, .float .f32 g, .float .f32 b, .slice Option.none 0 0, .int .i64 k, .complex .f32 0 0, .float .f32 0, .slice Option.none 0 0, .int .i64 0, .slice Option.none 0 0] 55) = X
  have R0 : Hid (Blk X (w.heap.size + 1) #[.int .i64 0, .float .f32 0, .float .f32 0, .float .f32 0, .float .f32 0, .slice Option.none 0 0, .int .i64 0, .complex .f32 0 0, .float .f32 0, .slice Option.none 0 0, .int .i64 0, .slice Option.none 0 0] 55) := by rw [← hX]; exact (Blk.newAt (by simp)).alloc
  have B0 : Hid (Blk X (w.heap.size + 1 + 1) #[.int .i64 n, .float .f32 t, .float .f32 r, .float .f32 g, .float .f32 b, .slice Option.none 0 0, .int .i64 k, .complex .f32 0 0, .float .f32 0, .slice Option.none 0 0, .int .i64 0, .slice Option.none 0 0] 55) := by rw [← hX]; exact Blk.newAt (by simp)
  have G0 : Hid (Below w.heap.size w X) := by rw [← hX]; show Below w.heap.size w _; (repeat' (first | (with_reducible exact Below.refl _ _) | (with_reducible assumption) | (with_reducible refine Below.alloc ?_ ?_ _) | (with_reducible refine Below.drew ?_) | (with_reducible refine Below.setCell ?_ ?_ _) | (with_reducible refine Below.trans ?_ (Below.mono (by assumption) ?_)) | (with_reducible exact Nat.le_refl _) | omega | (simp only [World.size_alloc, World.size_setCell, World.size_drew]; omega) | (simp; omega) | (simp; done)))
  clear hX
  refine (S.call _).mono ?_
  rintro e w1 ⟨rfl, hb⟩
  have B1 := B0.out.below hb
  have R1 := R0.out.below hb
  have G1 : Hid (Below w.heap.size w w1) := G0.out.trans (hb.mono G0.out.size)
  clear hb R0 B0 G0 S
  (have p0 := Blk.cellAt (i := 0) B1 rfl; have p1 := Blk.cellAt (i := 1) B1 rfl; have p2 := Blk.cellAt (i := 2) B1 rfl; have p3 := Blk.cellAt (i := 3) B1 rfl; have p4 := Blk.cellAt (i := 4) B1 rfl; have p5 := Blk.cellAt (i := 5) B1 rfl; have p6 := Blk.cellAt (i := 6) B1 rfl; have p7 := Blk.cellAt (i := 7) B1 rfl; have p8 := Blk.cellAt (i := 8) B1 rfl; have p9 := Blk.cellAt (i := 9) B1 rfl; have p10 := Blk.cellAt (i := 10) B1 rfl; have p11 := Blk.cellAt (i := 11) B1 rfl; simp only [List.getElem_toArray, List.getElem_cons_zero, List.getElem_cons_succ] at p0 p1 p2 p3 p4 p5 p6 p7 p8 p9 p10 p11)
  (have q0 := Blk.cellAt (i := 0) R1 rfl; have q1 := Blk.cellAt (i := 1) R1 rfl; have q2 := Blk.cellAt (i := 2) R1 rfl; have q3 := Blk.cellAt (i := 3) R1 rfl; have q4 := Blk.cellAt (i := 4) R1 rfl; have q5 := Blk.cellAt (i := 5) R1 rfl; have q6 := Blk.cellAt (i := 6) R1 rfl; have q7 := Blk.cellAt (i := 7) R1 rfl; have q8 := Blk.cellAt (i := 8) R1 rfl; have q9 := Blk.cellAt (i := 9) R1 rfl; have q10 := Blk.cellAt (i := 10) R1 rfl; have q11 := Blk.cellAt (i := 11) R1 rfl; simp only [List.getElem_toArray, List.getElem_cons_zero, List.getElem_cons_succ] at q0 q1 q2 q3 q4 q5 q6 q7 q8 q9 q10 q11)
  (have h0 := R1.free 0; have h1 := R1.free 1; have h2 := R1.free 2; have h3 := R1.free 3; have h4 := R1.free 4; have h5 := R1.free 5; have h6 := R1.free 6; have h7 := R1.free 7; have h8 := R1.free 8; have h9 := R1.free 9; have h10 := R1.free 10; have h11 := R1.free 11)
  have l1 := R1.lt
  have l2 := B1.lt
  have P5 := Lib.hid (put_b k n t r g b R1)
  clear R1 B1
  go_wp2_with fail
  (have e0 := Blk.cellAt (i := 0) P5.out rfl; have e1 := Blk.cellAt (i := 1) P5.out rfl; have e2 := Blk.cellAt (i := 2) P5.out rfl; have e3 := Blk.cellAt (i := 3) P5.out rfl; have e4 := Blk.cellAt (i := 4) P5.out rfl; have e5 := Blk.cellAt (i := 5) P5.out rfl; have e6 := Blk.cellAt (i := 6) P5.out rfl; have e7 := Blk.cellAt (i := 7) P5.out rfl; have e8 := Blk.cellAt (i := 8) P5.out rfl; have e9 := Blk.cellAt (i := 9) P5.out rfl; have e10 := Blk.cellAt (i := 10) P5.out rfl; have e11 := Blk.cellAt (i := 11) P5.out rfl; simp only [List.getElem_toArray, List.getElem_cons_zero, List.getElem_cons_succ] at e0 e1 e2 e3 e4 e5 e6 e7 e8 e9 e10 e11)
  refine bodyPost_ret (v := .tuple #[.agg #[.int .i64 n, .float .f32 t, .float .f32 r, .float .f32 g, .float .f32 b, .slice Option.none 0 0, .int .i64 k, .complex .f32 0 0, .float .f32 0, .slice Option.none 0 0, .int .i64 0, .slice Option.none 0 0], .bool true]) (by simp [results, Try.results22, go_sem, e0, e1, e2, e3, e4, e5, e6, e7, e8, e9, e10, e11]) rfl ⟨rfl, ?_⟩
  exact below12 G1.out (by omega)⟩
set_option maxHeartbeats 32000000 in
theorem newI_false {k n : Int} {t r g b : Nat} (S : BareIs 45 k n t r g b false) : NewB 22 k n t r g b 0 0 0 0 0 0 false := ⟨fun w => by
  go_enter Try.func22, Try.ntmps22
  go_wp2_with fail
  generalize hX : ((w.alloc (.cells #[.float .f32 r, .float .f32 g, .float .f32 b] 47)).alloc (.cells #[.int .i64 0, .float .f32 0, .float .f32 0, .float .f32 0, .float .f32 0, .slice Option.none 0 0, .int .i64 0, .complex .f32 0 0, .float .f32 0, .slice Option.none 0 0, .int .i64 0, .slice Option.none 0 0] 55)).alloc (.cells #[.int .i64 n, .float .f32 t, .float .f32 r, .float .f32 g, .float .f32 b, .slice Option.none 0 0, .int .i64 k, .complex .f32 0 0, .float .f32 0, .slice Option.none 0 0, .int .i64 0, .slice Option.none 0 0] 55) = X
  have R0 : Hid (Blk X (w.heap.size + 1) #[.int .i64 0, .float .f32 0, .float .f32 0, .float .f32 0, .float .f32 0, .slice Option.none 0 0, .int .i64 0, .complex .f32 0 0, .float .f32 0, .slice Option.none 0 0, .int .i64 0, .slice Option.none 0 0] 55) := by rw [← hX]; exact (Blk.newAt (by simp)).alloc
  have B0 : Hid (Blk X (w.heap.size + 1 + 1) #[.int .i64 n, .float .f32 t, .float .f32 r, .float .f32 g, .float .f32 b, .slice Option.none 0 0, .int .i64 k, .complex .f32 0 0, .float .f32 0, .slice Option.none 0 0, .int .i64 0, .slice Option.none 0 0] 55) := by rw [← hX]; exact Blk.newAt (by simp)
  have G0 : Hid (Below w.heap.size w X) := by rw [← hX]; show Below w.heap.size w _; (repeat' (first | (with_reducible exact Below.refl _ _) | (with_reducible assumption) | (with_reducible refine Below.alloc ?_ ?_ _) | (with_reducible refine Below.drew ?_) | (with_reducible refine Below.setCell ?_ ?_ _) | (with_reducible refine Below.trans ?_ (Below.mono (by assumption) ?_)) | (with_reducible exact Nat.le_refl _) | omega | (simp only [World.size_alloc, World.size_setCell, World.size_drew]; omega) | (simp; omega) | (simp; done)))
  clear hX
  refine (S.call _).mono ?_
  rintro e w1 ⟨rfl, hb⟩
  have B1 := B0.out.below hb
  have R1 := R0.out.below hb
  have G1 : Hid (Below w.heap.size w w1) := G0.out.trans (hb.mono G0.out.size)
  clear hb R0 B0 G0 S
  (have p0 := Blk.cellAt (i := 0) B1 rfl; have p1 := Blk.cellAt (i := 1) B1 rfl; have p2 := Blk.cellAt (i := 2) B1 rfl; have p3 := Blk.cellAt (i := 3) B1 rfl; have p4 := Blk.cellAt (i := 4) B1 rfl; have p5 := Blk.cellAt (i := 5) B1 rfl; have p6 := Blk.cellAt (i := 6) B1 rfl; have p7 := Blk.cellAt (i := 7) B1 rfl; have p8 := Blk.cellAt (i := 8) B1 rfl; have p9 := Blk.cellAt (i := 9) B1 rfl; have p10 := Blk.cellAt (i := 10) B1 rfl; have p11 := Blk.cellAt (i := 11) B1 rfl; simp only [List.getElem_toArray, List.getElem_cons_zero, List.getElem_cons_succ] at p0 p1 p2 p3 p4 p5 p6 p7 p8 p9 p10 p11)
  (have q0 := Blk.cellAt (i := 0) R1 rfl; have q1 := Blk.cellAt (i := 1) R1 rfl; have q2 := Blk.cellAt (i := 2) R1 rfl; have q3 := Blk.cellAt (i := 3) R1 rfl; have q4 := Blk.cellAt (i := 4) R1 rfl; have q5 := Blk.cellAt (i := 5) R1 rfl; have q6 := Blk.cellAt (i := 6) R1 rfl; have q7 := Blk.cellAt (i := 7) R1 rfl; have q8 := Blk.cellAt (i := 8) R1 rfl; have q9 := Blk.cellAt (i := 9) R1 rfl; have q10 := Blk.cellAt (i := 10) R1 rfl; have q11 := Blk.cellAt (i := 11) R1 rfl; simp only [List.getElem_toArray, List.getElem_cons_zero, List.getElem_cons_succ] at q0 q1 q2 q3 q4 q5 q6 q7 q8 q9 q10 q11)
  (have h0 := R1.free 0; have h1 := R1.free 1; have h2 := R1.free 2; have h3 := R1.free 3; have h4 := R1.free 4; have h5 := R1.free 5; have h6 := R1.free 6; have h7 := R1.free 7; have h8 := R1.free 8; have h9 := R1.free 9; have h10 := R1.free 10; have h11 := R1.free 11)
  have l1 := R1.lt
  have l2 := B1.lt
  have P5 := Lib.hid (put_b 0 0 0 0 0 0 R1)
  clear R1 B1
  go_wp2_with fail
  (have e0 := Blk.cellAt (i := 0) P5.out rfl; have e1 := Blk.cellAt (i := 1) P5.out rfl; have e2 := Blk.cellAt (i := 2) P5.out rfl; have e3 := Blk.cellAt (i := 3) P5.out rfl; have e4 := Blk.cellAt (i := 4) P5.out rfl; have e5 := Blk.cellAt (i := 5) P5.out rfl; have e6 := Blk.cellAt (i := 6) P5.out rfl; have e7 := Blk.cellAt (i := 7) P5.out rfl; have e8 := Blk.cellAt (i := 8) P5.out rfl; have e9 := Blk.cellAt (i := 9) P5.out rfl; have e10 := Blk.cellAt (i := 10) P5.out rfl; have e11 := Blk.cellAt (i := 11) P5.out rfl; simp only [List.getElem_toArray, List.getElem_cons_zero, List.getElem_cons_succ] at e0 e1 e2 e3 e4 e5 e6 e7 e8 e9 e10 e11)
  refine bodyPost_ret (v := .tuple #[.agg #[.int .i64 0, .float .f32 0, .float .f32 0, .float .f32 0, .float .f32 0, .slice Option.none 0 0, .int .i64 0, .complex .f32 0 0, .float .f32 0, .slice Option.none 0 0, .int .i64 0, .slice Option.none 0 0], .bool false]) (by simp [results, Try.results22, go_sem, e0, e1, e2, e3, e4, e5, e6, e7, e8, e9, e10, e11]) rfl ⟨rfl, ?_⟩
  exact below12 G1.out (by omega)⟩
set_option maxHeartbeats 32000000 in
theorem newS_true {k n : Int} {t r g b : Nat} (S : BareIs 44 k n t r g b true) : NewB 20 k n t r g b k n t r g b true := ⟨fun w => by
  go_enter Try.func20, Try.ntmps20
  go_wp2_with fail
  generalize hX : ((w.alloc (.cells #[.float .f32 r, .float .f32 g, .float .f32 b] 47)).alloc (.cells #[.int .i64 0, .float .f32 0, .float .f32 0, .float .f32 0, .float .f32 0, .slice Option.none 0 0, .int .i64 0, .complex .f32 0 0, .float .f32 0, .slice Option.none 0 0, .int .i64 0, .slice Option.none 0 0] 55)).alloc (.cells #[.int .i64 n, .float .f32 t, .float .f32 r, .float .f32 g, .float .f32 b, .slice Option.none 0 0, .int .i64 k, .complex .f32 0 0, .float .f32 0, .slice Option.none 0 0, .int .i64 0, .slice Option.none 0 0] 55) = X
  have R0 : Hid (Blk X (w.heap.size + 1) #[.int .i64 0, .float .f32 0, .float .f32 0, .float .f32 0, .float .f32 0, .slice Option.none 0 0, .int .i64 0, .complex .f32 0 0, .float .f32 0, .slice Option.none 0 0, .int .i64 0, .slice Option.none 0 0] 55) := by rw [← hX]; exact (Blk.newAt (by simp)).alloc
  have B0 : Hid (Blk X (w.heap.size + 1 + 1) #[.int .i64 n, .float .f32 t, .float .f32 r, .float .f32 g, .float .f32 b, .slice Option.none 0 0, .int .i64 k, .complex .f32 0 0, .float .f32 0, .slice Option.none 0 0, .int .i64 0, .slice Option.none 0 0] 55) := by rw [← hX]; exact Blk.newAt (by simp)
  have G0 : Hid (Below w.heap.size w X) := by rw [← hX]; show Below w.heap.size w _; (repeat' (first | (with_reducible exact Below.refl _ _) | (with_reducible assumption) | (with_reducible refine Below.alloc ?_ ?_ _) | (with_reducible refine Below.drew ?_) | (with_reducible refine Below.setCell ?_ ?_ _) | (with_reducible refine Below.trans ?_ (Below.mono (by assumption) ?_)) | (with_reducible exact Nat.le_refl _) | omega | (simp only [World.size_alloc, World.size_setCell, World.size_drew]; omega) | (simp; omega) | (simp; done)))
  clear hX
  refine (S.call _).mono ?_
  rintro e w1 ⟨rfl, hb⟩
  have B1 := B0.out.below hb
  have R1 := R0.out.below hb
  have G1 : Hid (Below w.heap.size w w1) := G0.out.trans (hb.mono G0.out.size)
  clear hb R0 B0 G0 S
  (have p0 := Blk.cellAt (i := 0) B1 rfl; have p1 := Blk.cellAt (i := 1) B1 rfl; have p2 := Blk.cellAt (i := 2) B1 rfl; have p3 := Blk.cellAt (i := 3) B1 rfl; have p4 := Blk.cellAt (i := 4) B1 rfl; have p5 := Blk.cellAt (i := 5) B1 rfl; have p6 := Blk.cellAt (i := 6) B1 rfl; have p7 := Blk.cellAt (i := 7) B1 rfl; have p8 := Blk.cellAt (i := 8) B1 rfl; have p9 := Blk.cellAt (i := 9) B1 rfl; have p10 := Blk.cellAt (i := 10) B1 rfl; have p11 := Blk.cellAt (i := 11) B1 rfl; simp only [List.getElem_toArray, List.getElem_cons_zero, List.getElem_cons_succ] at p0 p1 p2 p3 p4 p5 p6 p7 p8 p9 p10 p11)
  (have q0 := Blk.cellAt (i := 0) R1 rfl; have q1 := Blk.cellAt (i := 1) R1 rfl; have q2 := Blk.cellAt (i := 2) R1 rfl; have q3 := Blk.cellAt (i := 3) R1 rfl; have q4 := Blk.cellAt (i := 4) R1 rfl; have q5 := Blk.cellAt (i := 5) R1 rfl; have q6 := Blk.cellAt (i := 6) R1 rfl; have q7 := Blk.cellAt (i := 7) R1 rfl; have q8 := Blk.cellAt (i := 8) R1 rfl; have q9 := Blk.cellAt (i := 9) R1 rfl; have q10 := Blk.cellAt (i := 10) R1 rfl; have q11 := Blk.cellAt (i := 11) R1 rfl; simp only [List.getElem_toArray, List.getElem_cons_zero, List.getElem_cons_succ] at q0 q1 q2 q3 q4 q5 q6 q7 q8 q9 q10 q11)
  (have h0 := R1.free 0; have h1 := R1.free 1; have h2 := R1.free 2; have h3 := R1.free 3; have h4 := R1.free 4; have h5 := R1.free 5; have h6 := R1.free 6; have h7 := R1.free 7; have h8 := R1.free 8; have h9 := R1.free 9; have h10 := R1.free 10; have h11 := R1.free 11)
  have l1 := R1.lt
  have l2 := B1.lt
  have P5 := Lib.hid (put_b k n t r g b R1)
  clear R1 B1
  go_wp2_with fail
  (have e0 := Blk.cellAt (i := 0) P5.out rfl; have e1 := Blk.cellAt (i := 1) P5.out rfl; have e2 := Blk.cellAt (i := 2) P5.out rfl; have e3 := Blk.cellAt (i := 3) P5.out rfl; have e4 := Blk.cellAt (i := 4) P5.out rfl; have e5 := Blk.cellAt (i := 5) P5.out rfl; have e6 := Blk.cellAt (i := 6) P5.out rfl; have e7 := Blk.cellAt (i := 7) P5.out rfl; have e8 := Blk.cellAt (i := 8) P5.out rfl; have e9 := Blk.cellAt (i := 9) P5.out rfl; have e10 := Blk.cellAt (i := 10) P5.out rfl; have e11 := Blk.cellAt (i := 11) P5.out rfl; simp only [List.getElem_toArray, List.getElem_cons_zero, List.getElem_cons_succ] at e0 e1 e2 e3 e4 e5 e6 e7 e8 e9 e10 e11)
  refine bodyPost_ret (v := .tuple #[.agg #[.int .i64 n, .float .f32 t, .float .f32 r, .float .f32 g, .float .f32 b, .slice Option.none 0 0, .int .i64 k, .complex .f32 0 0, .float .f32 0, .slice Option.none 0 0, .int .i64 0, .slice Option.none 0 0], .bool true]) (by simp [results, Try.results20, go_sem, e0, e1, e2, e3, e4, e5, e6, e7, e8, e9, e10, e11]) rfl ⟨rfl, ?_⟩
  exact below12 G1.out (by omega)⟩
set_option maxHeartbeats 32000000 in
theorem newS_false {k n : Int} {t r g b : Nat} (S : BareIs 44 k n t r g b false) : NewB 20 k n t r g b 0 0 0 0 0 0 false := ⟨fun w => by
  go_enter Try.func20, Try.ntmps20
  go_wp2_with fail
  generalize hX : ((w.alloc (.cells #[.float .f32 r, .float .f32 g, .float .f32 b] 47)).alloc (.cells #[.int .i64 0, .float .f32 0, .float .f32 0, .float .f32 0, .float .f32 0, .slice Option.none 0 0, .int .i64 0, .complex .f32 0 0, .float .f32 0, .slice Option.none 0 0, .int .i64 0, .slice Option.none 0 0] 55)).alloc (.cells #[.int .i64 n, .float .f32 t, .float .f32 r, .float .f32 g, .float .f32 b, .slice Option.none 0 0, .int .i64 k, .complex .f32 0 0, .float .f32 0, .slice Option.none 0 0, .int .i64 0, .slice Option.none 0 0] 55) = X
  have R0 : Hid (Blk X (w.heap.size + 1) #[.int .i64 0, .float .f32 0, .float .f32 0, .float .f32 0, .float .f32 0, .slice Option.none 0 0, .int .i64 0, .complex .f32 0 0, .float .f32 0, .slice Option.none 0 0, .int .i64 0, .slice Option.none 0 0] 55) := by rw [← hX]; exact (Blk.newAt (by simp)).alloc
  have B0 : Hid (Blk X (w.heap.size + 1 + 1) #[.int .i64 n, .float .f32 t, .float .f32 r, .float .f32 g, .float .f32 b, .slice Option.none 0 0, .int .i64 k, .complex .f32 0 0, .float .f32 0, .slice Option.none 0 0, .int .i64 0, .slice Option.none 0 0] 55) := by rw [← hX]; exact Blk.newAt (by simp)
  have G0 : Hid (Below w.heap.size w X) := by rw [← hX]; show Below w.heap.size w _; (repeat' (first | (with_reducible exact Below.refl _ _) | (with_reducible assumption) | (with_reducible refine Below.alloc ?_ ?_ _) | (with_reducible refine Below.drew ?_) | (with_reducible refine Below.setCell ?_ ?_ _) | (with_reducible refine Below.trans ?_ (Below.mono (by assumption) ?_)) | (with_reducible exact Nat.le_refl _) | omega | (simp only [World.size_alloc, World.size_setCell, World.size_drew]; omega) | (simp; omega) | (simp; done)))
  clear hX
  refine (S.call _).mono ?_
  rintro e w1 ⟨rfl, hb⟩
  have B1 := B0.out.below hb
  have R1 := R0.out.below hb
  have G1 : Hid (Below w.heap.size w w1) := G0.out.trans (hb.mono G0.out.size)
  clear hb R0 B0 G0 S
  (have p0 := Blk.cellAt (i := 0) B1 rfl; have p1 := Blk.cellAt (i := 1) B1 rfl; have p2 := Blk.cellAt (i := 2) B1 rfl; have p3 := Blk.cellAt (i := 3) B1 rfl; have p4 := Blk.cellAt (i := 4) B1 rfl; have p5 := Blk.cellAt (i := 5) B1 rfl; have p6 := Blk.cellAt (i := 6) B1 rfl; have p7 := Blk.cellAt (i := 7) B1 rfl; have p8 := Blk.cellAt (i := 8) B1 rfl; have p9 := Blk.cellAt (i := 9) B1 rfl; have p10 := Blk.cellAt (i := 10) B1 rfl; have p11 := Blk.cellAt (i := 11) B1 rfl; simp only [List.getElem_toArray, List.getElem_cons_zero, List.getElem_cons_succ] at p0 p1 p2 p3 p4 p5 p6 p7 p8 p9 p10 p11)
  (have q0 := Blk.cellAt (i := 0) R1 rfl; have q1 := Blk.cellAt (i := 1) R1 rfl; have q2 := Blk.cellAt (i := 2) R1 rfl; have q3 := Blk.cellAt (i := 3) R1 rfl; have q4 := Blk.cellAt (i := 4) R1 rfl; have q5 := Blk.cellAt (i := 5) R1 rfl; have q6 := Blk.cellAt (i := 6) R1 rfl; have q7 := Blk.cellAt (i := 7) R1 rfl; have q8 := Blk.cellAt (i := 8) R1 rfl; have q9 := Blk.cellAt (i := 9) R1 rfl; have q10 := Blk.cellAt (i := 10) R1 rfl; have q11 := Blk.cellAt (i := 11) R1 rfl; simp only [List.getElem_toArray, List.getElem_cons_zero, List.getElem_cons_succ] at q0 q1 q2 q3 q4 q5 q6 q7 q8 q9 q10 q11)
  (have h0 := R1.free 0; have h1 := R1.free 1; have h2 := R1.free 2; have h3 := R1.free 3; have h4 := R1.free 4; have h5 := R1.free 5; have h6 := R1.free 6; have h7 := R1.free 7; have h8 := R1.free 8; have h9 := R1.free 9; have h10 := R1.free 10; have h11 := R1.free 11)
  have l1 := R1.lt
  have l2 := B1.lt
  have P5 := Lib.hid (put_b 0 0 0 0 0 0 R1)
  clear R1 B1
  go_wp2_with fail
  (have e0 := Blk.cellAt (i := 0) P5.out rfl; have e1 := Blk.cellAt (i := 1) P5.out rfl; have e2 := Blk.cellAt (i := 2) P5.out rfl; have e3 := Blk.cellAt (i := 3) P5.out rfl; have e4 := Blk.cellAt (i := 4) P5.out rfl; have e5 := Blk.cellAt (i := 5) P5.out rfl; have e6 := Blk.cellAt (i := 6) P5.out rfl; have e7 := Blk.cellAt (i := 7) P5.out rfl; have e8 := Blk.cellAt (i := 8) P5.out rfl; have e9 := Blk.cellAt (i := 9) P5.out rfl; have e10 := Blk.cellAt (i := 10) P5.out rfl; have e11 := Blk.cellAt (i := 11) P5.out rfl; simp only [List.getElem_toArray, List.getElem_cons_zero, List.getElem_cons_succ] at e0 e1 e2 e3 e4 e5 e6 e7 e8 e9 e10 e11)
  refine bodyPost_ret (v := .tuple #[.agg #[.int .i64 0, .float .f32 0, .float .f32 0, .float .f32 0, .float .f32 0, .slice Option.none 0 0, .int .i64 0, .complex .f32 0 0, .float .f32 0, .slice Option.none 0 0, .int .i64 0, .slice Option.none 0 0], .bool false]) (by simp [results, Try.results20, go_sem, e0, e1, e2, e3, e4, e5, e6, e7, e8, e9, e10, e11]) rfl ⟨rfl, ?_⟩
  exact below12 G1.out (by omega)⟩
/-- What both answer. -/
theorem new_both {k n : Int} {t r g b : Nat} (ht : t < 4294967296) (hr : r < 4294967296) (hg : g < 4294967296) (hb : b < 4294967296) :
    ∃ (k' n' : Int) (t' r' g' b' : Nat) (p : Bool), NewB 22 k n t r g b k' n' t' r' g' b' p ∧ NewB 20 k n t r g b k' n' t' r' g' b' p ∧ t' < 4294967296 ∧ r' < 4294967296 ∧ g' < 4294967296 ∧ b' < 4294967296 := by
  have A := bareIs_i k n t r g b
  have B := bareIs_s (k := k) (n := n) (t := t) hr hg hb
  rw [bare_same ht] at B
  generalize bareQ k n t r g b = p at A B
  cases p
  · exact ⟨_, _, _, _, _, _, _, newI_false A, newS_false B, by omega, by omega, by omega, by omega⟩
  · exact ⟨_, _, _, _, _, _, _, newI_true A, newS_true B, ht, hr, hg, hb⟩
end Go.Proofs.Ytfdgijmmgllmgaa
