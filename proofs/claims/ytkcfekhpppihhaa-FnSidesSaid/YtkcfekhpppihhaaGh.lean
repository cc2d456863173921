/-
  A shard that is moved, and one that a symmetry acts on.
-/
import Derived.Test.YtkcfekhpppihhaaGfd
import Derived.Test.YtkcfekhpppihhaaFo
namespace Go.Proofs.Ytkcfekhpppihhaa
open Go.ChangeShapes Go.WideShapes Go.ChangeAt Go.RowKit Go.Joins
set_option linter.unusedSimpArgs false
set_option linter.unusedVariables false
set_option maxRecDepth 100000
attribute [local go_sem] store_f
open Ieee
attribute [local go_sem] store_c

structure MoveIs (s : Shd) (z1 z2 : Nat) (t : Shd) (p : Bool) : Prop where
  call : ∀ w : World, Calls Try.prog 21 #[.agg #[.complex .f32 s.a1 s.a2, .complex .f32 s.b1 s.b2, .complex .f32 s.c1 s.c2, .float .f32 s.r, .float .f32 s.g, .float .f32 s.b, .float .f32 s.k], .complex .f32 z1 z2] w fun e w' => e = .returned (.tuple #[.agg #[.complex .f32 t.a1 t.a2, .complex .f32 t.b1 t.b2, .complex .f32 t.c1 t.c2, .float .f32 t.r, .float .f32 t.g, .float .f32 t.b, .float .f32 t.k], .bool p]) ∧ Below w.heap.size w w'
structure MovesTo (s : Shd) (z1 z2 : Nat) (t : Shd) : Prop where
  put : ∀ (q : Nat) (W : World), W.cell? ⟨q, 0, Option.none⟩ = some (.complex .f32 z1 z2) → WithC 53 q W s t

theorem clo_move {q : Nat} {W : World} {x y z1 z2 p r : Nat} (J : Join 35 x y z1 z2 p r) (hc : W.cell? ⟨q, 0, Option.none⟩ = some (.complex .f32 z1 z2)) : Clo 53 q W x y p r := ⟨fun w1 hb => by
  have c := cBelow hb hc
  clear hc hb
  go_enter Try.func53, Try.ntmps53
  go_wp2_with (go_at_call 29; (with_reducible refine (J.call _).mono ?_); rintro e w2 ⟨rfl, rfl⟩)
  go_ret
  exact ⟨rfl, Below.refl _ _⟩⟩
theorem clo_act {q : Nat} {W : World} {t : Int} {f : Bool} {x y p r : Nat} (A : ActM t f x y p r) (h0 : W.cell? ⟨q, 0, Option.none⟩ = some (.int .i64 t)) (h1 : W.cell? ⟨q, 1, Option.none⟩ = some (.bool f)) : Clo 37 q W x y p r := ⟨fun w1 hb => by
  have c0 := cBelow hb h0
  have c1 := cBelow hb h1
  clear h0 h1 hb
  go_enter Try.func37, Try.ntmps37
  go_wp2_with fail
  refine (A.call _).mono ?_
  rintro e w2 ⟨rfl, hb⟩
  have HB : Hid (Below w1.heap.size w1 w2) := hb
  clear hb c0 c1
  go_wp2
  go_ret
  exact ⟨rfl, HB.out⟩⟩

set_option maxHeartbeats 8000000 in
theorem move_of {s t : Shd} {z1 z2 : Nat} (p : Bool) (S : ShdIs s true) (P : PtIs z1 z2 true) (M : MovesTo s z1 z2 t) (T : ShdIs t p) : MoveIs s z1 z2 (if p then t else s) p := ⟨fun w => by
  go_enter Try.func21, Try.ntmps21
  go_wp2_with fail
  generalize hW : ((w.alloc (.cells #[.complex .f32 s.a1 s.a2, .complex .f32 s.b1 s.b2, .complex .f32 s.c1 s.c2, .float .f32 s.r, .float .f32 s.g, .float .f32 s.b, .float .f32 s.k] 37)).alloc (.cells #[.complex .f32 z1 z2] 25)).alloc (.cells #[.complex .f32 0 0, .complex .f32 0 0, .complex .f32 0 0, .float .f32 0, .float .f32 0, .float .f32 0, .float .f32 0] 37) = X
  have hs : X.heap.size = w.heap.size + 3 := by rw [← hW]; simp
  have R0 : Hid (Blk X w.heap.size #[.complex .f32 s.a1 s.a2, .complex .f32 s.b1 s.b2, .complex .f32 s.c1 s.c2, .float .f32 s.r, .float .f32 s.g, .float .f32 s.b, .float .f32 s.k] 37) := by rw [← hW]; exact ((Blk.new _ _ _).alloc).alloc
  have Z0 : Hid (Blk X (w.heap.size + 1) #[.complex .f32 z1 z2] 25) := by rw [← hW]; exact (Blk.newAt (by simp)).alloc
  have Q0 : Hid (Blk X (w.heap.size + 1 + 1) #[.complex .f32 0 0, .complex .f32 0 0, .complex .f32 0 0, .float .f32 0, .float .f32 0, .float .f32 0, .float .f32 0] 37) := by rw [← hW]; exact Blk.newAt (by simp)
  have hB : Below w.heap.size w X := by rw [← hW]; (repeat' (first | (with_reducible exact Below.refl _ _) | (with_reducible assumption) | (with_reducible refine Below.alloc ?_ ?_ _) | (with_reducible refine Below.drew ?_) | (with_reducible refine Below.setCell ?_ ?_ _) | (with_reducible refine Below.trans ?_ (Below.mono (by assumption) ?_)) | (with_reducible exact Nat.le_refl _) | omega | (simp only [World.size_alloc, World.size_setCell, World.size_drew]; omega) | (simp; omega) | (simp; done)))
  have HB : Hid (Below w.heap.size w X) := hB
  clear hW hB
  refine (S.call _).mono ?_
  rintro e w1 ⟨rfl, hb⟩
  have R1 : Hid (Blk w1 w.heap.size #[.complex .f32 s.a1 s.a2, .complex .f32 s.b1 s.b2, .complex .f32 s.c1 s.c2, .float .f32 s.r, .float .f32 s.g, .float .f32 s.b, .float .f32 s.k] 37) := R0.out.below hb
  have Z1 : Hid (Blk w1 (w.heap.size + 1) #[.complex .f32 z1 z2] 25) := Z0.out.below hb
  have Q1 : Hid (Blk w1 (w.heap.size + 1 + 1) #[.complex .f32 0 0, .complex .f32 0 0, .complex .f32 0 0, .float .f32 0, .float .f32 0, .float .f32 0, .float .f32 0] 37) := Q0.out.below hb
  have HB1 : Hid (Below w.heap.size w w1) := HB.out.trans (hb.mono (by omega))
  have hl1 := Q1.out.lt
  clear hb R0 Z0 Q0 HB
  (have d0 := Blk.cellAt (i := 0) R1.out rfl; have d1 := Blk.cellAt (i := 1) R1.out rfl; have d2 := Blk.cellAt (i := 2) R1.out rfl; have d3 := Blk.cellAt (i := 3) R1.out rfl; have d4 := Blk.cellAt (i := 4) R1.out rfl; have d5 := Blk.cellAt (i := 5) R1.out rfl; have d6 := Blk.cellAt (i := 6) R1.out rfl; simp only [List.getElem_toArray, List.getElem_cons_zero, List.getElem_cons_succ] at d0 d1 d2 d3 d4 d5 d6)
  have zc := Blk.cellAt (i := 0) Z1.out rfl
  simp only [List.getElem_toArray, List.getElem_cons_zero, List.getElem_cons_succ] at zc
  have ZC : Hid (w1.cell? ⟨w.heap.size + 1, 0, Option.none⟩ = some (.complex .f32 z1 z2)) := zc
  go_wp2_with (go_at_call 17; (with_reducible refine (P.call _).mono ?_); rintro e w2 ⟨rfl, rfl⟩)
  refine ((M.put _ _ ZC.out).call).mono ?_
  rintro e w3 ⟨rfl, hb⟩
  have R3 : Hid (Blk w3 w.heap.size #[.complex .f32 s.a1 s.a2, .complex .f32 s.b1 s.b2, .complex .f32 s.c1 s.c2, .float .f32 s.r, .float .f32 s.g, .float .f32 s.b, .float .f32 s.k] 37) := R1.out.below hb
  have Q3 : Hid (Blk w3 (w.heap.size + 1 + 1) #[.complex .f32 0 0, .complex .f32 0 0, .complex .f32 0 0, .float .f32 0, .float .f32 0, .float .f32 0, .float .f32 0] 37) := Q1.out.below hb
  have HB3 : Hid (Below w.heap.size w w3) := HB1.out.trans (hb.mono (by omega))
  have hl3 := Q3.out.lt
  clear hb R1 Z1 Q1 HB1 d0 d1 d2 d3 d4 d5 d6 zc ZC
  go_wp2_with fail
  have R4 : Hid (Blk (w3.alloc (.cells #[.complex .f32 t.a1 t.a2, .complex .f32 t.b1 t.b2, .complex .f32 t.c1 t.c2, .float .f32 t.r, .float .f32 t.g, .float .f32 t.b, .float .f32 t.k] 37)) w.heap.size #[.complex .f32 s.a1 s.a2, .complex .f32 s.b1 s.b2, .complex .f32 s.c1 s.c2, .float .f32 s.r, .float .f32 s.g, .float .f32 s.b, .float .f32 s.k] 37) := R3.out.alloc
  have Q4 : Hid (Blk (w3.alloc (.cells #[.complex .f32 t.a1 t.a2, .complex .f32 t.b1 t.b2, .complex .f32 t.c1 t.c2, .float .f32 t.r, .float .f32 t.g, .float .f32 t.b, .float .f32 t.k] 37)) (w.heap.size + 1 + 1) #[.complex .f32 0 0, .complex .f32 0 0, .complex .f32 0 0, .float .f32 0, .float .f32 0, .float .f32 0, .float .f32 0] 37) := Q3.out.alloc
  have T4 : Hid (Blk (w3.alloc (.cells #[.complex .f32 t.a1 t.a2, .complex .f32 t.b1 t.b2, .complex .f32 t.c1 t.c2, .float .f32 t.r, .float .f32 t.g, .float .f32 t.b, .float .f32 t.k] 37)) w3.heap.size #[.complex .f32 t.a1 t.a2, .complex .f32 t.b1 t.b2, .complex .f32 t.c1 t.c2, .float .f32 t.r, .float .f32 t.g, .float .f32 t.b, .float .f32 t.k] 37) := Blk.new _ _ _
  have HB4 : Hid (Below w.heap.size w (w3.alloc (.cells #[.complex .f32 t.a1 t.a2, .complex .f32 t.b1 t.b2, .complex .f32 t.c1 t.c2, .float .f32 t.r, .float .f32 t.g, .float .f32 t.b, .float .f32 t.k] 37))) := HB3.out.alloc (by omega) _
  have hz : (w3.alloc (.cells #[.complex .f32 t.a1 t.a2, .complex .f32 t.b1 t.b2, .complex .f32 t.c1 t.c2, .float .f32 t.r, .float .f32 t.g, .float .f32 t.b, .float .f32 t.k] 37)).heap.size = w3.heap.size + 1 := by simp
  clear R3 Q3 HB3
  generalize w3.alloc (.cells #[.complex .f32 t.a1 t.a2, .complex .f32 t.b1 t.b2, .complex .f32 t.c1 t.c2, .float .f32 t.r, .float .f32 t.g, .float .f32 t.b, .float .f32 t.k] 37) = X4 at R4 Q4 T4 HB4 hz ⊢
  refine (T.call _).mono ?_
  rintro e w5 ⟨rfl, hb⟩
  have R5 : Hid (Blk w5 w.heap.size #[.complex .f32 s.a1 s.a2, .complex .f32 s.b1 s.b2, .complex .f32 s.c1 s.c2, .float .f32 s.r, .float .f32 s.g, .float .f32 s.b, .float .f32 s.k] 37) := R4.out.below hb
  have Q5 : Hid (Blk w5 (w.heap.size + 1 + 1) #[.complex .f32 0 0, .complex .f32 0 0, .complex .f32 0 0, .float .f32 0, .float .f32 0, .float .f32 0, .float .f32 0] 37) := Q4.out.below hb
  have T5 : Hid (Blk w5 w3.heap.size #[.complex .f32 t.a1 t.a2, .complex .f32 t.b1 t.b2, .complex .f32 t.c1 t.c2, .float .f32 t.r, .float .f32 t.g, .float .f32 t.b, .float .f32 t.k] 37) := T4.out.below hb
  have HB5 : Hid (Below w.heap.size w w5) := HB4.out.trans (hb.mono (by omega))
  have hl5 := T5.out.lt
  clear hb R4 Q4 T4 HB4
  have o0 := Blk.cellAt (i := 0) Q5.out rfl
  have o1 := Blk.cellAt (i := 1) Q5.out rfl
  have o2 := Blk.cellAt (i := 2) Q5.out rfl
  have o3 := Blk.cellAt (i := 3) Q5.out rfl
  have o4 := Blk.cellAt (i := 4) Q5.out rfl
  have o5 := Blk.cellAt (i := 5) Q5.out rfl
  have o6 := Blk.cellAt (i := 6) Q5.out rfl
  simp only [List.getElem_toArray, List.getElem_cons_zero, List.getElem_cons_succ] at o0 o1 o2 o3 o4 o5 o6
  have p0 := Q5.out.free 0
  have p1 := Q5.out.free 1
  have p2 := Q5.out.free 2
  have p3 := Q5.out.free 3
  have p4 := Q5.out.free 4
  have p5 := Q5.out.free 5
  have p6 := Q5.out.free 6
  cases p
  · simp only [Bool.false_eq_true, if_false]
    (have d0 := Blk.cellAt (i := 0) R5.out rfl; have d1 := Blk.cellAt (i := 1) R5.out rfl; have d2 := Blk.cellAt (i := 2) R5.out rfl; have d3 := Blk.cellAt (i := 3) R5.out rfl; have d4 := Blk.cellAt (i := 4) R5.out rfl; have d5 := Blk.cellAt (i := 5) R5.out rfl; have d6 := Blk.cellAt (i := 6) R5.out rfl; simp only [List.getElem_toArray, List.getElem_cons_zero, List.getElem_cons_succ] at d0 d1 d2 d3 d4 d5 d6)
    go_wp2
    (have E0 := Q5.out.set (i := 0) (v := .complex .f32 s.a1 s.a2); have E1 := E0.set (i := 1) (v := .complex .f32 s.b1 s.b2); have E2 := E1.set (i := 2) (v := .complex .f32 s.c1 s.c2); have E3 := E2.set (i := 3) (v := .float .f32 s.r); have E4 := E3.set (i := 4) (v := .float .f32 s.g); have E5 := E4.set (i := 5) (v := .float .f32 s.b); have E6 := E5.set (i := 6) (v := .float .f32 s.k); have e0 := E0.cell 0; have e1 := E1.cell 1; have e2 := E2.cell 2; have e3 := E3.cell 3; have e4 := E4.cell 4; have e5 := E5.cell 5; have e6 := E6.cell 6; simp only [List.setIfInBounds_toArray, List.set_cons_zero, List.set_cons_succ, List.getElem?_toArray, List.getElem?_cons_zero, List.getElem?_cons_succ] at e0 e1 e2 e3 e4 e5 e6)
    have hbb := HB5.out
    exact bodyPost_ret (v := .tuple #[.agg #[.complex .f32 s.a1 s.a2, .complex .f32 s.b1 s.b2, .complex .f32 s.c1 s.c2, .float .f32 s.r, .float .f32 s.g, .float .f32 s.b, .float .f32 s.k], .bool false]) (by simp [results, Try.results21, go_sem, e0, e1, e2, e3, e4, e5, e6]) rfl ⟨rfl, by (repeat' (first | (with_reducible exact Below.refl _ _) | (with_reducible assumption) | (with_reducible refine Below.alloc ?_ ?_ _) | (with_reducible refine Below.drew ?_) | (with_reducible refine Below.setCell ?_ ?_ _) | (with_reducible refine Below.trans ?_ (Below.mono (by assumption) ?_)) | (with_reducible exact Nat.le_refl _) | omega | (simp only [World.size_alloc, World.size_setCell, World.size_drew]; omega) | (simp; omega) | (simp; done)))⟩
  · simp only [if_true]
    (have d0 := Blk.cellAt (i := 0) T5.out rfl; have d1 := Blk.cellAt (i := 1) T5.out rfl; have d2 := Blk.cellAt (i := 2) T5.out rfl; have d3 := Blk.cellAt (i := 3) T5.out rfl; have d4 := Blk.cellAt (i := 4) T5.out rfl; have d5 := Blk.cellAt (i := 5) T5.out rfl; have d6 := Blk.cellAt (i := 6) T5.out rfl; simp only [List.getElem_toArray, List.getElem_cons_zero, List.getElem_cons_succ] at d0 d1 d2 d3 d4 d5 d6)
    go_wp2
    (have E0 := Q5.out.set (i := 0) (v := .complex .f32 t.a1 t.a2); have E1 := E0.set (i := 1) (v := .complex .f32 t.b1 t.b2); have E2 := E1.set (i := 2) (v := .complex .f32 t.c1 t.c2); have E3 := E2.set (i := 3) (v := .float .f32 t.r); have E4 := E3.set (i := 4) (v := .float .f32 t.g); have E5 := E4.set (i := 5) (v := .float .f32 t.b); have E6 := E5.set (i := 6) (v := .float .f32 t.k); have e0 := E0.cell 0; have e1 := E1.cell 1; have e2 := E2.cell 2; have e3 := E3.cell 3; have e4 := E4.cell 4; have e5 := E5.cell 5; have e6 := E6.cell 6; simp only [List.setIfInBounds_toArray, List.set_cons_zero, List.set_cons_succ, List.getElem?_toArray, List.getElem?_cons_zero, List.getElem?_cons_succ] at e0 e1 e2 e3 e4 e5 e6)
    have hbb := HB5.out
    exact bodyPost_ret (v := .tuple #[.agg #[.complex .f32 t.a1 t.a2, .complex .f32 t.b1 t.b2, .complex .f32 t.c1 t.c2, .float .f32 t.r, .float .f32 t.g, .float .f32 t.b, .float .f32 t.k], .bool true]) (by simp [results, Try.results21, go_sem, e0, e1, e2, e3, e4, e5, e6]) rfl ⟨rfl, by (repeat' (first | (with_reducible exact Below.refl _ _) | (with_reducible assumption) | (with_reducible refine Below.alloc ?_ ?_ _) | (with_reducible refine Below.drew ?_) | (with_reducible refine Below.setCell ?_ ?_ _) | (with_reducible refine Below.trans ?_ (Below.mono (by assumption) ?_)) | (with_reducible exact Nat.le_refl _) | omega | (simp only [World.size_alloc, World.size_setCell, World.size_drew]; omega) | (simp; omega) | (simp; done)))⟩⟩

structure ActsTo (t : Int) (f : Bool) (s r : Shd) : Prop where
  put : ∀ (q : Nat) (W : World), W.cell? ⟨q, 0, Option.none⟩ = some (.int .i64 t) → W.cell? ⟨q, 1, Option.none⟩ = some (.bool f) → WithC 37 q W s r
structure ActShIs (t : Int) (f : Bool) (s r : Shd) : Prop where
  call : ∀ w : World, Calls Try.prog 12 #[.agg #[.int .i64 t, .bool f], .agg #[.complex .f32 s.a1 s.a2, .complex .f32 s.b1 s.b2, .complex .f32 s.c1 s.c2, .float .f32 s.r, .float .f32 s.g, .float .f32 s.b, .float .f32 s.k]] w fun e w' => e = .returned (.agg #[.complex .f32 r.a1 r.a2, .complex .f32 r.b1 r.b2, .complex .f32 r.c1 r.c2, .float .f32 r.r, .float .f32 r.g, .float .f32 r.b, .float .f32 r.k]) ∧ Below w.heap.size w w'
set_option maxHeartbeats 8000000 in
theorem actShard_of {t : Int} {f : Bool} {s r : Shd} (Y : IsY t f) (S : ShdIs s true) (M : ActsTo t f s r) : ActShIs t f s r := ⟨fun w => by
  go_enter Try.func12, Try.ntmps12
  go_wp2_with fail
  generalize hW : ((w.alloc (.cells #[.int .i64 t, .bool f] 32)).alloc (.cells #[.complex .f32 s.a1 s.a2, .complex .f32 s.b1 s.b2, .complex .f32 s.c1 s.c2, .float .f32 s.r, .float .f32 s.g, .float .f32 s.b, .float .f32 s.k] 37)).alloc (.cells #[.complex .f32 0 0, .complex .f32 0 0, .complex .f32 0 0, .float .f32 0, .float .f32 0, .float .f32 0, .float .f32 0] 37) = X
  have hs : X.heap.size = w.heap.size + 3 := by rw [← hW]; simp
  have Z0 : Hid (Blk X w.heap.size #[.int .i64 t, .bool f] 32) := by rw [← hW]; exact ((Blk.new _ _ _).alloc).alloc
  have R0 : Hid (Blk X (w.heap.size + 1) #[.complex .f32 s.a1 s.a2, .complex .f32 s.b1 s.b2, .complex .f32 s.c1 s.c2, .float .f32 s.r, .float .f32 s.g, .float .f32 s.b, .float .f32 s.k] 37) := by rw [← hW]; exact (Blk.newAt (by simp)).alloc
  have Q0 : Hid (Blk X (w.heap.size + 1 + 1) #[.complex .f32 0 0, .complex .f32 0 0, .complex .f32 0 0, .float .f32 0, .float .f32 0, .float .f32 0, .float .f32 0] 37) := by rw [← hW]; exact Blk.newAt (by simp)
  have hB : Below w.heap.size w X := by rw [← hW]; (repeat' (first | (with_reducible exact Below.refl _ _) | (with_reducible assumption) | (with_reducible refine Below.alloc ?_ ?_ _) | (with_reducible refine Below.drew ?_) | (with_reducible refine Below.setCell ?_ ?_ _) | (with_reducible refine Below.trans ?_ (Below.mono (by assumption) ?_)) | (with_reducible exact Nat.le_refl _) | omega | (simp only [World.size_alloc, World.size_setCell, World.size_drew]; omega) | (simp; omega) | (simp; done)))
  have HB : Hid (Below w.heap.size w X) := hB
  clear hW hB
  refine (Y.call _).mono ?_
  rintro e w1 ⟨rfl, hb⟩
  have R1 : Hid (Blk w1 (w.heap.size + 1) #[.complex .f32 s.a1 s.a2, .complex .f32 s.b1 s.b2, .complex .f32 s.c1 s.c2, .float .f32 s.r, .float .f32 s.g, .float .f32 s.b, .float .f32 s.k] 37) := R0.out.below hb
  have Z1 : Hid (Blk w1 w.heap.size #[.int .i64 t, .bool f] 32) := Z0.out.below hb
  have Q1 : Hid (Blk w1 (w.heap.size + 1 + 1) #[.complex .f32 0 0, .complex .f32 0 0, .complex .f32 0 0, .float .f32 0, .float .f32 0, .float .f32 0, .float .f32 0] 37) := Q0.out.below hb
  have HB1 : Hid (Below w.heap.size w w1) := HB.out.trans (hb.mono (by omega))
  have hl1 := Q1.out.lt
  clear hb R0 Z0 Q0 HB
  (have d0 := Blk.cellAt (i := 0) R1.out rfl; have d1 := Blk.cellAt (i := 1) R1.out rfl; have d2 := Blk.cellAt (i := 2) R1.out rfl; have d3 := Blk.cellAt (i := 3) R1.out rfl; have d4 := Blk.cellAt (i := 4) R1.out rfl; have d5 := Blk.cellAt (i := 5) R1.out rfl; have d6 := Blk.cellAt (i := 6) R1.out rfl; simp only [List.getElem_toArray, List.getElem_cons_zero, List.getElem_cons_succ] at d0 d1 d2 d3 d4 d5 d6)
  go_wp2_with fail
  refine (S.call _).mono ?_
  rintro e w2 ⟨rfl, hb⟩
  have R2 : Hid (Blk w2 (w.heap.size + 1) #[.complex .f32 s.a1 s.a2, .complex .f32 s.b1 s.b2, .complex .f32 s.c1 s.c2, .float .f32 s.r, .float .f32 s.g, .float .f32 s.b, .float .f32 s.k] 37) := R1.out.below hb
  have Z2 : Hid (Blk w2 w.heap.size #[.int .i64 t, .bool f] 32) := Z1.out.below hb
  have Q2 : Hid (Blk w2 (w.heap.size + 1 + 1) #[.complex .f32 0 0, .complex .f32 0 0, .complex .f32 0 0, .float .f32 0, .float .f32 0, .float .f32 0, .float .f32 0] 37) := Q1.out.below hb
  have HB2 : Hid (Below w.heap.size w w2) := HB1.out.trans (hb.mono (by omega))
  have hl2 := Q2.out.lt
  have z0 : Hid (w2.cell? ⟨w.heap.size, 0, Option.none⟩ = some (.int .i64 t)) := Z2.out.cell 0
  have z1 : Hid (w2.cell? ⟨w.heap.size, 1, Option.none⟩ = some (.bool f)) := Z2.out.cell 1
  clear hb R1 Z1 Q1 HB1 d0 d1 d2 d3 d4 d5 d6
  (have d0 := Blk.cellAt (i := 0) R2.out rfl; have d1 := Blk.cellAt (i := 1) R2.out rfl; have d2 := Blk.cellAt (i := 2) R2.out rfl; have d3 := Blk.cellAt (i := 3) R2.out rfl; have d4 := Blk.cellAt (i := 4) R2.out rfl; have d5 := Blk.cellAt (i := 5) R2.out rfl; have d6 := Blk.cellAt (i := 6) R2.out rfl; simp only [List.getElem_toArray, List.getElem_cons_zero, List.getElem_cons_succ] at d0 d1 d2 d3 d4 d5 d6)
  go_wp2_with fail
  refine ((M.put _ _ z0.out z1.out).call).mono ?_
  rintro e w3 ⟨rfl, hb⟩
  have Q3 : Hid (Blk w3 (w.heap.size + 1 + 1) #[.complex .f32 0 0, .complex .f32 0 0, .complex .f32 0 0, .float .f32 0, .float .f32 0, .float .f32 0, .float .f32 0] 37) := Q2.out.below hb
  have HB3 : Hid (Below w.heap.size w w3) := HB2.out.trans (hb.mono (by omega))
  have hl3 := Q3.out.lt
  clear hb R2 Z2 Q2 HB2 d0 d1 d2 d3 d4 d5 d6 z0 z1
  have o0 := Blk.cellAt (i := 0) Q3.out rfl
  have o1 := Blk.cellAt (i := 1) Q3.out rfl
  have o2 := Blk.cellAt (i := 2) Q3.out rfl
  have o3 := Blk.cellAt (i := 3) Q3.out rfl
  have o4 := Blk.cellAt (i := 4) Q3.out rfl
  have o5 := Blk.cellAt (i := 5) Q3.out rfl
  have o6 := Blk.cellAt (i := 6) Q3.out rfl
  simp only [List.getElem_toArray, List.getElem_cons_zero, List.getElem_cons_succ] at o0 o1 o2 o3 o4 o5 o6
  have p0 := Q3.out.free 0
  have p1 := Q3.out.free 1
  have p2 := Q3.out.free 2
  have p3 := Q3.out.free 3
  have p4 := Q3.out.free 4
  have p5 := Q3.out.free 5
  have p6 := Q3.out.free 6
  go_wp2
  (have E0 := Q3.out.set (i := 0) (v := .complex .f32 r.a1 r.a2); have E1 := E0.set (i := 1) (v := .complex .f32 r.b1 r.b2); have E2 := E1.set (i := 2) (v := .complex .f32 r.c1 r.c2); have E3 := E2.set (i := 3) (v := .float .f32 r.r); have E4 := E3.set (i := 4) (v := .float .f32 r.g); have E5 := E4.set (i := 5) (v := .float .f32 r.b); have E6 := E5.set (i := 6) (v := .float .f32 r.k); have e0 := E0.cell 0; have e1 := E1.cell 1; have e2 := E2.cell 2; have e3 := E3.cell 3; have e4 := E4.cell 4; have e5 := E5.cell 5; have e6 := E6.cell 6; simp only [List.setIfInBounds_toArray, List.set_cons_zero, List.set_cons_succ, List.getElem?_toArray, List.getElem?_cons_zero, List.getElem?_cons_succ] at e0 e1 e2 e3 e4 e5 e6)
  have hbb := HB3.out
  exact bodyPost_ret (v := .agg #[.complex .f32 r.a1 r.a2, .complex .f32 r.b1 r.b2, .complex .f32 r.c1 r.c2, .float .f32 r.r, .float .f32 r.g, .float .f32 r.b, .float .f32 r.k]) (by simp [results, Try.results12, go_sem, e0, e1, e2, e3, e4, e5, e6]) rfl ⟨rfl, by (repeat' (first | (with_reducible exact Below.refl _ _) | (with_reducible assumption) | (with_reducible refine Below.alloc ?_ ?_ _) | (with_reducible refine Below.drew ?_) | (with_reducible refine Below.setCell ?_ ?_ _) | (with_reducible refine Below.trans ?_ (Below.mono (by assumption) ?_)) | (with_reducible exact Nat.le_refl _) | omega | (simp only [World.size_alloc, World.size_setCell, World.size_drew]; omega) | (simp; omega) | (simp; done)))⟩⟩
end Go.Proofs.Ytkcfekhpppihhaa
