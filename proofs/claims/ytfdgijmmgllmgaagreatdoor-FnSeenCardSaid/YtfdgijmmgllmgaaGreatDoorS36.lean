/-
  Texts Gh Qh, joined.
-/
import Derived.Test.YtfdgijmmgllmgaaGreatDoorS35
import Derived.Test.YtfdgijmmgllmgaaGreatDoorS05
import Derived.Test.YtfdgijmmgllmgaaGreatDoorS34
import Derived.Test.YtfdgijmmgllmgaaGreatDoorS25
import Derived.Deep.AppendLies
import Derived.Deep.DeepCutAuto
import Derived.Deep.RegionHeld3
namespace Go.Proofs.YtfdgijmmgllmgaaGreatDoor
open Go.ChangeShapes Go.WideShapes Go.ChangeAt Go.RowKit Go.Joins
set_option linter.unusedSimpArgs false
set_option linter.unusedVariables false
set_option maxRecDepth 100000
attribute [local go_sem] store_f
open Ieee
attribute [local go_sem] store_c
structure MoveIs (s : Shd) (z1 z2 : Nat) (t : Shd) (p : Bool) : Prop where
  call : ∀ w : World, Calls Tryz.prog 50 #[.agg #[.complex .f32 s.a1 s.a2, .complex .f32 s.b1 s.b2, .complex .f32 s.c1 s.c2, .float .f32 s.r, .float .f32 s.g, .float .f32 s.b, .float .f32 s.k], .complex .f32 z1 z2] w fun e w' => e = .returned (.tuple #[.agg #[.complex .f32 t.a1 t.a2, .complex .f32 t.b1 t.b2, .complex .f32 t.c1 t.c2, .float .f32 t.r, .float .f32 t.g, .float .f32 t.b, .float .f32 t.k], .bool p]) ∧ Below w.heap.size w w'
structure MovesTo (s : Shd) (z1 z2 : Nat) (t : Shd) : Prop where
  put : ∀ (q : Nat) (W : World), W.cell? ⟨q, 0, Option.none⟩ = some (.complex .f32 z1 z2) → WithC 87 q W s t
theorem clo_move {q : Nat} {W : World} {x y z1 z2 p r : Nat} (J : Join 88 x y z1 z2 p r) (hc : W.cell? ⟨q, 0, Option.none⟩ = some (.complex .f32 z1 z2)) : Clo 87 q W x y p r := ⟨fun w1 hb => by
  have c := cBelow hb hc
  clear hc hb
  go_enter Tryz.func87, Tryz.ntmps87
  go_wp2_with (go_at_call 84; (with_reducible refine (J.call _).mono ?_); rintro e w2 ⟨rfl, rfl⟩)
  go_ret
  exact ⟨rfl, Below.refl _ _⟩⟩
set_option maxHeartbeats 8000000 in
theorem move_of {s t : Shd} {z1 z2 : Nat} (p : Bool) (S : ShdIs s true) (P : PtIs z1 z2 true) (M : MovesTo s z1 z2 t) (T : ShdIs t p) : MoveIs s z1 z2 (if p then t else s) p := ⟨fun w => by
  go_enter Tryz.func50, Tryz.ntmps50
  go_wp2_with fail
  generalize hW : ((w.alloc (.cells #[.complex .f32 s.a1 s.a2, .complex .f32 s.b1 s.b2, .complex .f32 s.c1 s.c2, .float .f32 s.r, .float .f32 s.g, .float .f32 s.b, .float .f32 s.k] 36)).alloc (.cells #[.complex .f32 z1 z2] 28)).alloc (.cells #[.complex .f32 0 0, .complex .f32 0 0, .complex .f32 0 0, .float .f32 0, .float .f32 0, .float .f32 0, .float .f32 0] 36) = X
  have hs : X.heap.size = w.heap.size + 3 := by rw [← hW]; simp
  have R0 : Hid (Blk X w.heap.size #[.complex .f32 s.a1 s.a2, .complex .f32 s.b1 s.b2, .complex .f32 s.c1 s.c2, .float .f32 s.r, .float .f32 s.g, .float .f32 s.b, .float .f32 s.k] 36) := by rw [← hW]; exact ((Blk.new _ _ _).alloc).alloc
  have Z0 : Hid (Blk X (w.heap.size + 1) #[.complex .f32 z1 z2] 28) := by rw [← hW]; exact (Blk.newAt (by simp)).alloc
  have Q0 : Hid (Blk X (w.heap.size + 1 + 1) #[.complex .f32 0 0, .complex .f32 0 0, .complex .f32 0 0, .float .f32 0, .float .f32 0, .float .f32 0, .float .f32 0] 36) := by rw [← hW]; exact Blk.newAt (by simp)
  have hB : Below w.heap.size w X := by rw [← hW]; (repeat' (first | (with_reducible exact Below.refl _ _) | (with_reducible assumption) | (with_reducible refine Below.alloc ?_ ?_ _) | (with_reducible refine Below.drew ?_) | (with_reducible refine Below.setCell ?_ ?_ _) | (with_reducible refine Below.trans ?_ (Below.mono (by assumption) ?_)) | (with_reducible exact Nat.le_refl _) | omega | (simp only [World.size_alloc, World.size_setCell, World.size_drew]; omega) | (simp; omega) | (simp; done)))
  have HB : Hid (Below w.heap.size w X) := hB
  clear hW hB
  refine (S.call _).mono ?_
  rintro e w1 ⟨rfl, hb⟩
  have R1 : Hid (Blk w1 w.heap.size #[.complex .f32 s.a1 s.a2, .complex .f32 s.b1 s.b2, .complex .f32 s.c1 s.c2, .float .f32 s.r, .float .f32 s.g, .float .f32 s.b, .float .f32 s.k] 36) := R0.out.below hb
  have Z1 : Hid (Blk w1 (w.heap.size + 1) #[.complex .f32 z1 z2] 28) := Z0.out.below hb
  have Q1 : Hid (Blk w1 (w.heap.size + 1 + 1) #[.complex .f32 0 0, .complex .f32 0 0, .complex .f32 0 0, .float .f32 0, .float .f32 0, .float .f32 0, .float .f32 0] 36) := Q0.out.below hb
  have HB1 : Hid (Below w.heap.size w w1) := HB.out.trans (hb.mono (by omega))
  have hl1 := Q1.out.lt
  clear hb R0 Z0 Q0 HB
  (obtain ⟨d0, d1, d2, d3, d4, d5, d6⟩ := blk7 (R1.out))
  have zc := Blk.cellAt (i := 0) Z1.out rfl
  simp only [List.getElem_toArray, List.getElem_cons_zero, List.getElem_cons_succ] at zc
  have ZC : Hid (w1.cell? ⟨w.heap.size + 1, 0, Option.none⟩ = some (.complex .f32 z1 z2)) := zc
  go_wp2_with (go_at_call 75; (with_reducible refine (P.call _).mono ?_); rintro e w2 ⟨rfl, rfl⟩)
  refine ((M.put _ _ ZC.out).call).mono ?_
  rintro e w3 ⟨rfl, hb⟩
  have R3 : Hid (Blk w3 w.heap.size #[.complex .f32 s.a1 s.a2, .complex .f32 s.b1 s.b2, .complex .f32 s.c1 s.c2, .float .f32 s.r, .float .f32 s.g, .float .f32 s.b, .float .f32 s.k] 36) := R1.out.below hb
  have Q3 : Hid (Blk w3 (w.heap.size + 1 + 1) #[.complex .f32 0 0, .complex .f32 0 0, .complex .f32 0 0, .float .f32 0, .float .f32 0, .float .f32 0, .float .f32 0] 36) := Q1.out.below hb
  have HB3 : Hid (Below w.heap.size w w3) := HB1.out.trans (hb.mono (by omega))
  have hl3 := Q3.out.lt
  clear hb R1 Z1 Q1 HB1 d0 d1 d2 d3 d4 d5 d6 zc ZC
  go_wp2_with fail
  have R4 : Hid (Blk (w3.alloc (.cells #[.complex .f32 t.a1 t.a2, .complex .f32 t.b1 t.b2, .complex .f32 t.c1 t.c2, .float .f32 t.r, .float .f32 t.g, .float .f32 t.b, .float .f32 t.k] 36)) w.heap.size #[.complex .f32 s.a1 s.a2, .complex .f32 s.b1 s.b2, .complex .f32 s.c1 s.c2, .float .f32 s.r, .float .f32 s.g, .float .f32 s.b, .float .f32 s.k] 36) := R3.out.alloc
  have Q4 : Hid (Blk (w3.alloc (.cells #[.complex .f32 t.a1 t.a2, .complex .f32 t.b1 t.b2, .complex .f32 t.c1 t.c2, .float .f32 t.r, .float .f32 t.g, .float .f32 t.b, .float .f32 t.k] 36)) (w.heap.size + 1 + 1) #[.complex .f32 0 0, .complex .f32 0 0, .complex .f32 0 0, .float .f32 0, .float .f32 0, .float .f32 0, .float .f32 0] 36) := Q3.out.alloc
  have T4 : Hid (Blk (w3.alloc (.cells #[.complex .f32 t.a1 t.a2, .complex .f32 t.b1 t.b2, .complex .f32 t.c1 t.c2, .float .f32 t.r, .float .f32 t.g, .float .f32 t.b, .float .f32 t.k] 36)) w3.heap.size #[.complex .f32 t.a1 t.a2, .complex .f32 t.b1 t.b2, .complex .f32 t.c1 t.c2, .float .f32 t.r, .float .f32 t.g, .float .f32 t.b, .float .f32 t.k] 36) := Blk.new _ _ _
  have HB4 : Hid (Below w.heap.size w (w3.alloc (.cells #[.complex .f32 t.a1 t.a2, .complex .f32 t.b1 t.b2, .complex .f32 t.c1 t.c2, .float .f32 t.r, .float .f32 t.g, .float .f32 t.b, .float .f32 t.k] 36))) := HB3.out.alloc (by omega) _
  have hz : (w3.alloc (.cells #[.complex .f32 t.a1 t.a2, .complex .f32 t.b1 t.b2, .complex .f32 t.c1 t.c2, .float .f32 t.r, .float .f32 t.g, .float .f32 t.b, .float .f32 t.k] 36)).heap.size = w3.heap.size + 1 := by simp
  clear R3 Q3 HB3
  generalize w3.alloc (.cells #[.complex .f32 t.a1 t.a2, .complex .f32 t.b1 t.b2, .complex .f32 t.c1 t.c2, .float .f32 t.r, .float .f32 t.g, .float .f32 t.b, .float .f32 t.k] 36) = X4 at R4 Q4 T4 HB4 hz ⊢
  refine (T.call _).mono ?_
  rintro e w5 ⟨rfl, hb⟩
  have R5 : Hid (Blk w5 w.heap.size #[.complex .f32 s.a1 s.a2, .complex .f32 s.b1 s.b2, .complex .f32 s.c1 s.c2, .float .f32 s.r, .float .f32 s.g, .float .f32 s.b, .float .f32 s.k] 36) := R4.out.below hb
  have Q5 : Hid (Blk w5 (w.heap.size + 1 + 1) #[.complex .f32 0 0, .complex .f32 0 0, .complex .f32 0 0, .float .f32 0, .float .f32 0, .float .f32 0, .float .f32 0] 36) := Q4.out.below hb
  have T5 : Hid (Blk w5 w3.heap.size #[.complex .f32 t.a1 t.a2, .complex .f32 t.b1 t.b2, .complex .f32 t.c1 t.c2, .float .f32 t.r, .float .f32 t.g, .float .f32 t.b, .float .f32 t.k] 36) := T4.out.below hb
  have HB5 : Hid (Below w.heap.size w w5) := HB4.out.trans (hb.mono (by omega))
  have hl5 := T5.out.lt
  clear hb R4 Q4 T4 HB4
  have o0 := Blk.cellAt (i := 0) Q5.out rfl
  have o1 := Blk.cellAt (i := 1) Q5.out rfl
  have o2 := Blk.cellAt (i := 2) Q5.out rfl
  have o3 := Blk.cellAt (i := 3) Q5.out rfl
  have o4 := Blk.cellAt (i := 4) Q5.out rfl
  have o5 := Blk.cellAt (i := 5) Q5.out rfl
  have o6 := Blk.cellAt (i := 6) Q5.out rfl
  simp only [List.getElem_toArray, List.getElem_cons_zero, List.getElem_cons_succ] at o0 o1 o2 o3 o4 o5 o6
  have p0 := Q5.out.free 0
  have p1 := Q5.out.free 1
  have p2 := Q5.out.free 2
  have p3 := Q5.out.free 3
  have p4 := Q5.out.free 4
  have p5 := Q5.out.free 5
  have p6 := Q5.out.free 6
  cases p
  · simp only [Bool.false_eq_true, if_false]
    (obtain ⟨d0, d1, d2, d3, d4, d5, d6⟩ := blk7 (R5.out))
    go_wp2
    (have E0 := Q5.out.set (i := 0) (v := .complex .f32 s.a1 s.a2); have E1 := E0.set (i := 1) (v := .complex .f32 s.b1 s.b2); have E2 := E1.set (i := 2) (v := .complex .f32 s.c1 s.c2); have E3 := E2.set (i := 3) (v := .float .f32 s.r); have E4 := E3.set (i := 4) (v := .float .f32 s.g); have E5 := E4.set (i := 5) (v := .float .f32 s.b); have E6 := E5.set (i := 6) (v := .float .f32 s.k); have e0 := E0.cell 0; have e1 := E1.cell 1; have e2 := E2.cell 2; have e3 := E3.cell 3; have e4 := E4.cell 4; have e5 := E5.cell 5; have e6 := E6.cell 6; simp only [List.setIfInBounds_toArray, List.set_cons_zero, List.set_cons_succ, List.getElem?_toArray, List.getElem?_cons_zero, List.getElem?_cons_succ] at e0 e1 e2 e3 e4 e5 e6)
    have hbb := HB5.out
    exact bodyPost_ret (v := .tuple #[.agg #[.complex .f32 s.a1 s.a2, .complex .f32 s.b1 s.b2, .complex .f32 s.c1 s.c2, .float .f32 s.r, .float .f32 s.g, .float .f32 s.b, .float .f32 s.k], .bool false]) (by simp [results, Tryz.results50, go_sem, e0, e1, e2, e3, e4, e5, e6]) rfl ⟨rfl, by (repeat' (first | (with_reducible exact Below.refl _ _) | (with_reducible assumption) | (with_reducible refine Below.alloc ?_ ?_ _) | (with_reducible refine Below.drew ?_) | (with_reducible refine Below.setCell ?_ ?_ _) | (with_reducible refine Below.trans ?_ (Below.mono (by assumption) ?_)) | (with_reducible exact Nat.le_refl _) | omega | (simp only [World.size_alloc, World.size_setCell, World.size_drew]; omega) | (simp; omega) | (simp; done)))⟩
  · simp only [if_true]
    (obtain ⟨d0, d1, d2, d3, d4, d5, d6⟩ := blk7 (T5.out))
    go_wp2
    (have E0 := Q5.out.set (i := 0) (v := .complex .f32 t.a1 t.a2); have E1 := E0.set (i := 1) (v := .complex .f32 t.b1 t.b2); have E2 := E1.set (i := 2) (v := .complex .f32 t.c1 t.c2); have E3 := E2.set (i := 3) (v := .float .f32 t.r); have E4 := E3.set (i := 4) (v := .float .f32 t.g); have E5 := E4.set (i := 5) (v := .float .f32 t.b); have E6 := E5.set (i := 6) (v := .float .f32 t.k); have e0 := E0.cell 0; have e1 := E1.cell 1; have e2 := E2.cell 2; have e3 := E3.cell 3; have e4 := E4.cell 4; have e5 := E5.cell 5; have e6 := E6.cell 6; simp only [List.setIfInBounds_toArray, List.set_cons_zero, List.set_cons_succ, List.getElem?_toArray, List.getElem?_cons_zero, List.getElem?_cons_succ] at e0 e1 e2 e3 e4 e5 e6)
    have hbb := HB5.out
    exact bodyPost_ret (v := .tuple #[.agg #[.complex .f32 t.a1 t.a2, .complex .f32 t.b1 t.b2, .complex .f32 t.c1 t.c2, .float .f32 t.r, .float .f32 t.g, .float .f32 t.b, .float .f32 t.k], .bool true]) (by simp [results, Tryz.results50, go_sem, e0, e1, e2, e3, e4, e5, e6]) rfl ⟨rfl, by (repeat' (first | (with_reducible exact Below.refl _ _) | (with_reducible assumption) | (with_reducible refine Below.alloc ?_ ?_ _) | (with_reducible refine Below.drew ?_) | (with_reducible refine Below.setCell ?_ ?_ _) | (with_reducible refine Below.trans ?_ (Below.mono (by assumption) ?_)) | (with_reducible exact Nat.le_refl _) | omega | (simp only [World.size_alloc, World.size_setCell, World.size_drew]; omega) | (simp; omega) | (simp; done)))⟩⟩
end Go.Proofs.YtfdgijmmgllmgaaGreatDoor
namespace Go.Proofs.YtfdgijmmgllmgaaGreatDoor
open Go.ChangeShapes Go.WideShapes Go.ChangeAt Go.RowKit Go.Joins
set_option linter.unusedSimpArgs false
set_option linter.unusedVariables false
set_option maxRecDepth 100000
attribute [local go_sem] store_f
open Ieee Go.Lib
attribute [local go_sem] store_c
def movL (F : Nat → Shd × Bool) : Nat → List Shd
  | 0 => []
  | j + 1 => if (F j).2 then movL F j ++ [(F j).1] else movL F j
theorem movL_len (F : Nat → Shd × Bool) : ∀ j, (movL F j).length ≤ j
  | 0 => Nat.le_refl 0
  | j + 1 => by
    have := movL_len F j
    unfold movL
    split
    · simp; omega
    · omega
theorem movL_ok {F : Nat → Shd × Bool} {n : Nat} (h : ∀ j, j < n → (F j).2 = true → (F j).1.Ok) : ∀ j, j ≤ n → ∀ s ∈ movL F j, s.Ok
  | 0, _, s, hs => by simp [movL] at hs
  | j + 1, hj, s, hs => by
    have ih := movL_ok h j (by omega)
    unfold movL at hs
    split at hs
    · rename_i hp
      rcases List.mem_append.1 hs with h1 | h1
      · exact ih s h1
      · rw [List.mem_singleton] at h1; rw [h1]; exact h j (by omega) hp
    · exact ih s hs
theorem owns_lie {W : World} {B T sz n c g : Nat} {xs : List Value} (h : W.ownsRow B T sz (.slice (some ⟨g, 0, Option.none⟩) n c) n xs) : g < W.heap.size ∧ LieAt W g 0 xs := by
  rcases h.2 with ⟨e, _⟩ | ⟨g', cap, cur, e1, hb, hg, _⟩
  · cases e
  · cases e1
    have hB : Blk W g cur T := hg
    refine ⟨hB.lt, fun j u hj => ?_⟩
    rw [Nat.zero_add, h.cellAt _ (by have := (List.getElem?_eq_some_iff.1 hj).1; have := h.1; omega)]
    exact hj
structure MovedM (s : Sho) (N M K : Nat) (l : List Shd) : Prop where
  call : ∀ (w : World) (a b lg : Option Addr) (ca cb cl : Nat), ShoIn w s a b lg → Calls Tryz.prog 18 #[.agg #[.int .i64 s.size, .float .f32 s.step, .float .f32 s.lit.r, .float .f32 s.lit.g, .float .f32 s.lit.b, .slice a N ca, .int .i64 s.kind, .complex .f32 s.g1 s.g2, .float .f32 0, .slice b M cb, .int .i64 s.ticks, .slice lg K cl]] w fun r w' => ∃ g c, (r = .returned (.slice (some ⟨g, 0, Option.none⟩) l.length c) ∧ ShRow w' g 0 l ∧ g < w'.heap.size) ∧ Below w.heap.size w w'
structure MvSt (w wr : World) (s : Sho) (N M K : Nat) (a b lg : Option Addr) (ca cb cl : Nat) (L : List Shd) (g c : Nat) : Prop where
  box : Blk wr w.heap.size #[.int .i64 s.size, .float .f32 s.step, .float .f32 s.lit.r, .float .f32 s.lit.g, .float .f32 s.lit.b, .slice a N ca, .int .i64 s.kind, .complex .f32 s.g1 s.g2, .float .f32 0, .slice b M cb, .int .i64 s.ticks, .slice lg K cl] 34
  own : wr.ownsRow (w.heap.size + 1) 36 7 (.slice (some ⟨g, 0, Option.none⟩) L.length c) L.length (shCells L)
  below : Below w.heap.size w wr
theorem MvSt.mono {w wr W : World} {s : Sho} {N M K : Nat} {a b lg : Option Addr} {ca cb cl : Nat} {L : List Shd} {g c : Nat} (h : MvSt w wr s N M K a b lg ca cb cl L g c) (hb : Below wr.heap.size wr W) : MvSt w W s N M K a b lg ca cb cl L g c :=
  ⟨h.box.below hb, ownsBelow hb h.own, h.below.trans (hb.mono h.below.size)⟩
structure GotS (X W : World) (q : Nat) (t : Shd) : Prop where
  box : Blk W q #[.complex .f32 t.a1 t.a2, .complex .f32 t.b1 t.b2, .complex .f32 t.c1 t.c2, .float .f32 t.r, .float .f32 t.g, .float .f32 t.b, .float .f32 t.k] 36
  below : Below X.heap.size X W
theorem GotS.late {X W : World} {t : Shd} (hb : Below X.heap.size X W) (h : X.heap.size ≤ W.heap.size) : GotS X (W.alloc (.cells #[.complex .f32 t.a1 t.a2, .complex .f32 t.b1 t.b2, .complex .f32 t.c1 t.c2, .float .f32 t.r, .float .f32 t.g, .float .f32 t.b, .float .f32 t.k] 36)) W.heap.size t := ⟨Blk.new _ _ _, hb.alloc h _⟩
theorem GotS.early {X W : World} {q : Nat} {t : Shd} (hz : Blk W q #[.complex .f32 0 0, .complex .f32 0 0, .complex .f32 0 0, .float .f32 0, .float .f32 0, .float .f32 0, .float .f32 0] 36) (hb : Below X.heap.size X W) (h : X.heap.size ≤ q) :
    GotS X (((((((W.setCell ⟨q, 0, Option.none⟩ (.complex .f32 t.a1 t.a2)).setCell ⟨q, 1, Option.none⟩ (.complex .f32 t.b1 t.b2)).setCell ⟨q, 2, Option.none⟩ (.complex .f32 t.c1 t.c2)).setCell ⟨q, 3, Option.none⟩ (.float .f32 t.r)).setCell ⟨q, 4, Option.none⟩ (.float .f32 t.g)).setCell ⟨q, 5, Option.none⟩ (.float .f32 t.b)).setCell ⟨q, 6, Option.none⟩ (.float .f32 t.k)) q t := by
  refine ⟨?_, ((((((hb.setCell h _).setCell h _).setCell h _).setCell h _).setCell h _).setCell h _).setCell h _⟩
  have RS := ((((((hz.set (i := 0) (v := .complex .f32 t.a1 t.a2)).set (i := 1) (v := .complex .f32 t.b1 t.b2)).set (i := 2) (v := .complex .f32 t.c1 t.c2)).set (i := 3) (v := .float .f32 t.r)).set (i := 4) (v := .float .f32 t.g)).set (i := 5) (v := .float .f32 t.b)).set (i := 6) (v := .float .f32 t.k)
  simp only [List.setIfInBounds_toArray, List.set_cons_zero, List.set_cons_succ] at RS
  exact RS
set_option maxHeartbeats 64000000 in
theorem movedM {s : Sho} {N M K : Nat} {F : Nat → Shd × Bool} (hN : s.shs.length = N) (hM : s.bds.length = M) (hNM : N = M) (h8 : M ≤ 8) (HF : ∀ j, j < M → MoveIs (s.shs.getD j default) (s.bds.getD j default).a1 (s.bds.getD j default).a2 (F j).1 (F j).2) : MovedM s N M K (movL F M) := ⟨fun w a b lg ca cb cl hr => by
  subst hNM
  obtain ⟨i0, hi, hz0, hz1, hz2⟩ := info_parts infoShd
  have HR := Lib.hid hr
  have HHF := Lib.hid HF
  have HN := Lib.hid hN
  have HM := Lib.hid hM
  clear hr HF hN hM
  go_enter Tryz.func18, Tryz.ntmps18
  go_wp2_with fail
  have ST : Hid (MvSt w ((w.alloc (.cells #[.int .i64 s.size, .float .f32 s.step, .float .f32 s.lit.r, .float .f32 s.lit.g, .float .f32 s.lit.b, .slice a N ca, .int .i64 s.kind, .complex .f32 s.g1 s.g2, .float .f32 0, .slice b N cb, .int .i64 s.ticks, .slice lg K cl] 34)).alloc (.cells #[] 36)) s N N K a b lg ca cb cl (movL F 0) (w.heap.size + 1) 0) := by
    refine ⟨(Blk.new _ _ _).alloc, ?_, ((Below.refl _ _).alloc (Nat.le_refl _) _).alloc (by simp) _⟩
    have h := World.ownsRow_lit (w.alloc (.cells #[.int .i64 s.size, .float .f32 s.step, .float .f32 s.lit.r, .float .f32 s.lit.g, .float .f32 s.lit.b, .slice a N ca, .int .i64 s.kind, .complex .f32 s.g1 s.g2, .float .f32 0, .slice b N cb, .int .i64 s.ticks, .slice lg K cl] 34)) (e := 36) (size := 7) (base := w.heap.size + 1) #[] 0 (by simp) (by unfold maxLen; omega) rfl
    simpa [movL, shCells] using h
  generalize (w.alloc (.cells #[.int .i64 s.size, .float .f32 s.step, .float .f32 s.lit.r, .float .f32 s.lit.g, .float .f32 s.lit.b, .slice a N ca, .int .i64 s.kind, .complex .f32 s.g1 s.g2, .float .f32 0, .slice b N cb, .int .i64 s.ticks, .slice lg K cl] 34)).alloc (.cells #[] 36) = Z at *
  go_loopw [3, 13] (fun v i wr => ∃ (j : Nat) (g c : Nat), j ≤ N ∧ i = .int .i64 j ∧ v = .slice (some ⟨g, 0, Option.none⟩) (movL F j).length c ∧ MvSt w wr s N N K a b lg ca cb cl (movL F j) g c) (fun _ i _ => N - (intOf i).toNat)
  case atStart => exact ⟨0, _, _, by omega, rfl, rfl, ST.out⟩
  case round =>
    obtain ⟨j, g, c, hj, rfl, rfl, hst⟩ := hrel
    clear ST
    have S0 := Lib.hid hst
    have hlen := movL_len F j
    clear hst
    by_cases hlt : j < N
    · rcases (HR.out.below S0.out.below).bd with hnil | ⟨gb, rfl, hbd⟩
      · exfalso; have h1 := bwIn_of_lies (a := Option.none) (W := w) (.inl hnil); rcases h1 with h1 | ⟨_, h1, _⟩
        · have := HM.out; rw [h1] at this; simp at this; omega
        · cases h1
      rcases (HR.out.below S0.out.below).sh with hnil | ⟨gs, rfl, hsh⟩
      · exfalso; have := HN.out; rw [sh_nil hnil] at this; simp at this; omega
      obtain ⟨b0, b1⟩ := (bwRow_of_lie hbd) j (by have := HM.out; omega)
      have SA := shAt hsh (k := j) (by have := HN.out; omega)
      rw [Nat.zero_add] at SA
      obtain ⟨s0, s1, s2, s3, s4, s5, s6⟩ := SA
      have MI := HHF.out j hlt
      have hstep : movL F (j + 1) = if (F j).2 then movL F j ++ [(F j).1] else movL F j := rfl
      have HST := Lib.hid hstep
      generalize s.shs.getD j default = sh at *
      generalize s.bds.getD j default = bd at *
      generalize (F j).1 = t at *
      generalize (F j).2 = p at *
      have hj0 : (0 : Int) ≤ (j : Int) := by omega
      have hj1 : (j : Int) < (N : Int) := by omega
      have lx := S0.out.box.lt
      have lb := cell_lt b0
      have ls := cell_lt s0
      (obtain ⟨p0, p1, p2, p3, p4, p5, p6, p7, p8, p9, p10, p11⟩ := blk12 (S0.out.box))
      clear hbd hsh hstep
      go_upto_region 5 with fail
      generalize hY : wr.alloc (.cells #[.complex .f32 bd.a1 bd.a2, .complex .f32 bd.v1 bd.v2] 74) = Y
      have S1 : Hid (MvSt w Y s N N K (some ⟨gs, 0, Option.none⟩) (some ⟨gb, 0, Option.none⟩) lg ca cb cl (movL F j) g c) := by rw [← hY]; exact S0.out.mono ((Below.refl _ _).alloc (Nat.le_refl _) _)
      have bY : Hid (Blk Y wr.heap.size #[.complex .f32 bd.a1 bd.a2, .complex .f32 bd.v1 bd.v2] 74) := by rw [← hY]; exact Blk.new _ _ _
      have c0 : Y.cell? ⟨gs, j * 7, Option.none⟩ = some (.complex .f32 sh.a1 sh.a2) := by rw [← hY]; exact cAlloc s0
      have c1 : Y.cell? ⟨gs, j * 7 + 1, Option.none⟩ = some (.complex .f32 sh.b1 sh.b2) := by rw [← hY]; exact cAlloc s1
      have c2 : Y.cell? ⟨gs, j * 7 + 2, Option.none⟩ = some (.complex .f32 sh.c1 sh.c2) := by rw [← hY]; exact cAlloc s2
      have c3 : Y.cell? ⟨gs, j * 7 + 3, Option.none⟩ = some (.float .f32 sh.r) := by rw [← hY]; exact cAlloc s3
      have c4 : Y.cell? ⟨gs, j * 7 + 4, Option.none⟩ = some (.float .f32 sh.g) := by rw [← hY]; exact cAlloc s4
      have c5 : Y.cell? ⟨gs, j * 7 + 5, Option.none⟩ = some (.float .f32 sh.b) := by rw [← hY]; exact cAlloc s5
      have c6 : Y.cell? ⟨gs, j * 7 + 6, Option.none⟩ = some (.float .f32 sh.k) := by rw [← hY]; exact cAlloc s6
      clear hY S0 s0 s1 s2 s3 s4 s5 s6 b0 b1 p0 p1 p2 p3 p4 p5 p6 p7 p8 p9 p10 p11
      generalize wr.heap.size = R at *
      have q5 := Blk.cellAt (i := 5) S1.out.box rfl
      have d0 := Blk.cellAt (i := 0) bY.out rfl
      simp only [List.getElem_toArray, List.getElem_cons_zero, List.getElem_cons_succ] at q5 d0
      have mx := S1.out.box.lt
      have mR := bY.out.lt
      have ms := cell_lt c0
      have hBX : Below Y.heap.size Y Y := Below.refl _ _
      have hzX := Nat.le_refl Y.heap.size
      clear lx lb ls
      go_cut [6, 7] (fun v u wx => ∃ q, v = .pointer (some ⟨q, 0, Option.none⟩) ∧ u = .bool p ∧ GotS Y wx q t)
      case first =>
        go_region_held3 (fun wx => Below Y.heap.size Y wx ∧ Y.heap.size ≤ wx.heap.size ∧ w.heap.size < wx.heap.size ∧ R < wx.heap.size ∧ gs < wx.heap.size ∧ wx.cell? ⟨w.heap.size, 5, Option.none⟩ = some (.slice (some ⟨gs, 0, Option.none⟩) N ca) ∧ wx.cell? ⟨R, 0, Option.none⟩ = some (.complex .f32 bd.a1 bd.a2) ∧ wx.cell? ⟨gs, j * 7, Option.none⟩ = some (.complex .f32 sh.a1 sh.a2) ∧ wx.cell? ⟨gs, j * 7 + 1, Option.none⟩ = some (.complex .f32 sh.b1 sh.b2) ∧ wx.cell? ⟨gs, j * 7 + 2, Option.none⟩ = some (.complex .f32 sh.c1 sh.c2) ∧ wx.cell? ⟨gs, j * 7 + 3, Option.none⟩ = some (.float .f32 sh.r) ∧ wx.cell? ⟨gs, j * 7 + 4, Option.none⟩ = some (.float .f32 sh.g) ∧ wx.cell? ⟨gs, j * 7 + 5, Option.none⟩ = some (.float .f32 sh.b) ∧ wx.cell? ⟨gs, j * 7 + 6, Option.none⟩ = some (.float .f32 sh.k))
          (((repeat' apply And.intro) <;> first | (with_reducible assumption) | (((repeat (first | (with_reducible assumption) | (with_reducible exact cNewAt (by first | rfl | (simp only [World.size_alloc, World.size_setCell, World.size_drew]; done) | omega) rfl) | (with_reducible exact sNewAt (by first | rfl | (simp only [World.size_alloc, World.size_setCell, World.size_drew]; done) | omega) rfl) | (simp; done) | (with_reducible apply cAlloc) | (with_reducible apply cDrew) | (with_reducible refine cSet (by dsimp only; omega) ?_) | (with_reducible refine cSetOff (by dsimp only; omega) ?_) | (with_reducible apply cSame) | (with_reducible refine cBelow (by assumption) ?_) | (with_reducible apply sAlloc) | (with_reducible apply sDrew) | (with_reducible refine sBelow (by assumption) ?_) | (with_reducible refine sSet (by dsimp only; omega) ?_))); first | done | (simp [*]; done)); done) | (simp only [World.size_alloc, World.size_setCell, World.size_drew]; omega) | omega | (go_keep; done) | ((repeat' (first | (with_reducible exact Below.refl _ _) | (with_reducible assumption) | (with_reducible refine Below.alloc ?_ ?_ _) | (with_reducible refine Below.drew ?_) | (with_reducible refine Below.setCell ?_ ?_ _) | (with_reducible refine Below.trans ?_ (Below.mono (by assumption) ?_)) | (with_reducible exact Nat.le_refl _) | omega | (simp only [World.size_alloc, World.size_setCell, World.size_drew]; omega) | (simp; omega) | (simp; done))); done)))
          (first | (go_at_call 50; (with_reducible refine (MI.call _).mono ?_); rintro e w6 ⟨rfl, hb⟩; have hbs := hb.size; (try simp only [World.size_alloc, World.size_drew] at hbs); have hb6 := Below.trans (And.left (by assumption)) (hb.mono (show Y.heap.size ≤ _ by first | omega | (simp only [World.size_alloc, World.size_drew]; omega))); have HB6 : Hid (Below Y.heap.size Y w6) := hb6; (try ((first | have hN := Blk.belowAt hb (Blk.drew (Blk.new _ _ _)) | have hN := Blk.belowAt hb (Blk.new _ _ _)); (try simp only [World.size_drew] at hN))); (try (have y0 := Blk.cellAt (i := 0) hN rfl; have y1 := Blk.cellAt (i := 1) hN rfl; have y2 := Blk.cellAt (i := 2) hN rfl; have y3 := Blk.cellAt (i := 3) hN rfl; have y4 := Blk.cellAt (i := 4) hN rfl; have y5 := Blk.cellAt (i := 5) hN rfl; have y6 := Blk.cellAt (i := 6) hN rfl; simp only [List.getElem_toArray, List.getElem_cons_zero, List.getElem_cons_succ] at y0 y1 y2 y3 y4 y5 y6; have z0 := hN.free 0; have z1 := hN.free 1; have z2 := hN.free 2; have z3 := hN.free 3; have z4 := hN.free 4; have z5 := hN.free 5; have z6 := hN.free 6; have zl := hN.lt))))
        · rename_i hHeld
          clear hHeld
          go_wp2_with fail
          go_meet
          exact ⟨_, rfl, rfl, GotS.late HB6.out (by omega)⟩
        · rename_i hHeld
          clear hHeld
          go_wp2_with fail
          go_meet
          exact ⟨_, rfl, rfl, GotS.early hN HB6.out (by omega)⟩
      case rest =>
        obtain ⟨q, rfl, rfl, hG⟩ := hcut
        have S2 := Lib.hid (S1.out.mono hG.below)
        have Q2 := Lib.hid hG.box
        clear hG S1 bY c0 c1 c2 c3 c4 c5 c6 q5 d0 hBX hzX
        cases p
        · go_wp2_with fail
          go_roundw
          case rel => exact ⟨j + 1, g, c, by omega, by go_num, by rw [HST.out]; rfl, by rw [HST.out]; exact S2.out⟩
          case measure => simp [intOf]; omega
        · (obtain ⟨d0, d1, d2, d3, d4, d5, d6⟩ := blk7 (Q2.out))
          have lq := Q2.out.lt
          have mw := S2.out.box.lt
          have hOA : (wc.alloc (.cells #[.complex .f32 t.a1 t.a2, .complex .f32 t.b1 t.b2, .complex .f32 t.c1 t.c2, .float .f32 t.r, .float .f32 t.g, .float .f32 t.b, .float .f32 t.k] 36)).ownsRow (w.heap.size + 1) 36 7 (.slice (some ⟨g, 0, Option.none⟩) (movL F j).length c) (movL F j).length (shCells (movL F j)) := World.ownsRow.alloc S2.out.own _
          go_wp2_with (at_builtin; go_loud (refine wpList_append_lies _ rfl _ _ 27 rfl (w.heap.size + 1) 36 i0 (.agg #[.complex .f32 0 0, .complex .f32 0 0, .complex .f32 0 0, .float .f32 0, .float .f32 0, .float .f32 0, .float .f32 0]) 7 40 Tryz.underlying27 hi hz0 hz1 hz2 rfl (by decide) (.slice (some ⟨g, 0, Option.none⟩) (movL F j).length c) (movL F j).length (shCells (movL F j)) rfl hOA ⟨wc.heap.size, 0, Option.none⟩ 1 1 t.cells rfl rfl (World.news_of_block (cs := #[.complex .f32 t.a1 t.a2, .complex .f32 t.b1 t.b2, .complex .f32 t.c1 t.c2, .float .f32 t.r, .float .f32 t.g, .float .f32 t.b, .float .f32 t.k]) (t := 36) (fr := (0, 0)) (Blk.newAt (by simp))) (by simp [Shd.cells, Value.oneCell']) (by omega) (by unfold maxLen; omega) (by omega) (by simp; omega) (wc.heap.size + 1) (by simp) ?_))
          intro gg cap5 w5 hown5 hgrow hat hlt5
          have hX5 := blk_keep hgrow hOA (S2.out.box.alloc (o := .cells #[.complex .f32 t.a1 t.a2, .complex .f32 t.b1 t.b2, .complex .f32 t.c1 t.c2, .float .f32 t.r, .float .f32 t.g, .float .f32 t.b, .float .f32 t.k] 36)) (by decide)
          have hB5 : Below w.heap.size w w5 := (S2.out.below.alloc (by omega) (.cells #[.complex .f32 t.a1 t.a2, .complex .f32 t.b1 t.b2, .complex .f32 t.c1 t.c2, .float .f32 t.r, .float .f32 t.g, .float .f32 t.b, .float .f32 t.k] 36)).trans ((below_keep hgrow hOA (by simp; omega)).mono (by omega))
          rw [← shCells_snoc] at hown5
          have S5 : Hid (MvSt w w5 s N N K (some ⟨gs, 0, Option.none⟩) (some ⟨gb, 0, Option.none⟩) lg ca cb cl (movL F j ++ [t]) gg cap5) := ⟨hX5, by rw [List.length_append]; exact hown5, hB5⟩
          clear hOA hown5 hgrow hat hlt5 hX5 hB5 S2 Q2 d0 d1 d2 d3 d4 d5 d6
          go_wp2_with fail
          go_roundw
          case rel => exact ⟨j + 1, gg, cap5, by omega, by go_num, by rw [HST.out]; simp, by rw [HST.out]; exact S5.out⟩
          case measure => simp [intOf]; omega
    · have hjm : j = N := by omega
      subst hjm
      go_wp2
      go_ret
      obtain ⟨h1, h2⟩ := owns_lie S0.out.own
      exact ⟨g, c, ⟨rfl, shRow_of_lie h2, h1⟩, S0.out.below⟩⟩
end Go.Proofs.YtfdgijmmgllmgaaGreatDoor
