/-
  Texts Ut, joined.
-/
import Derived.Test.YtfdgijmmgllmgaaGreatR27
namespace Go.Proofs.YtfdgijmmgllmgaaGreat
open Go.ChangeShapes Go.WideShapes Go.ChangeAt Go.RowKit Go.Joins
set_option linter.unusedSimpArgs false
set_option linter.unusedVariables false
set_option maxRecDepth 100000
attribute [local go_sem] store_f
open Ieee Go.Lib
attribute [local go_sem] store_c
def EvsAt (W : World) (a : Option Addr) (l : List Evw) : Prop := l = [] ∨ ∃ g o, a = some ⟨g, o, Option.none⟩ ∧ LieAt W g o (evCells l)
theorem EvsAt.below {W w1 : World} {a : Option Addr} {l : List Evw} (h : EvsAt W a l) (hb : Below W.heap.size W w1) : EvsAt w1 a l := by
  rcases h with h | ⟨g, o, e, h⟩
  · exact .inl h
  · exact .inr ⟨g, o, e, h.below hb⟩
theorem evs_of_lies {W : World} {a : Option Addr} {l : List Evw} (h : LiesZ W a (evCells l)) : EvsAt W a l := by
  rcases h with h | ⟨g, e, h⟩
  · exact .inl (ev_nil h)
  · exact .inr ⟨g, 0, e, h⟩
structure RunRet (w : World) (r : Ending) (w' : World) (t : Sho) (N M K d : Nat) (a b l : Option Addr) (ca cb cl : Nat) : Prop where
  ret : r = .returned (.tuple #[.agg #[.int .i64 t.size, .float .f32 t.step, .float .f32 t.lit.r, .float .f32 t.lit.g, .float .f32 t.lit.b, .slice a N ca, .int .i64 t.kind, .complex .f32 t.g1 t.g2, .float .f32 0, .slice b M cb, .int .i64 t.ticks, .slice l K cl], .int .i64 d])
  inn : ShoIn w' t a b l
  below : Below w.heap.size w w'
structure RunSM (F : FuncId) (s : Sho) (N M K : Nat) (l : List Evw) (n : Nat) (t : Sho) (N' M' K' d : Nat) : Prop where
  call : ∀ (w : World) (a b c q : Option Addr) (ca cb cc cq : Nat), ShoIn w s a b c → EvsAt w q l → Calls Tryz.prog F #[.agg #[.int .i64 s.size, .float .f32 s.step, .float .f32 s.lit.r, .float .f32 s.lit.g, .float .f32 s.lit.b, .slice a N ca, .int .i64 s.kind, .complex .f32 s.g1 s.g2, .float .f32 0, .slice b M cb, .int .i64 s.ticks, .slice c K cc], .slice q n cq] w fun r w' => ∃ a' b' c' ca' cb' cc', RunRet w r w' t N' M' K' d a' b' c' ca' cb' cc'
structure Chain (F : FuncId) (X : Nat → Sho) (N K : Nat → Nat) (l : List Evw) (n d : Nat) : Prop where
  len : l.length = n
  le : d ≤ n
  few : n ≤ 64
  yes : ∀ j, j < d → DoM F (X j) (N j) (N j) (K j) (l.getD j default) (X (j + 1)) (N (j + 1)) (N (j + 1)) (K (j + 1)) true
  no : d < n → DoM F (X d) (N d) (N d) (K d) (l.getD d default) (X d) (N d) (N d) (K d) false
structure RunSt (w : World) (P : Nat) (s : Sho) (N K : Nat) (wr : World) : Prop where
  run : ∃ (a b c : Option Addr) (ca cb cc : Nat), Blk wr P #[.int .i64 s.size, .float .f32 s.step, .float .f32 s.lit.r, .float .f32 s.lit.g, .float .f32 s.lit.b, .slice a N ca, .int .i64 s.kind, .complex .f32 s.g1 s.g2, .float .f32 0, .slice b N cb, .int .i64 s.ticks, .slice c K cc] 34 ∧ ShoIn wr s a b c
  res : Blk wr (w.heap.size + 1) #[.int .i64 0, .float .f32 0, .float .f32 0, .float .f32 0, .float .f32 0, .slice Option.none 0 0, .int .i64 0, .complex .f32 0 0, .float .f32 0, .slice Option.none 0 0, .int .i64 0, .slice Option.none 0 0] 34
  below : Below w.heap.size w wr
theorem put_sho {W : World} {P : Nat} {s t : Sho} {x y z x' y' z' : Value} (h : Blk W P #[.int .i64 s.size, .float .f32 s.step, .float .f32 s.lit.r, .float .f32 s.lit.g, .float .f32 s.lit.b, x, .int .i64 s.kind, .complex .f32 s.g1 s.g2, .float .f32 0, y, .int .i64 s.ticks, z] 34) :
    Blk ((((((((((((W.setCell ⟨P, 0, Option.none⟩ (.int .i64 t.size)).setCell ⟨P, 1, Option.none⟩ (.float .f32 t.step)).setCell ⟨P, 2, Option.none⟩ (.float .f32 t.lit.r)).setCell ⟨P, 3, Option.none⟩ (.float .f32 t.lit.g)).setCell ⟨P, 4, Option.none⟩ (.float .f32 t.lit.b)).setCell ⟨P, 5, Option.none⟩ x').setCell ⟨P, 6, Option.none⟩ (.int .i64 t.kind)).setCell ⟨P, 7, Option.none⟩ (.complex .f32 t.g1 t.g2)).setCell ⟨P, 8, Option.none⟩ (.float .f32 0)).setCell ⟨P, 9, Option.none⟩ y').setCell ⟨P, 10, Option.none⟩ (.int .i64 t.ticks)).setCell ⟨P, 11, Option.none⟩ z') P #[.int .i64 t.size, .float .f32 t.step, .float .f32 t.lit.r, .float .f32 t.lit.g, .float .f32 t.lit.b, x', .int .i64 t.kind, .complex .f32 t.g1 t.g2, .float .f32 0, y', .int .i64 t.ticks, z'] 34 :=
  by
  have RS := (((((((((((h.set (i := 0) (v := .int .i64 t.size)).set (i := 1) (v := .float .f32 t.step)).set (i := 2) (v := .float .f32 t.lit.r)).set (i := 3) (v := .float .f32 t.lit.g)).set (i := 4) (v := .float .f32 t.lit.b)).set (i := 5) (v := x')).set (i := 6) (v := .int .i64 t.kind)).set (i := 7) (v := .complex .f32 t.g1 t.g2)).set (i := 8) (v := .float .f32 0)).set (i := 9) (v := y')).set (i := 10) (v := .int .i64 t.ticks)).set (i := 11) (v := z')
  simp only [List.setIfInBounds_toArray, List.set_cons_zero, List.set_cons_succ] at RS
  exact RS
theorem grown12 {W : World} {P : Nat} {u0 u1 u2 u3 u4 u5 u6 u7 u8 u9 u10 u11 : Value} :
    W.grownBy ((((((((((((W.setCell ⟨P, 0, Option.none⟩ u0).setCell ⟨P, 1, Option.none⟩ u1).setCell ⟨P, 2, Option.none⟩ u2).setCell ⟨P, 3, Option.none⟩ u3).setCell ⟨P, 4, Option.none⟩ u4).setCell ⟨P, 5, Option.none⟩ u5).setCell ⟨P, 6, Option.none⟩ u6).setCell ⟨P, 7, Option.none⟩ u7).setCell ⟨P, 8, Option.none⟩ u8).setCell ⟨P, 9, Option.none⟩ u9).setCell ⟨P, 10, Option.none⟩ u10).setCell ⟨P, 11, Option.none⟩ u11) (some P) :=
  grownBy_set (grownBy_set (grownBy_set (grownBy_set (grownBy_set (grownBy_set (grownBy_set (grownBy_set (grownBy_set (grownBy_set (grownBy_set (grownBy_set (grownBy_refl _ _))))))))))))
theorem put_z {W : World} {P : Nat} {t : Sho} {x' y' z' : Value} (h : Blk W P #[.int .i64 0, .float .f32 0, .float .f32 0, .float .f32 0, .float .f32 0, .slice Option.none 0 0, .int .i64 0, .complex .f32 0 0, .float .f32 0, .slice Option.none 0 0, .int .i64 0, .slice Option.none 0 0] 34) :
    Blk ((((((((((((W.setCell ⟨P, 0, Option.none⟩ (.int .i64 t.size)).setCell ⟨P, 1, Option.none⟩ (.float .f32 t.step)).setCell ⟨P, 2, Option.none⟩ (.float .f32 t.lit.r)).setCell ⟨P, 3, Option.none⟩ (.float .f32 t.lit.g)).setCell ⟨P, 4, Option.none⟩ (.float .f32 t.lit.b)).setCell ⟨P, 5, Option.none⟩ x').setCell ⟨P, 6, Option.none⟩ (.int .i64 t.kind)).setCell ⟨P, 7, Option.none⟩ (.complex .f32 t.g1 t.g2)).setCell ⟨P, 8, Option.none⟩ (.float .f32 0)).setCell ⟨P, 9, Option.none⟩ y').setCell ⟨P, 10, Option.none⟩ (.int .i64 t.ticks)).setCell ⟨P, 11, Option.none⟩ z') P #[.int .i64 t.size, .float .f32 t.step, .float .f32 t.lit.r, .float .f32 t.lit.g, .float .f32 t.lit.b, x', .int .i64 t.kind, .complex .f32 t.g1 t.g2, .float .f32 0, y', .int .i64 t.ticks, z'] 34 := by
  have RS := (((((((((((h.set (i := 0) (v := .int .i64 t.size)).set (i := 1) (v := .float .f32 t.step)).set (i := 2) (v := .float .f32 t.lit.r)).set (i := 3) (v := .float .f32 t.lit.g)).set (i := 4) (v := .float .f32 t.lit.b)).set (i := 5) (v := x')).set (i := 6) (v := .int .i64 t.kind)).set (i := 7) (v := .complex .f32 t.g1 t.g2)).set (i := 8) (v := .float .f32 0)).set (i := 9) (v := y')).set (i := 10) (v := .int .i64 t.ticks)).set (i := 11) (v := z')
  simp only [List.setIfInBounds_toArray, List.set_cons_zero, List.set_cons_succ] at RS
  exact RS
theorem below12 {w W : World} {B P : Nat} {u0 u1 u2 u3 u4 u5 u6 u7 u8 u9 u10 u11 : Value} (h : Below B w W) (hP : B ≤ P) :
    Below B w ((((((((((((W.setCell ⟨P, 0, Option.none⟩ u0).setCell ⟨P, 1, Option.none⟩ u1).setCell ⟨P, 2, Option.none⟩ u2).setCell ⟨P, 3, Option.none⟩ u3).setCell ⟨P, 4, Option.none⟩ u4).setCell ⟨P, 5, Option.none⟩ u5).setCell ⟨P, 6, Option.none⟩ u6).setCell ⟨P, 7, Option.none⟩ u7).setCell ⟨P, 8, Option.none⟩ u8).setCell ⟨P, 9, Option.none⟩ u9).setCell ⟨P, 10, Option.none⟩ u10).setCell ⟨P, 11, Option.none⟩ u11) :=
  (((((((((((h.setCell hP _).setCell hP _).setCell hP _).setCell hP _).setCell hP _).setCell hP _).setCell hP _).setCell hP _).setCell hP _).setCell hP _).setCell hP _).setCell hP _
set_option maxHeartbeats 64000000 in
theorem runS {X : Nat → Sho} {N K : Nat → Nat} {l : List Evw} {n d : Nat} (C : CopyS 29 (X 0) (N 0) (N 0) (K 0)) (H : Chain 9 X N K l n d) : RunSM 14 (X 0) (N 0) (N 0) (K 0) l n (X d) (N d) (N d) (K d) d := ⟨fun w a b c q ca cb cc cq hr hq => by
  have HH := Lib.hid H
  have hle := H.le
  have hfew := H.few
  have HQ := Lib.hid hq
  have HR := Lib.hid hr
  clear hq hr H
  go_enter Tryz.func14, Tryz.ntmps14
  go_wp2_with fail
  generalize hX : (w.alloc (.cells #[.int .i64 (X 0).size, .float .f32 (X 0).step, .float .f32 (X 0).lit.r, .float .f32 (X 0).lit.g, .float .f32 (X 0).lit.b, .slice a (N 0) ca, .int .i64 (X 0).kind, .complex .f32 (X 0).g1 (X 0).g2, .float .f32 0, .slice b (N 0) cb, .int .i64 (X 0).ticks, .slice c (K 0) cc] 34)).alloc (.cells #[.int .i64 0, .float .f32 0, .float .f32 0, .float .f32 0, .float .f32 0, .slice Option.none 0 0, .int .i64 0, .complex .f32 0 0, .float .f32 0, .slice Option.none 0 0, .int .i64 0, .slice Option.none 0 0] 34) = Y
  have R0 : Hid (Blk Y (w.heap.size + 1) #[.int .i64 0, .float .f32 0, .float .f32 0, .float .f32 0, .float .f32 0, .slice Option.none 0 0, .int .i64 0, .complex .f32 0 0, .float .f32 0, .slice Option.none 0 0, .int .i64 0, .slice Option.none 0 0] 34) := by rw [← hX]; exact Blk.newAt (by simp)
  have I0 : Hid (ShoIn Y (X 0) a b c) := by rw [← hX]; exact HR.out.alloc.alloc
  have G0 : Hid (Below w.heap.size w Y) := by rw [← hX]; show Below w.heap.size w _; (repeat' (first | (with_reducible exact Below.refl _ _) | (with_reducible assumption) | (with_reducible refine Below.alloc ?_ ?_ _) | (with_reducible refine Below.drew ?_) | (with_reducible refine Below.setCell ?_ ?_ _) | (with_reducible refine Below.trans ?_ (Below.mono (by assumption) ?_)) | (with_reducible exact Nat.le_refl _) | omega | (simp only [World.size_alloc, World.size_setCell, World.size_drew]; omega) | (simp; omega) | (simp; done)))
  have sY : w.heap.size + 2 ≤ Y.heap.size := by rw [← hX]; simp
  clear hX
  refine (C.call _ _ _ _ _ _ _ I0.out).mono ?_
  rintro r w1 ⟨a1, b1, l1, ca1, cb1, cl1, ⟨rfl, hown, hb⟩⟩
  have ST : Hid (RunSt w w1.heap.size (X 0) (N 0) (K 0) (w1.alloc (.cells #[.int .i64 (X 0).size, .float .f32 (X 0).step, .float .f32 (X 0).lit.r, .float .f32 (X 0).lit.g, .float .f32 (X 0).lit.b, .slice a1 (N 0) ca1, .int .i64 (X 0).kind, .complex .f32 (X 0).g1 (X 0).g2, .float .f32 0, .slice b1 (N 0) cb1, .int .i64 (X 0).ticks, .slice l1 (K 0) cl1] 34))) :=
    ⟨⟨a1, b1, l1, ca1, cb1, cl1, Blk.new _ _ _, hown.in_.alloc⟩, (R0.out.below hb).alloc, (G0.out.trans (hb.mono (by omega))).alloc (by have := hb.size; omega) _⟩
  have s1 := hb.size
  clear hb hown R0 I0 G0 HR C
  go_wp2_with fail
  generalize w1.alloc (.cells #[.int .i64 (X 0).size, .float .f32 (X 0).step, .float .f32 (X 0).lit.r, .float .f32 (X 0).lit.g, .float .f32 (X 0).lit.b, .slice a1 (N 0) ca1, .int .i64 (X 0).kind, .complex .f32 (X 0).g1 (X 0).g2, .float .f32 0, .slice b1 (N 0) cb1, .int .i64 (X 0).ticks, .slice l1 (K 0) cl1] 34) = Z at *
  generalize w1.heap.size = P at *
  go_loopw [15] (fun i wr => ∃ j : Nat, j ≤ d ∧ i = .int .i64 j ∧ RunSt w P (X j) (N j) (K j) wr) (fun i _ => d + 1 - (intOf i).toNat)
  case atStart => exact ⟨0, by omega, rfl, ST.out⟩
  case round =>
    obtain ⟨j, hj, rfl, hst⟩ := hrel
    clear ST
    obtain ⟨⟨a3, b3, l3, ca3, cb3, cl3, hP, hI⟩, hres, hbel⟩ := hst
    have P3 := Lib.hid hP
    have I3 := Lib.hid hI
    have R3 := Lib.hid hres
    have G3 := Lib.hid hbel
    have lP := hP.lt
    have lR := hres.lt
    (obtain ⟨p0, p1, p2, p3, p4, p5, p6, p7, p8, p9, p10, p11⟩ := blk12 (hP))
    clear hP hI hres
    by_cases hlt : j < n
    · rcases HQ.out with hnil | ⟨g, o, rfl, hL⟩
      · exfalso; have := HH.out.len; rw [hnil] at this; simp at this; omega
      have EA := evAt (hL.below hbel) (k := j) (by have := HH.out.len; omega)
      have HY : j < d → DoM 9 (X j) (N j) (N j) (K j) (l.getD j default) (X (j + 1)) (N (j + 1)) (N (j + 1)) (K (j + 1)) true := HH.out.yes j
      have HN : j = d → DoM 9 (X j) (N j) (N j) (K j) (l.getD j default) (X j) (N j) (N j) (K j) false := by rintro rfl; exact HH.out.no hlt
      obtain ⟨e, he⟩ : ∃ e, l.getD j default = e := ⟨_, rfl⟩
      rw [he] at EA HY HN
      clear he
      obtain ⟨c0, c1, c2, c3, c4, c5, c6, c7, c8, c9, c10, c11, c12⟩ := EA
      clear hbel hL
      go_wp2_with fail
      by_cases hd : j < d
      · have D := HY hd
        clear HY HN
        refine (D.call _ _ _ _ _ _ _ I3.out.alloc).mono ?_
        rintro r w4 ⟨a4, b4, l4, ca4, cb4, cl4, ⟨rfl, hI4, hb⟩⟩
        have P4 := Lib.hid (P3.out.alloc.below hb)
        have R4 := Lib.hid (R3.out.alloc.below hb)
        have I4 := Lib.hid hI4
        have G4 : Hid (Below w.heap.size w w4) := (G3.out.alloc (by omega) _).trans (hb.mono (by simp; omega))
        have l4' : P < w4.heap.size := P4.out.lt
        clear hb hI4 P3 R3 I3 G3 D p0 p1 p2 p3 p4 p5 p6 p7 p8 p9 p10 p11 c0 c1 c2 c3 c4 c5 c6 c7 c8 c9 c10 c11 c12 HQ lP lR
        (obtain ⟨p0, p1, p2, p3, p4, p5, p6, p7, p8, p9, p10, p11⟩ := blk12 (P4.out))
        (have f0 := P4.out.free 0; have f1 := P4.out.free 1; have f2 := P4.out.free 2; have f3 := P4.out.free 3; have f4 := P4.out.free 4; have f5 := P4.out.free 5; have f6 := P4.out.free 6; have f7 := P4.out.free 7; have f8 := P4.out.free 8; have f9 := P4.out.free 9; have f10 := P4.out.free 10; have f11 := P4.out.free 11)
        go_wp2_with fail
        go_roundw
        case rel => exact ⟨j + 1, by omega, by go_num, ⟨a4, b4, l4, ca4, cb4, cl4, (put_sho P4.out).alloc, (I4.out.grownAt grown12 p1).alloc⟩, (R4.out.grown grown12 (by omega)).alloc, (below12 G4.out (by omega)).alloc (by have := G4.out.size; simp; omega) _⟩
        case measure => simp [intOf]; omega
      · have hjd : j = d := by omega
        have D := HN hjd
        clear HY HN
        subst hjd
        refine (D.call _ _ _ _ _ _ _ I3.out.alloc).mono ?_
        rintro r w4 ⟨a4, b4, l4, ca4, cb4, cl4, ⟨rfl, hI4, hb⟩⟩
        have P4 := Lib.hid (P3.out.alloc.below hb)
        have R4 := R3.out.alloc.below hb
        have I5 := Lib.hid (I3.out.alloc.below hb)
        have G4 : Hid (Below w.heap.size w w4) := (G3.out.alloc (by omega) _).trans (hb.mono (by simp; omega))
        have l4' : P < w4.heap.size := P4.out.lt
        clear hb hI4 P3 R3 I3 G3 D p0 p1 p2 p3 p4 p5 p6 p7 p8 p9 p10 p11 c0 c1 c2 c3 c4 c5 c6 c7 c8 c9 c10 c11 c12 HQ lP lR
        have PA := P4.out.alloc (o := .cells #[.int .i64 (X j).size, .float .f32 (X j).step, .float .f32 (X j).lit.r, .float .f32 (X j).lit.g, .float .f32 (X j).lit.b, .slice a4 (N j) ca4, .int .i64 (X j).kind, .complex .f32 (X j).g1 (X j).g2, .float .f32 0, .slice b4 (N j) cb4, .int .i64 (X j).ticks, .slice l4 (K j) cl4] 34)
        have RA := R4.alloc (o := .cells #[.int .i64 (X j).size, .float .f32 (X j).step, .float .f32 (X j).lit.r, .float .f32 (X j).lit.g, .float .f32 (X j).lit.b, .slice a4 (N j) ca4, .int .i64 (X j).kind, .complex .f32 (X j).g1 (X j).g2, .float .f32 0, .slice b4 (N j) cb4, .int .i64 (X j).ticks, .slice l4 (K j) cl4] 34)
        (obtain ⟨p0, p1, p2, p3, p4, p5, p6, p7, p8, p9, p10, p11⟩ := blk12 (PA))
        (obtain ⟨q0, q1, q2, q3, q4, q5, q6, q7, q8, q9, q10, q11⟩ := blk12 (RA))
        (have h0 := RA.free 0; have h1 := RA.free 1; have h2 := RA.free 2; have h3 := RA.free 3; have h4 := RA.free 4; have h5 := RA.free 5; have h6 := RA.free 6; have h7 := RA.free 7; have h8 := RA.free 8; have h9 := RA.free 9; have h10 := RA.free 10; have h11 := RA.free 11)
        have l2' := RA.lt
        clear R4 PA P4
        have P5 := Lib.hid (put_z (t := X j) (x' := .slice a3 (N j) ca3) (y' := .slice b3 (N j) cb3) (z' := .slice l3 (K j) cl3) RA)
        clear RA
        go_wp2_with fail
        (obtain ⟨e0, e1, e2, e3, e4, e5, e6, e7, e8, e9, e10, e11⟩ := blk12 (P5.out))
        refine bodyPost_ret (v := .tuple #[.agg #[.int .i64 (X j).size, .float .f32 (X j).step, .float .f32 (X j).lit.r, .float .f32 (X j).lit.g, .float .f32 (X j).lit.b, .slice a3 (N j) ca3, .int .i64 (X j).kind, .complex .f32 (X j).g1 (X j).g2, .float .f32 0, .slice b3 (N j) cb3, .int .i64 (X j).ticks, .slice l3 (K j) cl3], .int .i64 j]) (by simp [results, Tryz.results14, go_sem, e0, e1, e2, e3, e4, e5, e6, e7, e8, e9, e10, e11]) rfl ⟨a3, b3, l3, ca3, cb3, cl3, ⟨rfl, ?_, ?_⟩⟩
        · exact I5.out.alloc.grownAt grown12 q1
        · exact below12 (G4.out.alloc (by have := G4.out.size; omega) _) (by omega)
    · have hjn : j = d := by omega
      have hdn : d = n := by omega
      subst hjn
      subst hdn
      have R4 := R3.out
      (obtain ⟨q0, q1, q2, q3, q4, q5, q6, q7, q8, q9, q10, q11⟩ := blk12 (R4))
      (have h0 := R4.free 0; have h1 := R4.free 1; have h2 := R4.free 2; have h3 := R4.free 3; have h4 := R4.free 4; have h5 := R4.free 5; have h6 := R4.free 6; have h7 := R4.free 7; have h8 := R4.free 8; have h9 := R4.free 9; have h10 := R4.free 10; have h11 := R4.free 11)
      have P5 := Lib.hid (put_z (t := X j) (x' := .slice a3 (N j) ca3) (y' := .slice b3 (N j) cb3) (z' := .slice l3 (K j) cl3) R4)
      clear R4 hbel
      go_wp2_with fail
      (obtain ⟨e0, e1, e2, e3, e4, e5, e6, e7, e8, e9, e10, e11⟩ := blk12 (P5.out))
      refine bodyPost_ret (v := .tuple #[.agg #[.int .i64 (X j).size, .float .f32 (X j).step, .float .f32 (X j).lit.r, .float .f32 (X j).lit.g, .float .f32 (X j).lit.b, .slice a3 (N j) ca3, .int .i64 (X j).kind, .complex .f32 (X j).g1 (X j).g2, .float .f32 0, .slice b3 (N j) cb3, .int .i64 (X j).ticks, .slice l3 (K j) cl3], .int .i64 j]) (by simp [results, Tryz.results14, go_sem, e0, e1, e2, e3, e4, e5, e6, e7, e8, e9, e10, e11]) rfl ⟨a3, b3, l3, ca3, cb3, cl3, ⟨rfl, ?_, ?_⟩⟩
      · exact I3.out.grownAt grown12 q1
      · exact below12 G3.out (by omega)⟩
end Go.Proofs.YtfdgijmmgllmgaaGreat
