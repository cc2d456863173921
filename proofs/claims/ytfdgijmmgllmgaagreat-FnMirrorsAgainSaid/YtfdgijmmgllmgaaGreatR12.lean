/-
  Texts Gn Hl Ha Hb Hd Va, joined.
-/
import Derived.Test.YtfdgijmmgllmgaaGreatR11
import Derived.Deep.DeepCutAuto
import Derived.Test.YtfdgijmmgllmgaaGreatR01
import Derived.Test.YtfdgijmmgllmgaaGreatR06
import Derived.Test.YtfdgijmmgllmgaaGreatR05
import Derived.Deep.QuietTactic
import Derived.BigQuiet
import Derived.Test.YtfdgijmmgllmgaaGreatR07
import Derived.WalkLawsBesides
import Derived.Test.YtfdgijmmgllmgaaGreatR09
namespace Go.Proofs.YtfdgijmmgllmgaaGreat
open Go.ChangeShapes Go.WideShapes Go.ChangeAt Go.RowKit Go.Joins
set_option linter.unusedSimpArgs false
set_option linter.unusedVariables false
set_option maxRecDepth 100000
attribute [local go_sem] store_f
open Ieee
attribute [local go_sem] store_c
structure Shd.Drawn (s : Shd) : Prop where
  a1 : okB s.a1 = true
  a2 : okB s.a2 = true
  b1 : okB s.b1 = true
  b2 : okB s.b2 = true
  c1 : okB s.c1 = true
  c2 : okB s.c2 = true
  r : s.r ≤ 1065353216
  g : s.g ≤ 1065353216
  b : s.b ≤ 1065353216
  k : s.k ≤ 1065353216
theorem Shd.Drawn.ok {s : Shd} (h : s.Drawn) : s.Ok :=
  ⟨ok_rch h.a1, ok_rch h.a2, ok_rch h.b1, ok_rch h.b2, ok_rch h.c1, ok_rch h.c2, .inl h.r, .inl h.g, .inl h.b, .inl h.k⟩
theorem grown_set {w w1 : World} {r : Option Nat} (h : w.grownBy w1 r) {p : Addr} (hp : w.heap.size ≤ p.block) (v : Value) : w.grownBy (w1.setCell p v) r := grown_setNew h hp v
structure ShardDrawn (B q : Nat) (w : World) (e : Ending) (w' : World) (s : Shd) : Prop where
  ret : e = .returned (.agg #[.complex .f32 s.a1 s.a2, .complex .f32 s.b1 s.b2, .complex .f32 s.c1 s.c2, .float .f32 s.r, .float .f32 s.g, .float .f32 s.b, .float .f32 s.k])
  ok : s.Drawn
  cur : Cur B w' q
  grown : w.grownBy w' (some q)
set_option maxHeartbeats 16000000 in
theorem l3Draw_s (B q : Nat) (w : World) (hcur : Cur B w q) :
    Calls Tryz.prog 61 #[.pointer (some ⟨q, 0, Option.none⟩)] w fun e w' => ∃ s, ShardDrawn B q w e w' s := by
  have HC : Hid (Cur B w q) := hcur
  have hq := hcur.lt
  clear hcur
  go_enter Tryz.func61, Tryz.ntmps61
  go_wp2_with fail
  have R0 : Hid (Blk (w.alloc (.cells #[.complex .f32 0 0, .complex .f32 0 0, .complex .f32 0 0, .float .f32 0, .float .f32 0, .float .f32 0, .float .f32 0] 36)) w.heap.size #[.complex .f32 0 0, .complex .f32 0 0, .complex .f32 0 0, .float .f32 0, .float .f32 0, .float .f32 0, .float .f32 0] 36) := Blk.new _ _ _
  have C0 : Hid (Cur B (w.alloc (.cells #[.complex .f32 0 0, .complex .f32 0 0, .complex .f32 0 0, .float .f32 0, .float .f32 0, .float .f32 0, .float .f32 0] 36)) q) := HC.out.alloc
  have G0 : Hid (w.grownBy (w.alloc (.cells #[.complex .f32 0 0, .complex .f32 0 0, .complex .f32 0 0, .float .f32 0, .float .f32 0, .float .f32 0, .float .f32 0] 36)) (some q)) := grown_alloc (grownBy_refl _ _) _
  clear HC
  generalize w.alloc (.cells #[.complex .f32 0 0, .complex .f32 0 0, .complex .f32 0 0, .float .f32 0, .float .f32 0, .float .f32 0, .float .f32 0] 36) = W0 at R0 C0 G0 ⊢
  refine (some_32 B q _ C0.out).mono ?_
  rintro e w1 ⟨m, ⟨rfl, hm, hc1, hg1⟩⟩
  have C1 : Hid (Cur B w1 q) := hc1
  have G1 : Hid (W0.grownBy w1 (some q)) := hg1
  obtain ⟨ed, hd1, hd2⟩ := qu_32 m hm
  have QA : Hid (Qu (quB 32 m)) := ⟨hd1, by unfold rungOf; rw [F32_sw]; exact hd2⟩
  have op1 := fun t w => run_float_arith (P := Tryz.prog) w .quo t .f32 _ 1082130432 _ ed
  generalize quB 32 m = a1 at QA op1
  clear hc1 hg1 ed hd1 hd2
  go_wp2_with (simp only [op1])
  refine (some_32 B q _ C1.out).mono ?_
  rintro e w2 ⟨m2, ⟨rfl, hm2, hc2, hg2⟩⟩
  have C2 : Hid (Cur B w2 q) := hc2
  have G2 : Hid (W0.grownBy w2 (some q)) := grownBy_trans G1.out hg2
  obtain ⟨ed, hd1, hd2⟩ := qu_32 m2 hm2
  have QB : Hid (Qu (quB 32 m2)) := ⟨hd1, by unfold rungOf; rw [F32_sw]; exact hd2⟩
  have op2 := fun t w => run_float_arith (P := Tryz.prog) w .quo t .f32 _ 1082130432 _ ed
  generalize quB 32 m2 = a2 at QB op2
  clear hc2 hg2 ed hd1 hd2 op1
  go_wp2_with (simp only [op2])
  refine (some_24 B q _ C2.out).mono ?_
  rintro e w3 ⟨m3, ⟨rfl, hm3, hc3, hg3⟩⟩
  have C3 : Hid (Cur B w3 q) := hc3
  have G3 : Hid (W0.grownBy w3 (some q)) := grownBy_trans G2.out hg3
  obtain ⟨ed, hd1, hd2⟩ := qu_24 m3 hm3
  have QC : Hid (Qu (quB 24 m3)) := ⟨hd1, by unfold rungOf; rw [F32_sw]; exact hd2⟩
  have op3 := fun t w => run_float_arith (P := Tryz.prog) w .quo t .f32 _ 1082130432 _ ed
  generalize quB 24 m3 = d1 at QC op3
  clear hc3 hg3 ed hd1 hd2 op2
  go_wp2_with (simp only [op3])
  refine (some_24 B q _ C3.out).mono ?_
  rintro e w4 ⟨m4, ⟨rfl, hm4, hc4, hg4⟩⟩
  have C4 : Hid (Cur B w4 q) := hc4
  have G4 : Hid (W0.grownBy w4 (some q)) := grownBy_trans G3.out hg4
  obtain ⟨ed, hd1, hd2⟩ := qu_24 m4 hm4
  have QD : Hid (Qu (quB 24 m4)) := ⟨hd1, by unfold rungOf; rw [F32_sw]; exact hd2⟩
  have op4 := fun t w => run_float_arith (P := Tryz.prog) w .quo t .f32 _ 1082130432 _ ed
  generalize quB 24 m4 = d2 at QD op4
  clear hc4 hg4 ed hd1 hd2 op3
  have P1 := plus_of (plus1 QA.out QC.out) (plus1 QB.out QD.out)
  have OB1 : Hid (okB (clT (valOf F32 a1 + valOf F32 d1)) = true) := clT_ok (qu_add QA.out QC.out)
  have OB2 : Hid (okB (clT (valOf F32 a2 + valOf F32 d2)) = true) := clT_ok (qu_add QB.out QD.out)
  generalize clT (valOf F32 a1 + valOf F32 d1) = b1 at P1 OB1
  generalize clT (valOf F32 a2 + valOf F32 d2) = b2 at P1 OB2
  go_wp2_with (simp only [op4])
  refine (P1.call _).mono ?_
  rintro e w4' ⟨rfl, rfl⟩
  clear op4 P1
  go_wp2_with fail
  refine (some_24 B q _ C4.out).mono ?_
  rintro e w5 ⟨m5, ⟨rfl, hm5, hc5, hg5⟩⟩
  have C5 : Hid (Cur B w5 q) := hc5
  have G5 : Hid (W0.grownBy w5 (some q)) := grownBy_trans G4.out hg5
  obtain ⟨ed, hd1, hd2⟩ := qu_24 m5 hm5
  have QE : Hid (Qu (quB 24 m5)) := ⟨hd1, by unfold rungOf; rw [F32_sw]; exact hd2⟩
  have op5 := fun t w => run_float_arith (P := Tryz.prog) w .quo t .f32 _ 1082130432 _ ed
  generalize quB 24 m5 = e1 at QE op5
  clear hc5 hg5 ed hd1 hd2
  go_wp2_with (simp only [op5])
  refine (some_24 B q _ C5.out).mono ?_
  rintro e w6 ⟨m6, ⟨rfl, hm6, hc6, hg6⟩⟩
  have C6 : Hid (Cur B w6 q) := hc6
  have G6 : Hid (W0.grownBy w6 (some q)) := grownBy_trans G5.out hg6
  obtain ⟨ed, hd1, hd2⟩ := qu_24 m6 hm6
  have QF : Hid (Qu (quB 24 m6)) := ⟨hd1, by unfold rungOf; rw [F32_sw]; exact hd2⟩
  have op6 := fun t w => run_float_arith (P := Tryz.prog) w .quo t .f32 _ 1082130432 _ ed
  generalize quB 24 m6 = e2 at QF op6
  clear hc6 hg6 ed hd1 hd2 op5
  have P2 := plus_of (plus1 QA.out QE.out) (plus1 QB.out QF.out)
  have OC1 : Hid (okB (clT (valOf F32 a1 + valOf F32 e1)) = true) := clT_ok (qu_add QA.out QE.out)
  have OC2 : Hid (okB (clT (valOf F32 a2 + valOf F32 e2)) = true) := clT_ok (qu_add QB.out QF.out)
  generalize clT (valOf F32 a1 + valOf F32 e1) = c1 at P2 OC1
  generalize clT (valOf F32 a2 + valOf F32 e2) = c2 at P2 OC2
  go_wp2_with (simp only [op6])
  refine (P2.call _).mono ?_
  rintro e w6' ⟨rfl, rfl⟩
  clear op6 P2
  go_wp2_with fail
  refine (l2Draw_s B q _ C6.out).mono ?_
  rintro e w7 ⟨r, g, b, ⟨rfl, lr, lg, lb, hc7, hg7⟩⟩
  have C7 : Hid (Cur B w7 q) := hc7
  have G7 : Hid (W0.grownBy w7 (some q)) := grownBy_trans G6.out hg7
  have LR : Hid (r ≤ 1065353216) := lr
  have LG : Hid (g ≤ 1065353216) := lg
  have LB : Hid (b ≤ 1065353216) := lb
  clear hc7 hg7 lr lg lb
  go_wp2_with fail
  refine (l2One_s B q _ C7.out).mono ?_
  rintro e w8 ⟨k, ⟨rfl, lk, hc8, hg8⟩⟩
  have C8 : Hid (Cur B w8 q) := hc8
  have G8 : Hid (W0.grownBy w8 (some q)) := grownBy_trans G7.out hg8
  have LK : Hid (k ≤ 1065353216) := lk
  have s8 := hg8.size
  clear hc8 hg8 lk
  obtain ⟨s, hs⟩ : ∃ s : Shd, s = ⟨a1, a2, b1, b2, c1, c2, r, g, b, k⟩ := ⟨_, rfl⟩
  have D : Hid s.Drawn := by rw [hs]; exact ⟨QA.out.ok, QB.out.ok, OB1.out, OB2.out, OC1.out, OC2.out, LR.out, LG.out, LB.out, LK.out⟩
  have z1 : a1 = s.a1 := by rw [hs]
  have z2 : a2 = s.a2 := by rw [hs]
  have z3 : b1 = s.b1 := by rw [hs]
  have z4 : b2 = s.b2 := by rw [hs]
  have z5 : c1 = s.c1 := by rw [hs]
  have z6 : c2 = s.c2 := by rw [hs]
  have z7 : r = s.r := by rw [hs]
  have z8 : g = s.g := by rw [hs]
  have z9 : b = s.b := by rw [hs]
  have z0 : k = s.k := by rw [hs]
  rw [z1, z2, z3, z4, z5, z6, z7, z8, z9, z0]
  clear z1 z2 z3 z4 z5 z6 z7 z8 z9 z0 hs QA QB QC QD QE QF OB1 OB2 OC1 OC2 LR LG LB LK
  have hw0 : w.heap.size < W0.heap.size := R0.out.lt
  go_wp2_with fail
  have C9 : Hid (Cur B (w8.alloc (.cells #[.complex .f32 s.a1 s.a2, .complex .f32 s.b1 s.b2, .complex .f32 s.c1 s.c2, .float .f32 s.r, .float .f32 s.g, .float .f32 s.b, .float .f32 s.k] 36)) q) := C8.out.alloc
  have R9 : Hid (Blk (w8.alloc (.cells #[.complex .f32 s.a1 s.a2, .complex .f32 s.b1 s.b2, .complex .f32 s.c1 s.c2, .float .f32 s.r, .float .f32 s.g, .float .f32 s.b, .float .f32 s.k] 36)) w.heap.size #[.complex .f32 0 0, .complex .f32 0 0, .complex .f32 0 0, .float .f32 0, .float .f32 0, .float .f32 0, .float .f32 0] 36) := (R0.out.grown G8.out (by omega)).alloc
  have S9 : Hid (Blk (w8.alloc (.cells #[.complex .f32 s.a1 s.a2, .complex .f32 s.b1 s.b2, .complex .f32 s.c1 s.c2, .float .f32 s.r, .float .f32 s.g, .float .f32 s.b, .float .f32 s.k] 36)) w8.heap.size #[.complex .f32 s.a1 s.a2, .complex .f32 s.b1 s.b2, .complex .f32 s.c1 s.c2, .float .f32 s.r, .float .f32 s.g, .float .f32 s.b, .float .f32 s.k] 36) := Blk.new _ _ _
  have G9 : Hid (w.grownBy (w8.alloc (.cells #[.complex .f32 s.a1 s.a2, .complex .f32 s.b1 s.b2, .complex .f32 s.c1 s.c2, .float .f32 s.r, .float .f32 s.g, .float .f32 s.b, .float .f32 s.k] 36)) (some q)) := grownBy_trans G0.out (grown_alloc G8.out _)
  have hsz8 := G8.out.size
  have hq9 := C8.out.lt
  clear C8 G8 R0 G0 s8
  generalize w8.alloc (.cells #[.complex .f32 s.a1 s.a2, .complex .f32 s.b1 s.b2, .complex .f32 s.c1 s.c2, .float .f32 s.r, .float .f32 s.g, .float .f32 s.b, .float .f32 s.k] 36) = W9 at C9 R9 S9 G9 ⊢
  refine (l1Once_s B q 5 _ C9.out (by omega) (by omega)).mono ?_
  rintro e w10 ⟨u, ⟨rfl, hc10, hg10⟩⟩
  have C10 : Hid (Cur B w10 q) := hc10
  have R10 : Hid (Blk w10 w.heap.size #[.complex .f32 0 0, .complex .f32 0 0, .complex .f32 0 0, .float .f32 0, .float .f32 0, .float .f32 0, .float .f32 0] 36) := R9.out.grown hg10 (by omega)
  have S10 : Hid (Blk w10 w8.heap.size #[.complex .f32 s.a1 s.a2, .complex .f32 s.b1 s.b2, .complex .f32 s.c1 s.c2, .float .f32 s.r, .float .f32 s.g, .float .f32 s.b, .float .f32 s.k] 36) := S9.out.grown hg10 (by omega)
  have G10 : Hid (w.grownBy w10 (some q)) := grownBy_trans G9.out hg10
  clear hc10 hg10 R9 S9 G9 C9
  have o0 := Blk.cellAt (i := 0) R10.out rfl
  have o1 := Blk.cellAt (i := 1) R10.out rfl
  have o2 := Blk.cellAt (i := 2) R10.out rfl
  have o3 := Blk.cellAt (i := 3) R10.out rfl
  have o4 := Blk.cellAt (i := 4) R10.out rfl
  have o5 := Blk.cellAt (i := 5) R10.out rfl
  have o6 := Blk.cellAt (i := 6) R10.out rfl
  simp only [List.getElem_toArray, List.getElem_cons_zero, List.getElem_cons_succ] at o0 o1 o2 o3 o4 o5 o6
  have p0 := R10.out.free 0
  have p1 := R10.out.free 1
  have p2 := R10.out.free 2
  have p3 := R10.out.free 3
  have p4 := R10.out.free 4
  have p5 := R10.out.free 5
  have p6 := R10.out.free 6
  have ls := S10.out.lt
  cases u
  · (obtain ⟨d0, d1, d2, d3, d4, d5, d6⟩ := blk7 (S10.out))
    go_wp2_with fail
    (have E0 := R10.out.set (i := 0) (v := .complex .f32 s.a1 s.a2); have E1 := E0.set (i := 1) (v := .complex .f32 s.b1 s.b2); have E2 := E1.set (i := 2) (v := .complex .f32 s.c1 s.c2); have E3 := E2.set (i := 3) (v := .float .f32 s.r); have E4 := E3.set (i := 4) (v := .float .f32 s.g); have E5 := E4.set (i := 5) (v := .float .f32 s.b); have E6 := E5.set (i := 6) (v := .float .f32 s.k); have e0 := E0.cell 0; have e1 := E1.cell 1; have e2 := E2.cell 2; have e3 := E3.cell 3; have e4 := E4.cell 4; have e5 := E5.cell 5; have e6 := E6.cell 6; simp only [List.setIfInBounds_toArray, List.set_cons_zero, List.set_cons_succ, List.getElem?_toArray, List.getElem?_cons_zero, List.getElem?_cons_succ] at e0 e1 e2 e3 e4 e5 e6)
    exact bodyPost_ret (v := .agg #[.complex .f32 s.a1 s.a2, .complex .f32 s.b1 s.b2, .complex .f32 s.c1 s.c2, .float .f32 s.r, .float .f32 s.g, .float .f32 s.b, .float .f32 s.k]) (by simp [results, Tryz.results61, go_sem, e0, e1, e2, e3, e4, e5, e6]) rfl ⟨s, rfl, D.out, by (repeat (first | (with_reducible exact C10.out) | (with_reducible refine Cur.set ?_ (by dsimp only; omega)))), by (repeat (first | (with_reducible exact G10.out) | (with_reducible refine grown_set ?_ (by dsimp only; omega) _)))⟩
  · clear o0 o1 o2 o3 o4 o5 o6 p0 p1 p2 p3 p4 p5 p6
    go_wp2_with fail
    refine (l1Point_s B q _ C10.out).mono ?_
    rintro e w11 ⟨x, y, ⟨rfl, hx, hy, hc11, hg11⟩⟩
    have C11 : Hid (Cur B w11 q) := hc11
    have R11 : Hid (Blk w11 w.heap.size #[.complex .f32 0 0, .complex .f32 0 0, .complex .f32 0 0, .float .f32 0, .float .f32 0, .float .f32 0, .float .f32 0] 36) := R10.out.grown hg11 (by omega)
    have S11 : Hid (Blk w11 w8.heap.size #[.complex .f32 s.a1 s.a2, .complex .f32 s.b1 s.b2, .complex .f32 s.c1 s.c2, .float .f32 s.r, .float .f32 s.g, .float .f32 s.b, .float .f32 s.k] 36) := S10.out.grown hg11 (by omega)
    have G11 : Hid (w.grownBy w11 (some q)) := grownBy_trans G10.out hg11
    have OX : Hid (okB x = true) := hx
    have OY : Hid (okB y = true) := hy
    clear hc11 hg11 hx hy R10 S10 G10 C10
    obtain ⟨t, ht⟩ : ∃ t : Shd, t = ⟨s.a1, s.a2, s.b1, s.b2, x, y, s.r, s.g, s.b, s.k⟩ := ⟨_, rfl⟩
    have DT : Hid t.Drawn := by rw [ht]; exact ⟨D.out.a1, D.out.a2, D.out.b1, D.out.b2, OX.out, OY.out, D.out.r, D.out.g, D.out.b, D.out.k⟩
    have z1 : s.a1 = t.a1 := by rw [ht]
    have z2 : s.a2 = t.a2 := by rw [ht]
    have z3 : s.b1 = t.b1 := by rw [ht]
    have z4 : s.b2 = t.b2 := by rw [ht]
    have z5 : x = t.c1 := by rw [ht]
    have z6 : y = t.c2 := by rw [ht]
    have z7 : s.r = t.r := by rw [ht]
    have z8 : s.g = t.g := by rw [ht]
    have z9 : s.b = t.b := by rw [ht]
    have z0 : s.k = t.k := by rw [ht]
    have R12 : Hid (Blk (w11.setCell ⟨w8.heap.size, 2, Option.none⟩ (.complex .f32 x y)) w.heap.size #[.complex .f32 0 0, .complex .f32 0 0, .complex .f32 0 0, .float .f32 0, .float .f32 0, .float .f32 0, .float .f32 0] 36) := R11.out.other (by dsimp only; omega)
    have S12 : Blk (w11.setCell ⟨w8.heap.size, 2, Option.none⟩ (.complex .f32 x y)) w8.heap.size #[.complex .f32 t.a1 t.a2, .complex .f32 t.b1 t.b2, .complex .f32 t.c1 t.c2, .float .f32 t.r, .float .f32 t.g, .float .f32 t.b, .float .f32 t.k] 36 := by
      rw [← z1, ← z2, ← z3, ← z4, ← z5, ← z6, ← z7, ← z8, ← z9, ← z0]
      exact Blk.setAt rfl S11.out rfl
    have hc2 : (w11.cell? ⟨w8.heap.size, 2, Option.none⟩) = some (.complex .f32 s.c1 s.c2) := S11.out.cell 2
    have hf2 := S11.out.free 2
    have C12 : Hid (Cur B (w11.setCell ⟨w8.heap.size, 2, Option.none⟩ (.complex .f32 x y)) q) := C11.out.set (by dsimp only; omega)
    have G12 : Hid (w.grownBy (w11.setCell ⟨w8.heap.size, 2, Option.none⟩ (.complex .f32 x y)) (some q)) := grown_set G11.out (by dsimp only; omega) _
    clear ht z1 z2 z3 z4 z7 z8 z9 z0 S11 R11 C11 G11 OX OY D
    have S12H : Hid (Blk (w11.setCell ⟨w8.heap.size, 2, Option.none⟩ (.complex .f32 x y)) w8.heap.size #[.complex .f32 t.a1 t.a2, .complex .f32 t.b1 t.b2, .complex .f32 t.c1 t.c2, .float .f32 t.r, .float .f32 t.g, .float .f32 t.b, .float .f32 t.k] 36) := S12
    have ls12 := S12.lt
    have hne : w.heap.size < w8.heap.size := by omega
    clear S12
    subst z5 z6
    go_upto_region 5 with fail
    generalize w11.setCell ⟨w8.heap.size, 2, Option.none⟩ (.complex .f32 t.c1 t.c2) = Y at R12 S12H C12 G12 ls12 ⊢
    clear hc2 hf2
    have o0 := Blk.cellAt (i := 0) R12.out rfl
    have o1 := Blk.cellAt (i := 1) R12.out rfl
    have o2 := Blk.cellAt (i := 2) R12.out rfl
    have o3 := Blk.cellAt (i := 3) R12.out rfl
    have o4 := Blk.cellAt (i := 4) R12.out rfl
    have o5 := Blk.cellAt (i := 5) R12.out rfl
    have o6 := Blk.cellAt (i := 6) R12.out rfl
    simp only [List.getElem_toArray, List.getElem_cons_zero, List.getElem_cons_succ] at o0 o1 o2 o3 o4 o5 o6
    have p0 := R12.out.free 0
    have p1 := R12.out.free 1
    have p2 := R12.out.free 2
    have p3 := R12.out.free 3
    have p4 := R12.out.free 4
    have p5 := R12.out.free 5
    have p6 := R12.out.free 6
    (obtain ⟨d0, d1, d2, d3, d4, d5, d6⟩ := blk7 (S12H.out))
    go_wp2_with fail
    (have E0 := R12.out.set (i := 0) (v := .complex .f32 t.a1 t.a2); have E1 := E0.set (i := 1) (v := .complex .f32 t.b1 t.b2); have E2 := E1.set (i := 2) (v := .complex .f32 t.c1 t.c2); have E3 := E2.set (i := 3) (v := .float .f32 t.r); have E4 := E3.set (i := 4) (v := .float .f32 t.g); have E5 := E4.set (i := 5) (v := .float .f32 t.b); have E6 := E5.set (i := 6) (v := .float .f32 t.k); have e0 := E0.cell 0; have e1 := E1.cell 1; have e2 := E2.cell 2; have e3 := E3.cell 3; have e4 := E4.cell 4; have e5 := E5.cell 5; have e6 := E6.cell 6; simp only [List.setIfInBounds_toArray, List.set_cons_zero, List.set_cons_succ, List.getElem?_toArray, List.getElem?_cons_zero, List.getElem?_cons_succ] at e0 e1 e2 e3 e4 e5 e6)
    exact bodyPost_ret (v := .agg #[.complex .f32 t.a1 t.a2, .complex .f32 t.b1 t.b2, .complex .f32 t.c1 t.c2, .float .f32 t.r, .float .f32 t.g, .float .f32 t.b, .float .f32 t.k]) (by simp [results, Tryz.results61, go_sem, e0, e1, e2, e3, e4, e5, e6]) rfl ⟨t, rfl, DT.out, by (repeat (first | (with_reducible exact C12.out) | (with_reducible refine Cur.set ?_ (by dsimp only; omega)))), by (repeat (first | (with_reducible exact G12.out) | (with_reducible refine grown_set ?_ (by dsimp only; omega) _)))⟩
end Go.Proofs.YtfdgijmmgllmgaaGreat
namespace Go.Proofs.YtfdgijmmgllmgaaGreat
open Go.ChangeShapes Go.WideShapes Go.ChangeAt Go.RowKit Go.Joins
set_option linter.unusedSimpArgs false
set_option linter.unusedVariables false
set_option maxRecDepth 100000
attribute [local go_sem] store_f
structure Lit where
  r : Nat
  g : Nat
  b : Nat
instance : Inhabited Lit := ⟨⟨0, 0, 0⟩⟩
structure Lit.Ok (c : Lit) : Prop where
  r : c.r ≤ 1065353216
  g : c.g ≤ 1065353216
  b : c.b ≤ 1065353216
def Lit.cells (c : Lit) : List Value := [.float .f32 c.r, .float .f32 c.g, .float .f32 c.b]
def litCells (l : List Lit) : List Value := l.flatMap Lit.cells
theorem litCells_snoc (l : List Lit) (s : Lit) : litCells (l ++ [s]) = litCells l ++ s.cells := by simp [litCells]
def LitRow (W : World) (b off : Nat) (l : List Lit) : Prop :=
  ∀ k, k < l.length → W.cell? ⟨b, (off + k * 3), Option.none⟩ = some (.float .f32 (l.getD k default).r) ∧ W.cell? ⟨b, (off + k * 3) + 1, Option.none⟩ = some (.float .f32 (l.getD k default).g) ∧ W.cell? ⟨b, (off + k * 3) + 2, Option.none⟩ = some (.float .f32 (l.getD k default).b)
def LitsAt (W : World) (a : Option Addr) (l : List Lit) : Prop :=
  l = [] ∨ ∃ b off, a = some ⟨b, off, Option.none⟩ ∧ LitRow W b off l
theorem LitRow.below {W w1 : World} {b off : Nat} {l : List Lit} (h : LitRow W b off l) (hb : Below W.heap.size W w1) : LitRow w1 b off l := fun k hk => by
  obtain ⟨h0, h1, h2⟩ := h k hk
  exact ⟨cBelow hb h0, cBelow hb h1, cBelow hb h2⟩
theorem LitRow.grown {W w1 : World} {b off : Nat} {l : List Lit} {r : Option Nat} (h : LitRow W b off l) (hg : W.grownBy w1 r) (hne : r ≠ some b) : LitRow w1 b off l := fun k hk => by
  obtain ⟨h0, h1, h2⟩ := h k hk
  have hl := cell_lt h0
  have e : ∀ i, w1.cell? ⟨b, i, Option.none⟩ = W.cell? ⟨b, i, Option.none⟩ := fun i => World.cell?_of_block (hg.block b hl (fun e => hne e.symm))
  rw [e, e, e]
  exact ⟨h0, h1, h2⟩
theorem LitRow.set {W : World} {b off : Nat} {a : Addr} {v : Value} {l : List Lit} (h : LitRow W b off l) (hne : b ≠ a.block) : LitRow (W.setCell a v) b off l := fun k hk => by
  obtain ⟨h0, h1, h2⟩ := h k hk
  exact ⟨cSet hne h0, cSet hne h1, cSet hne h2⟩
theorem LitRow.alloc {W : World} {b off : Nat} {o : Obj} {l : List Lit} (h : LitRow W b off l) : LitRow (W.alloc o) b off l := fun k hk => by
  obtain ⟨h0, h1, h2⟩ := h k hk
  exact ⟨cAlloc h0, cAlloc h1, cAlloc h2⟩
theorem LitRow.drew {W : World} {b off : Nat} {l : List Lit} (h : LitRow W b off l) : LitRow W.drew b off l := h
theorem LitsAt.below {W w1 : World} {a : Option Addr} {l : List Lit} (h : LitsAt W a l) (hb : Below W.heap.size W w1) : LitsAt w1 a l := by
  rcases h with h | ⟨b, off, e, h⟩
  · exact .inl h
  · exact .inr ⟨b, off, e, h.below hb⟩
theorem LitsAt.alloc {W : World} {a : Option Addr} {o : Obj} {l : List Lit} (h : LitsAt W a l) : LitsAt (W.alloc o) a l := by
  rcases h with h | ⟨b, off, e, h⟩
  · exact .inl h
  · exact .inr ⟨b, off, e, h.alloc⟩
theorem LitsAt.drew {W : World} {a : Option Addr} {l : List Lit} (h : LitsAt W a l) : LitsAt W.drew a l := h
theorem litCells_get : ∀ (l : List Lit) (k : Nat), k < l.length → ∀ j, j < 3 → (litCells l)[k * 3 + j]? = (l.getD k default).cells[j]?
  | p :: l, 0, _, j, hj => by
    have e : litCells (p :: l) = p.cells ++ litCells l := rfl
    rw [e, Nat.zero_mul, Nat.zero_add, List.getElem?_append_left (by simp [Lit.cells]; omega)]
    rfl
  | p :: l, k + 1, h, j, hj => by
    have ih := litCells_get l k (by simpa using h) j hj
    have e : litCells (p :: l) = p.cells ++ litCells l := rfl
    have hl : p.cells.length = 3 := rfl
    rw [e, List.getElem?_append_right (by omega), hl, show (k + 1) * 3 + j - 3 = k * 3 + j by omega, ih]
    rfl
theorem litRow_of {W : World} {base g n cap : Nat} {l : List Lit} (h : W.ownsRow base 26 3 (.slice (some ⟨g, 0, Option.none⟩) n cap) n (litCells l)) (hn : l.length = n) : LitRow W g 0 l := fun k hk => by
  have hg := litCells_get l k hk
  simp only [Nat.zero_add]
  rw [h.cellAt _ (by omega), h.cellAt _ (by omega), h.cellAt _ (by omega)]
  exact ⟨hg 0 (by omega), hg 1 (by omega), hg 2 (by omega)⟩
theorem infoC : (Tryz.prog.info? 26).map (fun i => (i.zero, i.size, i.bytes)) = some (some (.agg #[.float .f32 0, .float .f32 0, .float .f32 0]), 3, 12) := by kernel_rfl
end Go.Proofs.YtfdgijmmgllmgaaGreat
namespace Go.Proofs.YtfdgijmmgllmgaaGreat
open Go.ChangeShapes Go.WideShapes Go.ChangeAt Go.RowKit Go.Joins
set_option linter.unusedSimpArgs false
set_option linter.unusedVariables false
set_option maxRecDepth 100000
attribute [local go_sem] store_f
open Ieee
def iw (z : Int) : Nat := floatOfInt .f32 z
theorem iw_all : ∀ m : Nat, m < 15 → okB (iw ((m : Int) - 7)) = true ∧ cleanB (iw ((m : Int) - 7)) = iw ((m : Int) - 7) ∧ ngB (iw ((m : Int) - 7)) = iw (7 - (m : Int)) ∧ floatToIntVal .f32 (iw ((m : Int) - 7)) .i64 = some ((m : Int) - 7) := by decide +kernel
theorem iw_of {z : Int} (h1 : -7 ≤ z) (h2 : z ≤ 7) : okB (iw z) = true ∧ cleanB (iw z) = iw z ∧ ngB (iw z) = iw (-z) ∧ floatToIntVal .f32 (iw z) .i64 = some z := by
  have h := iw_all (z + 7).toNat (by omega)
  have e : (((z + 7).toNat : Nat) : Int) - 7 = z := by omega
  have e2 : 7 - (((z + 7).toNat : Nat) : Int) = -z := by omega
  rw [e, e2] at h
  exact h
def actN : Nat → Bool → Int → Int → Int × Int
  | 0, false, x, y => (x, y)
  | 0, true, x, y => (x, -y)
  | 1, false, x, y => (-y, x)
  | 1, true, x, y => (y, x)
  | 2, false, x, y => (-x, -y)
  | 2, true, x, y => (-x, y)
  | _, false, x, y => (y, -x)
  | _, true, x, y => (-y, -x)
def plX (n k : Nat) : Int := 2 * (k % n : Nat) + 1 - n
def plY (n k : Nat) : Int := n - 1 - 2 * (k / n : Nat)
def cellOf (n : Nat) (x y : Int) : Nat := (((n : Int) - 1 - y) / 2).toNat * n + ((x + n - 1) / 2).toNat
def cellN (n t : Nat) (f : Bool) (k : Nat) : Nat := cellOf n (actN t f (plX n k) (plY n k)).1 (actN t f (plX n k) (plY n k)).2
theorem pl_bd {n k : Nat} (h1 : 1 ≤ n) (hk : k < n * n) : (-((n : Int) - 1) ≤ plX n k ∧ plX n k ≤ (n : Int) - 1) ∧ (-((n : Int) - 1) ≤ plY n k ∧ plY n k ≤ (n : Int) - 1) := by
  have a := Nat.mod_lt k (show 0 < n by omega)
  have b : k / n < n := (Nat.div_lt_iff_lt_mul (by omega)).2 hk
  unfold plX plY
  generalize k % n = u at *
  generalize k / n = v at *
  omega
def cellFacts (n t : Nat) (f : Bool) (k : Nat) : Bool :=
  let c := cellN n t f k
  decide (c < n * n) && decide (plX n c = (actN t f (plX n k) (plY n k)).1) && decide (plY n c = (actN t f (plX n k) (plY n k)).2) && decide (cellN n 0 false k = k)
def cellsAll : Bool := (List.range 9).all fun n => (List.range (n * n)).all fun k => (List.range 4).all fun t => cellFacts n t false k && cellFacts n t true k
theorem cells_all : cellsAll = true := by decide +kernel
theorem cell_facts {n k t : Nat} {f : Bool} (h8 : n ≤ 8) (hk : k < n * n) (ht : t < 4) : cellFacts n t f k = true := by
  have h := cells_all
  unfold cellsAll at h
  have h2 := List.all_eq_true.1 h n (List.mem_range.2 (by omega))
  have h3 := List.all_eq_true.1 h2 k (List.mem_range.2 hk)
  have h4 := List.all_eq_true.1 h3 t (List.mem_range.2 ht)
  rw [Bool.and_eq_true] at h4
  cases f
  · exact h4.1
  · exact h4.2
theorem cell_lt' {n k t : Nat} {f : Bool} (h8 : n ≤ 8) (hk : k < n * n) (ht : t < 4) : cellN n t f k < n * n := by
  have h := cell_facts (f := f) h8 hk ht
  simp only [cellFacts, Bool.and_eq_true, decide_eq_true_eq] at h
  exact h.1.1.1
theorem cell_place {n k t : Nat} {f : Bool} (h8 : n ≤ 8) (hk : k < n * n) (ht : t < 4) : plX n (cellN n t f k) = (actN t f (plX n k) (plY n k)).1 ∧ plY n (cellN n t f k) = (actN t f (plX n k) (plY n k)).2 := by
  have h := cell_facts (f := f) h8 hk ht
  simp only [cellFacts, Bool.and_eq_true, decide_eq_true_eq] at h
  exact ⟨h.1.1.2, h.1.2⟩
theorem act_place {n k t : Nat} (f : Bool) (h1 : 1 ≤ n) (h8 : n ≤ 8) (hk : k < n * n) (ht : t < 4) :
    ActM t f (iw (plX n k)) (iw (plY n k)) (iw (plX n (cellN n t f k))) (iw (plY n (cellN n t f k))) := by
  obtain ⟨bx, b_y⟩ := pl_bd h1 hk
  obtain ⟨e1, e2⟩ := cell_place (f := f) h8 hk ht
  obtain ⟨o1, c1, n1, _⟩ := iw_of (z := plX n k) (by omega) (by omega)
  obtain ⟨o2, c2, n2, _⟩ := iw_of (z := plY n k) (by omega) (by omega)
  have A := act_of f ht o1 o2
  rw [c1, c2, n1, n2] at A
  have e : actV t f (iw (plX n k)) (iw (-plX n k)) (iw (plY n k)) (iw (-plY n k)) = (iw (actN t f (plX n k) (plY n k)).1, iw (actN t f (plX n k) (plY n k)).2) := by
    rcases (by omega : t = 0 ∨ t = 1 ∨ t = 2 ∨ t = 3) with rfl | rfl | rfl | rfl <;> cases f <;> rfl
  rw [e] at A
  rw [e1, e2]
  exact A
end Go.Proofs.YtfdgijmmgllmgaaGreat
namespace Go.Proofs.YtfdgijmmgllmgaaGreat
open Go.ChangeShapes Go.WideShapes Go.ChangeAt Go.RowKit Go.Joins
set_option linter.unusedSimpArgs false
set_option linter.unusedVariables false
set_option maxRecDepth 100000
attribute [local go_sem] store_f
open Ieee
attribute [local go_sem] store_c
def sizeB (n : Int) : Bool := decide (1 ≤ n ∧ n ≤ 8)
theorem isSize_i (n : Int) (w : World) : Calls Tryz.prog 30 #[.int .i64 n] w fun e w' => e = .returned (.bool (sizeB n)) ∧ w' = w := by
  by_cases h1 : 1 ≤ n
  · by_cases h2 : n ≤ 8
    · have e : sizeB n = true := by unfold sizeB; simp; omega
      rw [e]
      go_enter Tryz.func30, Tryz.ntmps30
      go_wp2
      go_ret
      exact ⟨rfl, rfl⟩
    · have e : sizeB n = false := by unfold sizeB; simp; omega
      rw [e]
      have hd : decide (n ≤ 8) = false := by simpa using h2
      go_enter Tryz.func30, Tryz.ntmps30
      go_wp2
      go_ret
      exact ⟨rfl, rfl⟩
  · have e : sizeB n = false := by unfold sizeB; simp; omega
    rw [e]
    have hd : decide (1 ≤ n) = false := by simpa using h1
    go_enter Tryz.func30, Tryz.ntmps30
    go_wp2
    go_ret
    exact ⟨rfl, rfl⟩
structure CellPl (n k : Int) (x y : Nat) (b : Bool) : Prop where
  call : ∀ w : World, Calls Tryz.prog 117 #[.int .i64 n, .int .i64 k] w fun e w' => e = .returned (.tuple #[.complex .f32 x y, .bool b]) ∧ Below w.heap.size w w'
set_option maxHeartbeats 4000000 in
theorem cellPl_yes {n k : Nat} (h1 : 1 ≤ n) (h8 : n ≤ 8) (hk : k < n * n) : CellPl n k (iw (plX n k)) (iw (plY n k)) true := ⟨fun w => by
  unfold plX plY iw
  rcases (by omega : n = 1 ∨ n = 2 ∨ n = 3 ∨ n = 4 ∨ n = 5 ∨ n = 6 ∨ n = 7 ∨ n = 8) with rfl | rfl | rfl | rfl | rfl | rfl | rfl | rfl
  all_goals
    go_enter Tryz.func117, Tryz.ntmps117
    go_wp2
    go_quiet (fail)
    go_wp2
    go_ret2
    exact ⟨by simp, below_draws _ _ _⟩⟩
theorem size_cases {n : Int} (h : sizeB n = true) : ∃ m : Nat, n = m ∧ 1 ≤ m ∧ m ≤ 8 := by
  unfold sizeB at h
  simp at h
  exact ⟨n.toNat, by omega, by omega, by omega⟩
theorem cellAt_i {n : Nat} {x y : Int} (h1 : 1 ≤ n) (h8 : n ≤ 8) (hx : -((n : Int) - 1) ≤ x ∧ x ≤ (n : Int) - 1) (hy : -((n : Int) - 1) ≤ y ∧ y ≤ (n : Int) - 1) (w : World) :
    Calls Tryz.prog 121 #[.int .i64 n, .complex .f32 (iw x) (iw y)] w fun e w' => e = .returned (.int .i64 (cellOf n x y : Nat)) ∧ w' = w := by
  have hcx := fun w => run_convert_float_int (P := Tryz.prog) w 24 3 .f32 .i64 (iw x) x (by rw [Tryz.underlying24]; rfl) Tryz.underlying3 (iw_of (z := x) (by omega) (by omega)).2.2.2
  have hcy := fun w => run_convert_float_int (P := Tryz.prog) w 24 3 .f32 .i64 (iw y) y (by rw [Tryz.underlying24]; rfl) Tryz.underlying3 (iw_of (z := y) (by omega) (by omega)).2.2.2
  unfold cellOf
  generalize iw x = a at *
  generalize iw y = b at *
  rcases (by omega : n = 1 ∨ n = 2 ∨ n = 3 ∨ n = 4 ∨ n = 5 ∨ n = 6 ∨ n = 7 ∨ n = 8) with rfl | rfl | rfl | rfl | rfl | rfl | rfl | rfl
  · obtain rfl : x = 0 := by omega
    obtain rfl : y = 0 := by omega
    go_enter Tryz.func121, Tryz.ntmps121
    go_wp2_with (first | simp only [hcx] | simp only [hcy])
    go_ret
    exact ⟨by first | rfl | (simp; done), rfl⟩
  all_goals
    go_enter Tryz.func121, Tryz.ntmps121
    go_wp2_with (first | simp only [hcx] | simp only [hcy])
    go_ret
    exact ⟨by first | (congr 2; omega) | (simp; omega), rfl⟩
structure CellM (n k t : Int) (f : Bool) (c : Int) : Prop where
  call : ∀ w : World, Calls Tryz.prog 82 #[.int .i64 n, .int .i64 k, .agg #[.int .i64 t, .bool f]] w fun e w' => e = .returned (.int .i64 c) ∧ Below w.heap.size w w'
structure CellAt (n : Nat) (x y : Nat) (c : Nat) : Prop where
  call : ∀ w : World, Calls Tryz.prog 121 #[.int .i64 n, .complex .f32 x y] w fun e w' => e = .returned (.int .i64 c) ∧ w' = w
theorem cellM_of {n k : Nat} {t : Nat} {f : Bool} {x y p q c : Nat} (ht : t < 4) (P : CellPl n k x y true) (A : ActM t f x y p q) (C : CellAt n p q c) : CellM n k t f c := ⟨fun w => by
  go_enter Tryz.func82, Tryz.ntmps82
  go_wp2_with (first | (go_at_call 117; refine (P.call _).mono ?_; rintro e w1 ⟨rfl, hb⟩; obtain ⟨hc, hf⟩ := bcell hb; have HL := keepL (by (repeat (first | (with_reducible assumption) | (with_reducible apply AllLt.alloc) | (with_reducible apply AllLt.setCell) | (with_reducible apply AllLt.drew) | (with_reducible exact AllLt.nil _)))) hb; have hq := HL; simp only [AllLt, and_true, World.size_alloc, World.size_setCell, World.size_drew] at hq; have hbs := hb.size; try simp only [World.size_alloc, World.size_setCell, World.size_drew] at hbs) | (go_at_call 87; refine (isSym_yes _ _ _ (by omega) (by omega)).mono ?_; rintro e w1 ⟨rfl, hb⟩; obtain ⟨hc, hf⟩ := bcell hb; have HL := keepL (by (repeat (first | (with_reducible assumption) | (with_reducible apply AllLt.alloc) | (with_reducible apply AllLt.setCell) | (with_reducible apply AllLt.drew) | (with_reducible exact AllLt.nil _)))) hb; have hq := HL; simp only [AllLt, and_true, World.size_alloc, World.size_setCell, World.size_drew] at hq; have hbs := hb.size; try simp only [World.size_alloc, World.size_setCell, World.size_drew] at hbs) | (go_at_call 53; refine (A.call _).mono ?_; rintro e w1 ⟨rfl, hb⟩; obtain ⟨hc, hf⟩ := bcell hb; have HL := keepL (by (repeat (first | (with_reducible assumption) | (with_reducible apply AllLt.alloc) | (with_reducible apply AllLt.setCell) | (with_reducible apply AllLt.drew) | (with_reducible exact AllLt.nil _)))) hb; have hq := HL; simp only [AllLt, and_true, World.size_alloc, World.size_setCell, World.size_drew] at hq; have hbs := hb.size; try simp only [World.size_alloc, World.size_setCell, World.size_drew] at hbs) | (go_at_call 121; refine (C.call _).mono ?_; rintro e w3 ⟨rfl, rfl⟩))
  go_ret
  exact ⟨rfl, by (repeat' (first | (with_reducible exact Below.refl _ _) | (with_reducible assumption) | (with_reducible refine Below.alloc ?_ ?_ _) | (with_reducible refine Below.drew ?_) | (with_reducible refine Below.setCell ?_ ?_ _) | (with_reducible refine Below.trans ?_ (Below.mono (by assumption) ?_)) | (with_reducible exact Nat.le_refl _) | omega | (simp only [World.size_alloc, World.size_setCell, World.size_drew]; omega) | (simp; omega) | (simp; done)))⟩⟩
theorem cellM_yes {n k t : Nat} (f : Bool) (h1 : 1 ≤ n) (h8 : n ≤ 8) (hk : k < n * n) (ht : t < 4) : CellM n k t f (cellN n t f k : Nat) := by
  obtain ⟨b1, b2⟩ := pl_bd h1 (cell_lt' (f := f) h8 hk ht)
  refine cellM_of ht (cellPl_yes h1 h8 hk) (act_place f h1 h8 hk ht) ⟨fun w => ?_⟩
  have h := cellAt_i h1 h8 b1 b2 w
  obtain ⟨e1, e2⟩ := cell_place (f := f) h8 hk ht
  rw [e1, e2] at h ⊢
  exact h
end Go.Proofs.YtfdgijmmgllmgaaGreat
namespace Go.Proofs.YtfdgijmmgllmgaaGreat
open Go.ChangeShapes Go.WideShapes Go.ChangeAt Go.RowKit Go.Joins
set_option linter.unusedSimpArgs false
set_option linter.unusedVariables false
set_option maxRecDepth 100000
attribute [local go_sem] store_f
open Ieee
def leastL (n k : Nat) (l : List (Int × Bool)) : Nat := l.foldl (fun m p => min m (cellN n p.1.toNat p.2 k)) k
theorem leastL_snoc (n k : Nat) {l : List (Int × Bool)} {j : Nat} (h : j < l.length) : leastL n k (l.take (j + 1)) = min (leastL n k (l.take j)) (cellN n (l.getD j (0, false)).1.toNat (l.getD j (0, false)).2 k) := by
  have e : l.getD j (0, false) = l[j] := by simp [List.getD, h]
  unfold leastL
  rw [List.take_succ_eq_append_getElem h, List.foldl_append, e]; rfl
theorem leastL_le (n k : Nat) (l : List (Int × Bool)) : leastL n k l ≤ k := by
  unfold leastL
  have key : ∀ (l : List (Int × Bool)) (m : Nat), l.foldl (fun m p => min m (cellN n p.1.toNat p.2 k)) m ≤ m := by
    intro l
    induction l with
    | nil => intro m; exact Nat.le_refl _
    | cons p l ih => intro m; exact Nat.le_trans (ih _) (Nat.min_le_left _ _)
  exact key l k
def leastN (kind : Int) (n k : Nat) : Nat := leastL n k (symsTo kind 8)
theorem symsTo_in (kind : Int) : ∀ p ∈ symsTo kind 8, ∃ t : Nat, p.1 = t ∧ t < 4 := by
  intro p hp
  unfold symsTo at hp
  obtain ⟨h1, _⟩ := List.mem_filter.1 hp
  obtain ⟨i, hi, rfl⟩ := List.mem_map.1 h1
  exact ⟨i % 4, rfl, by omega⟩
structure LeastM (kind n k : Int) (c : Nat) : Prop where
  call : ∀ w : World, Calls Tryz.prog 48 #[.int .i64 kind, .int .i64 n, .int .i64 k] w fun e w' => e = .returned (.int .i64 c) ∧ Below w.heap.size w w'
set_option maxHeartbeats 4000000 in
theorem leastM {n k : Nat} (kind : Int) (h1 : 1 ≤ n) (h8 : n ≤ 8) (hk : k < n * n) : LeastM kind n k (leastN kind n k) := ⟨fun w => by
  have hk64 : k < 64 := Nat.lt_of_lt_of_le hk (Nat.mul_le_mul h8 h8)
  have hl8 := symsTo_le kind 8
  have HM : Hid (∀ j, j < (symsTo kind 8).length → CellM n k ((symsTo kind 8).getD j (0, false)).1 ((symsTo kind 8).getD j (0, false)).2 (cellN n ((symsTo kind 8).getD j (0, false)).1.toNat ((symsTo kind 8).getD j (0, false)).2 k : Nat)) := fun j hj => by
    obtain ⟨t, ht, h4⟩ := symsTo_in kind ((symsTo kind 8).getD j (0, false)) (by simp [List.getD, hj])
    rw [ht]
    exact cellM_yes _ h1 h8 hk h4
  have HS : Hid (∀ j, j < (symsTo kind 8).length → leastL n k ((symsTo kind 8).take (j + 1)) = min (leastL n k ((symsTo kind 8).take j)) (cellN n ((symsTo kind 8).getD j (0, false)).1.toNat ((symsTo kind 8).getD j (0, false)).2 k)) := fun j hj => leastL_snoc n k hj
  have HE : Hid (leastL n k ((symsTo kind 8).take (symsTo kind 8).length) = leastN kind n k) := by rw [List.take_length]; rfl
  have H0 : Hid (leastL n k ((symsTo kind 8).take 0) = k) := rfl
  have SY := fun w => symsOf_i kind w
  generalize leastN kind n k = z at HE ⊢
  generalize symsTo kind 8 = l at *
  generalize hL : (fun j : Nat => leastL n k (l.take j)) = L
  have HS' : Hid (∀ j, j < l.length → L (j + 1) = min (L j) (cellN n (l.getD j (0, false)).1.toNat (l.getD j (0, false)).2 k)) := by rw [← hL]; exact HS.out
  have HE' : L l.length = z := by rw [← hL]; exact HE.out
  have H0' : L 0 = k := by rw [← hL]; exact H0.out
  clear HS HE H0 hL hk
  subst HE'
  go_enter Tryz.func48, Tryz.ntmps48
  go_wp2_with fail
  have HL0 : Hid (L 0 = k) := H0'
  clear H0'
  refine (SY _).mono ?_
  rintro e w1 ⟨gs, cs, rfl, own, hb1⟩
  have HR : Hid (SymRow w1 gs l) := symRow_of own rfl
  have HB : Hid (Below w.heap.size w w1) := hb1
  clear own hb1 SY
  go_wp2_with fail
  go_loopw [7, 14] (fun v i wr => ∃ j : Nat, j ≤ l.length ∧ i = .int .i64 j ∧ v = .int .i64 (L j : Nat) ∧ Below w1.heap.size w1 wr) (fun _ i _ => l.length - (intOf i).toNat)
  case atStart => exact ⟨0, by omega, rfl, by rw [HL0.out], Below.refl _ _⟩
  case round =>
    obtain ⟨j, hj, rfl, rfl, hbel⟩ := hrel
    have HBL : Hid (Below w1.heap.size w1 wr) := hbel
    have hbs := hbel.size
    by_cases hlt : j < l.length
    · have K := HM.out j hlt
      have HY0 : Hid (L (j + 1) = min (L j) (cellN n (l.getD j (0, false)).1.toNat (l.getD j (0, false)).2 k)) := HS'.out j hlt
      obtain ⟨c0, c1⟩ := HR.out.below hbel j hlt
      generalize cellN n (l.getD j (0, false)).1.toNat (l.getD j (0, false)).2 k = c at K HY0
      have HY : Hid (L (j + 1) = min (L j) c) := HY0
      clear HY0
      generalize l.getD j (0, false) = s at K c0 c1
      obtain ⟨t, f⟩ := s
      simp only [] at c0 c1 K
      clear hbel
      go_wp2_with fail
      refine (K.call _).mono ?_
      rintro e w2 ⟨rfl, hb⟩
      have HB2 : Hid (Below w1.heap.size w1 w2) := (HBL.out.alloc (by omega) _).trans (hb.mono (by simp; omega))
      clear hb c0 c1
      go_wp2
      go_roundw
      case rel => exact ⟨j + 1, by omega, by go_num, by (rw [HY.out]; congr 1; split <;> omega), HB2.out⟩
      case measure => simp [intOf]; omega
    · have hjm : j = l.length := by omega
      subst hjm
      have HZ : Hid (Below w.heap.size w wr) := HB.out.trans (hbel.mono HB.out.size)
      clear hbel
      go_wp2
      go_ret
      exact ⟨rfl, HZ.out⟩⟩
end Go.Proofs.YtfdgijmmgllmgaaGreat
namespace Go.Proofs.YtfdgijmmgllmgaaGreat
open Go.ChangeShapes Go.WideShapes Go.ChangeAt Go.RowKit Go.Joins
set_option linter.unusedSimpArgs false
set_option linter.unusedVariables false
set_option maxRecDepth 100000
attribute [local go_sem] store_f
open Ieee
attribute [local go_sem] store_c
def stepB (i : Nat) : Nat := [1048576000, 1056964608, 1065353216, 1073741824, 1050253722].getD i 0
def pwB (i : Nat) (z : Int) : Nat := match F32.mul (iw z) (stepB i) with | some r => setB r | none => 0
def pwOk (i m : Nat) : Bool := (F32.mul (iw ((m : Int) - 7)) (stepB i)).isSome && okB (pwB i ((m : Int) - 7)) && (cleanB (pwB i ((m : Int) - 7)) == pwB i ((m : Int) - 7)) && (ngB (pwB i ((m : Int) - 7)) == pwB i (7 - (m : Int)))
theorem pw_all : ∀ i : Nat, i < 5 → ∀ m : Nat, m < 15 → pwOk i m = true := by decide +kernel
theorem pw_of {i : Nat} {z : Int} (hi : i < 5) (h1 : -7 ≤ z) (h2 : z ≤ 7) : (∃ r, F32.mul (iw z) (stepB i) = some r ∧ setB r = pwB i z) ∧ okB (pwB i z) = true ∧ cleanB (pwB i z) = pwB i z ∧ ngB (pwB i z) = pwB i (-z) := by
  have h := pw_all i hi (z + 7).toNat (by omega)
  have e : (((z + 7).toNat : Nat) : Int) - 7 = z := by omega
  have e2 : 7 - (((z + 7).toNat : Nat) : Int) = -z := by omega
  unfold pwOk at h
  rw [e, e2] at h
  simp only [Bool.and_eq_true, beq_iff_eq] at h
  refine ⟨?_, h.1.1.2, h.1.2, h.2⟩
  obtain ⟨r, hr⟩ := Option.isSome_iff_exists.1 h.1.1.1
  exact ⟨r, hr, by unfold pwB; rw [hr]⟩
theorem pw_pt {i : Nat} {z : Int} (hi : i < 5) (h1 : -7 ≤ z) (h2 : z ≤ 7) : Pt (pwB i z) := by
  have h := pw_of hi h1 h2
  rw [← h.2.2.1]
  exact pt_clean h.2.1
def zOf (i n k : Nat) (hi : i < 5) (h1 : 1 ≤ n) (h8 : n ≤ 8) (hk : k < n * n) : PtW :=
  ⟨(pwB i (plX n k), pwB i (plY n k)), by
    obtain ⟨a, b⟩ := pl_bd h1 hk
    exact ⟨pw_pt hi (by omega) (by omega), pw_pt hi (by omega) (by omega)⟩⟩
theorem zOf_act {i n k t : Nat} {f : Bool} (hi : i < 5) (h1 : 1 ≤ n) (h8 : n ≤ 8) (hk : k < n * n) (ht : t < 4) :
    actP ((t : Int), f) (zOf i n k hi h1 h8 hk) = zOf i n (cellN n t f k) hi h1 h8 (cell_lt' h8 hk ht) := by
  apply Subtype.ext
  obtain ⟨a, b⟩ := pl_bd h1 hk
  obtain ⟨e1, e2⟩ := cell_place (f := f) h8 hk ht
  have nx := (pw_of (z := plX n k) hi (by omega) (by omega)).2.2.2
  have ny := (pw_of (z := plY n k) hi (by omega) (by omega)).2.2.2
  show actV ((t : Int)).toNat f (pwB i (plX n k)) (ngB (pwB i (plX n k))) (pwB i (plY n k)) (ngB (pwB i (plY n k))) = (pwB i (plX n (cellN n t f k)), pwB i (plY n (cellN n t f k)))
  rw [e1, e2, nx, ny]
  have e : ((t : Int)).toNat = t := rfl
  rw [e]
  rcases (by omega : t = 0 ∨ t = 1 ∨ t = 2 ∨ t = 3) with rfl | rfl | rfl | rfl <;> cases f <;> rfl
end Go.Proofs.YtfdgijmmgllmgaaGreat
