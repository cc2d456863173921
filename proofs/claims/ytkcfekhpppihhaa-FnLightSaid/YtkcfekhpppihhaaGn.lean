/-
  The draw of a shard.
-/
import Derived.Test.YtkcfekhpppihhaaGm
import Derived.Deep.DeepCutAuto
namespace Go.Proofs.Ytkcfekhpppihhaa
open Go.ChangeShapes Go.WideShapes Go.ChangeAt Go.RowKit Go.Joins
set_option linter.unusedSimpArgs false
set_option linter.unusedVariables false
set_option maxRecDepth 100000
attribute [local go_sem] store_f
open Ieee
attribute [local go_sem] store_c

/-- A drawn shard: corners in reach, glass of parts. -/
structure Shd.Drawn (s : Shd) : Prop where
  a1 : okB s.a1 = true
  a2 : okB s.a2 = true
  b1 : okB s.b1 = true
  b2 : okB s.b2 = true
  c1 : okB s.c1 = true
  c2 : okB s.c2 = true
  r : s.r ≤ 1065353216
  g : s.g ≤ 1065353216
  b : s.b ≤ 1065353216
  k : s.k ≤ 1065353216
theorem Shd.Drawn.ok {s : Shd} (h : s.Drawn) : s.Ok :=
  ⟨ok_rch h.a1, ok_rch h.a2, ok_rch h.b1, ok_rch h.b2, ok_rch h.c1, ok_rch h.c2, .inl h.r, .inl h.g, .inl h.b, .inl h.k⟩

theorem grown_set {w w1 : World} {r : Option Nat} (h : w.grownBy w1 r) {p : Addr} (hp : w.heap.size ≤ p.block) (v : Value) : w.grownBy (w1.setCell p v) r := grown_setNew h hp v
structure ShardDrawn (B q : Nat) (w : World) (e : Ending) (w' : World) (s : Shd) : Prop where
  ret : e = .returned (.agg #[.complex .f32 s.a1 s.a2, .complex .f32 s.b1 s.b2, .complex .f32 s.c1 s.c2, .float .f32 s.r, .float .f32 s.g, .float .f32 s.b, .float .f32 s.k])
  ok : s.Drawn
  cur : Cur B w' q
  grown : w.grownBy w' (some q)

set_option maxHeartbeats 16000000 in
theorem l3Draw_s (B q : Nat) (w : World) (hcur : Cur B w q) :
    Calls Try.prog 54 #[.pointer (some ⟨q, 0, Option.none⟩)] w fun e w' => ∃ s, ShardDrawn B q w e w' s := by
  have HC : Hid (Cur B w q) := hcur
  have hq := hcur.lt
  clear hcur
  go_enter Try.func54, Try.ntmps54
  go_wp2_with fail
  have R0 : Hid (Blk (w.alloc (.cells #[.complex .f32 0 0, .complex .f32 0 0, .complex .f32 0 0, .float .f32 0, .float .f32 0, .float .f32 0, .float .f32 0] 37)) w.heap.size #[.complex .f32 0 0, .complex .f32 0 0, .complex .f32 0 0, .float .f32 0, .float .f32 0, .float .f32 0, .float .f32 0] 37) := Blk.new _ _ _
  have C0 : Hid (Cur B (w.alloc (.cells #[.complex .f32 0 0, .complex .f32 0 0, .complex .f32 0 0, .float .f32 0, .float .f32 0, .float .f32 0, .float .f32 0] 37)) q) := HC.out.alloc
  have G0 : Hid (w.grownBy (w.alloc (.cells #[.complex .f32 0 0, .complex .f32 0 0, .complex .f32 0 0, .float .f32 0, .float .f32 0, .float .f32 0, .float .f32 0] 37)) (some q)) := grown_alloc (grownBy_refl _ _) _
  clear HC
  generalize w.alloc (.cells #[.complex .f32 0 0, .complex .f32 0 0, .complex .f32 0 0, .float .f32 0, .float .f32 0, .float .f32 0, .float .f32 0] 37) = W0 at R0 C0 G0 ⊢
  refine (some_32 B q _ C0.out).mono ?_
  rintro e w1 ⟨m, ⟨rfl, hm, hc1, hg1⟩⟩
  have C1 : Hid (Cur B w1 q) := hc1
  have G1 : Hid (W0.grownBy w1 (some q)) := hg1
  obtain ⟨ed, hd1, hd2⟩ := qu_32 m hm
  have QA : Hid (Qu (quB 32 m)) := ⟨hd1, by unfold rungOf; rw [F32_sw]; exact hd2⟩
  have op1 := fun t w => run_float_arith (P := Try.prog) w .quo t .f32 _ 1082130432 _ ed
  generalize quB 32 m = a1 at QA op1
  clear hc1 hg1 ed hd1 hd2
  go_wp2_with (simp only [op1])
  refine (some_32 B q _ C1.out).mono ?_
  rintro e w2 ⟨m2, ⟨rfl, hm2, hc2, hg2⟩⟩
  have C2 : Hid (Cur B w2 q) := hc2
  have G2 : Hid (W0.grownBy w2 (some q)) := grownBy_trans G1.out hg2
  obtain ⟨ed, hd1, hd2⟩ := qu_32 m2 hm2
  have QB : Hid (Qu (quB 32 m2)) := ⟨hd1, by unfold rungOf; rw [F32_sw]; exact hd2⟩
  have op2 := fun t w => run_float_arith (P := Try.prog) w .quo t .f32 _ 1082130432 _ ed
  generalize quB 32 m2 = a2 at QB op2
  clear hc2 hg2 ed hd1 hd2 op1
  go_wp2_with (simp only [op2])
  refine (some_24 B q _ C2.out).mono ?_
  rintro e w3 ⟨m3, ⟨rfl, hm3, hc3, hg3⟩⟩
  have C3 : Hid (Cur B w3 q) := hc3
  have G3 : Hid (W0.grownBy w3 (some q)) := grownBy_trans G2.out hg3
  obtain ⟨ed, hd1, hd2⟩ := qu_24 m3 hm3
  have QC : Hid (Qu (quB 24 m3)) := ⟨hd1, by unfold rungOf; rw [F32_sw]; exact hd2⟩
  have op3 := fun t w => run_float_arith (P := Try.prog) w .quo t .f32 _ 1082130432 _ ed
  generalize quB 24 m3 = d1 at QC op3
  clear hc3 hg3 ed hd1 hd2 op2
  go_wp2_with (simp only [op3])
  refine (some_24 B q _ C3.out).mono ?_
  rintro e w4 ⟨m4, ⟨rfl, hm4, hc4, hg4⟩⟩
  have C4 : Hid (Cur B w4 q) := hc4
  have G4 : Hid (W0.grownBy w4 (some q)) := grownBy_trans G3.out hg4
  obtain ⟨ed, hd1, hd2⟩ := qu_24 m4 hm4
  have QD : Hid (Qu (quB 24 m4)) := ⟨hd1, by unfold rungOf; rw [F32_sw]; exact hd2⟩
  have op4 := fun t w => run_float_arith (P := Try.prog) w .quo t .f32 _ 1082130432 _ ed
  generalize quB 24 m4 = d2 at QD op4
  clear hc4 hg4 ed hd1 hd2 op3
  have P1 := plus_of (plus1 QA.out QC.out) (plus1 QB.out QD.out)
  have OB1 : Hid (okB (clT (valOf F32 a1 + valOf F32 d1)) = true) := clT_ok (qu_add QA.out QC.out)
  have OB2 : Hid (okB (clT (valOf F32 a2 + valOf F32 d2)) = true) := clT_ok (qu_add QB.out QD.out)
  generalize clT (valOf F32 a1 + valOf F32 d1) = b1 at P1 OB1
  generalize clT (valOf F32 a2 + valOf F32 d2) = b2 at P1 OB2
  go_wp2_with (simp only [op4])
  refine (P1.call _).mono ?_
  rintro e w4' ⟨rfl, rfl⟩
  clear op4 P1
  go_wp2_with fail
  refine (some_24 B q _ C4.out).mono ?_
  rintro e w5 ⟨m5, ⟨rfl, hm5, hc5, hg5⟩⟩
  have C5 : Hid (Cur B w5 q) := hc5
  have G5 : Hid (W0.grownBy w5 (some q)) := grownBy_trans G4.out hg5
  obtain ⟨ed, hd1, hd2⟩ := qu_24 m5 hm5
  have QE : Hid (Qu (quB 24 m5)) := ⟨hd1, by unfold rungOf; rw [F32_sw]; exact hd2⟩
  have op5 := fun t w => run_float_arith (P := Try.prog) w .quo t .f32 _ 1082130432 _ ed
  generalize quB 24 m5 = e1 at QE op5
  clear hc5 hg5 ed hd1 hd2
  go_wp2_with (simp only [op5])
  refine (some_24 B q _ C5.out).mono ?_
  rintro e w6 ⟨m6, ⟨rfl, hm6, hc6, hg6⟩⟩
  have C6 : Hid (Cur B w6 q) := hc6
  have G6 : Hid (W0.grownBy w6 (some q)) := grownBy_trans G5.out hg6
  obtain ⟨ed, hd1, hd2⟩ := qu_24 m6 hm6
  have QF : Hid (Qu (quB 24 m6)) := ⟨hd1, by unfold rungOf; rw [F32_sw]; exact hd2⟩
  have op6 := fun t w => run_float_arith (P := Try.prog) w .quo t .f32 _ 1082130432 _ ed
  generalize quB 24 m6 = e2 at QF op6
  clear hc6 hg6 ed hd1 hd2 op5
  have P2 := plus_of (plus1 QA.out QE.out) (plus1 QB.out QF.out)
  have OC1 : Hid (okB (clT (valOf F32 a1 + valOf F32 e1)) = true) := clT_ok (qu_add QA.out QE.out)
  have OC2 : Hid (okB (clT (valOf F32 a2 + valOf F32 e2)) = true) := clT_ok (qu_add QB.out QF.out)
  generalize clT (valOf F32 a1 + valOf F32 e1) = c1 at P2 OC1
  generalize clT (valOf F32 a2 + valOf F32 e2) = c2 at P2 OC2
  go_wp2_with (simp only [op6])
  refine (P2.call _).mono ?_
  rintro e w6' ⟨rfl, rfl⟩
  clear op6 P2
  go_wp2_with fail
  refine (l2Draw_s B q _ C6.out).mono ?_
  rintro e w7 ⟨r, g, b, ⟨rfl, lr, lg, lb, hc7, hg7⟩⟩
  have C7 : Hid (Cur B w7 q) := hc7
  have G7 : Hid (W0.grownBy w7 (some q)) := grownBy_trans G6.out hg7
  have LR : Hid (r ≤ 1065353216) := lr
  have LG : Hid (g ≤ 1065353216) := lg
  have LB : Hid (b ≤ 1065353216) := lb
  clear hc7 hg7 lr lg lb
  go_wp2_with fail
  refine (l2One_s B q _ C7.out).mono ?_
  rintro e w8 ⟨k, ⟨rfl, lk, hc8, hg8⟩⟩
  have C8 : Hid (Cur B w8 q) := hc8
  have G8 : Hid (W0.grownBy w8 (some q)) := grownBy_trans G7.out hg8
  have LK : Hid (k ≤ 1065353216) := lk
  have s8 := hg8.size
  clear hc8 hg8 lk
  obtain ⟨s, hs⟩ : ∃ s : Shd, s = ⟨a1, a2, b1, b2, c1, c2, r, g, b, k⟩ := ⟨_, rfl⟩
  have D : Hid s.Drawn := by rw [hs]; exact ⟨QA.out.ok, QB.out.ok, OB1.out, OB2.out, OC1.out, OC2.out, LR.out, LG.out, LB.out, LK.out⟩
  have z1 : a1 = s.a1 := by rw [hs]
  have z2 : a2 = s.a2 := by rw [hs]
  have z3 : b1 = s.b1 := by rw [hs]
  have z4 : b2 = s.b2 := by rw [hs]
  have z5 : c1 = s.c1 := by rw [hs]
  have z6 : c2 = s.c2 := by rw [hs]
  have z7 : r = s.r := by rw [hs]
  have z8 : g = s.g := by rw [hs]
  have z9 : b = s.b := by rw [hs]
  have z0 : k = s.k := by rw [hs]
  rw [z1, z2, z3, z4, z5, z6, z7, z8, z9, z0]
  clear z1 z2 z3 z4 z5 z6 z7 z8 z9 z0 hs QA QB QC QD QE QF OB1 OB2 OC1 OC2 LR LG LB LK
  have hw0 : w.heap.size < W0.heap.size := R0.out.lt
  go_wp2_with fail
  have C9 : Hid (Cur B (w8.alloc (.cells #[.complex .f32 s.a1 s.a2, .complex .f32 s.b1 s.b2, .complex .f32 s.c1 s.c2, .float .f32 s.r, .float .f32 s.g, .float .f32 s.b, .float .f32 s.k] 37)) q) := C8.out.alloc
  have R9 : Hid (Blk (w8.alloc (.cells #[.complex .f32 s.a1 s.a2, .complex .f32 s.b1 s.b2, .complex .f32 s.c1 s.c2, .float .f32 s.r, .float .f32 s.g, .float .f32 s.b, .float .f32 s.k] 37)) w.heap.size #[.complex .f32 0 0, .complex .f32 0 0, .complex .f32 0 0, .float .f32 0, .float .f32 0, .float .f32 0, .float .f32 0] 37) := (R0.out.grown G8.out (by omega)).alloc
  have S9 : Hid (Blk (w8.alloc (.cells #[.complex .f32 s.a1 s.a2, .complex .f32 s.b1 s.b2, .complex .f32 s.c1 s.c2, .float .f32 s.r, .float .f32 s.g, .float .f32 s.b, .float .f32 s.k] 37)) w8.heap.size #[.complex .f32 s.a1 s.a2, .complex .f32 s.b1 s.b2, .complex .f32 s.c1 s.c2, .float .f32 s.r, .float .f32 s.g, .float .f32 s.b, .float .f32 s.k] 37) := Blk.new _ _ _
  have G9 : Hid (w.grownBy (w8.alloc (.cells #[.complex .f32 s.a1 s.a2, .complex .f32 s.b1 s.b2, .complex .f32 s.c1 s.c2, .float .f32 s.r, .float .f32 s.g, .float .f32 s.b, .float .f32 s.k] 37)) (some q)) := grownBy_trans G0.out (grown_alloc G8.out _)
  have hsz8 := G8.out.size
  have hq9 := C8.out.lt
  clear C8 G8 R0 G0 s8
  generalize w8.alloc (.cells #[.complex .f32 s.a1 s.a2, .complex .f32 s.b1 s.b2, .complex .f32 s.c1 s.c2, .float .f32 s.r, .float .f32 s.g, .float .f32 s.b, .float .f32 s.k] 37) = W9 at C9 R9 S9 G9 ⊢
  refine (l1Once_s B q 5 _ C9.out (by omega) (by omega)).mono ?_
  rintro e w10 ⟨u, ⟨rfl, hc10, hg10⟩⟩
  have C10 : Hid (Cur B w10 q) := hc10
  have R10 : Hid (Blk w10 w.heap.size #[.complex .f32 0 0, .complex .f32 0 0, .complex .f32 0 0, .float .f32 0, .float .f32 0, .float .f32 0, .float .f32 0] 37) := R9.out.grown hg10 (by omega)
  have S10 : Hid (Blk w10 w8.heap.size #[.complex .f32 s.a1 s.a2, .complex .f32 s.b1 s.b2, .complex .f32 s.c1 s.c2, .float .f32 s.r, .float .f32 s.g, .float .f32 s.b, .float .f32 s.k] 37) := S9.out.grown hg10 (by omega)
  have G10 : Hid (w.grownBy w10 (some q)) := grownBy_trans G9.out hg10
  clear hc10 hg10 R9 S9 G9 C9
  have o0 := Blk.cellAt (i := 0) R10.out rfl
  have o1 := Blk.cellAt (i := 1) R10.out rfl
  have o2 := Blk.cellAt (i := 2) R10.out rfl
  have o3 := Blk.cellAt (i := 3) R10.out rfl
  have o4 := Blk.cellAt (i := 4) R10.out rfl
  have o5 := Blk.cellAt (i := 5) R10.out rfl
  have o6 := Blk.cellAt (i := 6) R10.out rfl
  simp only [List.getElem_toArray, List.getElem_cons_zero, List.getElem_cons_succ] at o0 o1 o2 o3 o4 o5 o6
  have p0 := R10.out.free 0
  have p1 := R10.out.free 1
  have p2 := R10.out.free 2
  have p3 := R10.out.free 3
  have p4 := R10.out.free 4
  have p5 := R10.out.free 5
  have p6 := R10.out.free 6
  have ls := S10.out.lt
  cases u
  · (have d0 := Blk.cellAt (i := 0) S10.out rfl; have d1 := Blk.cellAt (i := 1) S10.out rfl; have d2 := Blk.cellAt (i := 2) S10.out rfl; have d3 := Blk.cellAt (i := 3) S10.out rfl; have d4 := Blk.cellAt (i := 4) S10.out rfl; have d5 := Blk.cellAt (i := 5) S10.out rfl; have d6 := Blk.cellAt (i := 6) S10.out rfl; simp only [List.getElem_toArray, List.getElem_cons_zero, List.getElem_cons_succ] at d0 d1 d2 d3 d4 d5 d6)
    go_wp2_with fail
    (have E0 := R10.out.set (i := 0) (v := .complex .f32 s.a1 s.a2); have E1 := E0.set (i := 1) (v := .complex .f32 s.b1 s.b2); have E2 := E1.set (i := 2) (v := .complex .f32 s.c1 s.c2); have E3 := E2.set (i := 3) (v := .float .f32 s.r); have E4 := E3.set (i := 4) (v := .float .f32 s.g); have E5 := E4.set (i := 5) (v := .float .f32 s.b); have E6 := E5.set (i := 6) (v := .float .f32 s.k); have e0 := E0.cell 0; have e1 := E1.cell 1; have e2 := E2.cell 2; have e3 := E3.cell 3; have e4 := E4.cell 4; have e5 := E5.cell 5; have e6 := E6.cell 6; simp only [List.setIfInBounds_toArray, List.set_cons_zero, List.set_cons_succ, List.getElem?_toArray, List.getElem?_cons_zero, List.getElem?_cons_succ] at e0 e1 e2 e3 e4 e5 e6)
    exact bodyPost_ret (v := .agg #[.complex .f32 s.a1 s.a2, .complex .f32 s.b1 s.b2, .complex .f32 s.c1 s.c2, .float .f32 s.r, .float .f32 s.g, .float .f32 s.b, .float .f32 s.k]) (by simp [results, Try.results54, go_sem, e0, e1, e2, e3, e4, e5, e6]) rfl ⟨s, rfl, D.out, by (repeat (first | (with_reducible exact C10.out) | (with_reducible refine Cur.set ?_ (by dsimp only; omega)))), by (repeat (first | (with_reducible exact G10.out) | (with_reducible refine grown_set ?_ (by dsimp only; omega) _)))⟩
  · clear o0 o1 o2 o3 o4 o5 o6 p0 p1 p2 p3 p4 p5 p6
    go_wp2_with fail
    refine (l1Point_s B q _ C10.out).mono ?_
    rintro e w11 ⟨x, y, ⟨rfl, hx, hy, hc11, hg11⟩⟩
    have C11 : Hid (Cur B w11 q) := hc11
    have R11 : Hid (Blk w11 w.heap.size #[.complex .f32 0 0, .complex .f32 0 0, .complex .f32 0 0, .float .f32 0, .float .f32 0, .float .f32 0, .float .f32 0] 37) := R10.out.grown hg11 (by omega)
    have S11 : Hid (Blk w11 w8.heap.size #[.complex .f32 s.a1 s.a2, .complex .f32 s.b1 s.b2, .complex .f32 s.c1 s.c2, .float .f32 s.r, .float .f32 s.g, .float .f32 s.b, .float .f32 s.k] 37) := S10.out.grown hg11 (by omega)
    have G11 : Hid (w.grownBy w11 (some q)) := grownBy_trans G10.out hg11
    have OX : Hid (okB x = true) := hx
    have OY : Hid (okB y = true) := hy
    clear hc11 hg11 hx hy R10 S10 G10 C10
    obtain ⟨t, ht⟩ : ∃ t : Shd, t = ⟨s.a1, s.a2, s.b1, s.b2, x, y, s.r, s.g, s.b, s.k⟩ := ⟨_, rfl⟩
    have DT : Hid t.Drawn := by rw [ht]; exact ⟨D.out.a1, D.out.a2, D.out.b1, D.out.b2, OX.out, OY.out, D.out.r, D.out.g, D.out.b, D.out.k⟩
    have z1 : s.a1 = t.a1 := by rw [ht]
    have z2 : s.a2 = t.a2 := by rw [ht]
    have z3 : s.b1 = t.b1 := by rw [ht]
    have z4 : s.b2 = t.b2 := by rw [ht]
    have z5 : x = t.c1 := by rw [ht]
    have z6 : y = t.c2 := by rw [ht]
    have z7 : s.r = t.r := by rw [ht]
    have z8 : s.g = t.g := by rw [ht]
    have z9 : s.b = t.b := by rw [ht]
    have z0 : s.k = t.k := by rw [ht]
    have R12 : Hid (Blk (w11.setCell ⟨w8.heap.size, 2, Option.none⟩ (.complex .f32 x y)) w.heap.size #[.complex .f32 0 0, .complex .f32 0 0, .complex .f32 0 0, .float .f32 0, .float .f32 0, .float .f32 0, .float .f32 0] 37) := R11.out.other (by dsimp only; omega)
    have S12 : Blk (w11.setCell ⟨w8.heap.size, 2, Option.none⟩ (.complex .f32 x y)) w8.heap.size #[.complex .f32 t.a1 t.a2, .complex .f32 t.b1 t.b2, .complex .f32 t.c1 t.c2, .float .f32 t.r, .float .f32 t.g, .float .f32 t.b, .float .f32 t.k] 37 := by
      rw [← z1, ← z2, ← z3, ← z4, ← z5, ← z6, ← z7, ← z8, ← z9, ← z0]
      exact Blk.setAt rfl S11.out rfl
    have hc2 : (w11.cell? ⟨w8.heap.size, 2, Option.none⟩) = some (.complex .f32 s.c1 s.c2) := S11.out.cell 2
    have hf2 := S11.out.free 2
    have C12 : Hid (Cur B (w11.setCell ⟨w8.heap.size, 2, Option.none⟩ (.complex .f32 x y)) q) := C11.out.set (by dsimp only; omega)
    have G12 : Hid (w.grownBy (w11.setCell ⟨w8.heap.size, 2, Option.none⟩ (.complex .f32 x y)) (some q)) := grown_set G11.out (by dsimp only; omega) _
    clear ht z1 z2 z3 z4 z7 z8 z9 z0 S11 R11 C11 G11 OX OY D
    have S12H : Hid (Blk (w11.setCell ⟨w8.heap.size, 2, Option.none⟩ (.complex .f32 x y)) w8.heap.size #[.complex .f32 t.a1 t.a2, .complex .f32 t.b1 t.b2, .complex .f32 t.c1 t.c2, .float .f32 t.r, .float .f32 t.g, .float .f32 t.b, .float .f32 t.k] 37) := S12
    have ls12 := S12.lt
    have hne : w.heap.size < w8.heap.size := by omega
    clear S12
    subst z5 z6
    go_upto_region 5 with fail
    generalize w11.setCell ⟨w8.heap.size, 2, Option.none⟩ (.complex .f32 t.c1 t.c2) = Y at R12 S12H C12 G12 ls12 ⊢
    clear hc2 hf2
    have o0 := Blk.cellAt (i := 0) R12.out rfl
    have o1 := Blk.cellAt (i := 1) R12.out rfl
    have o2 := Blk.cellAt (i := 2) R12.out rfl
    have o3 := Blk.cellAt (i := 3) R12.out rfl
    have o4 := Blk.cellAt (i := 4) R12.out rfl
    have o5 := Blk.cellAt (i := 5) R12.out rfl
    have o6 := Blk.cellAt (i := 6) R12.out rfl
    simp only [List.getElem_toArray, List.getElem_cons_zero, List.getElem_cons_succ] at o0 o1 o2 o3 o4 o5 o6
    have p0 := R12.out.free 0
    have p1 := R12.out.free 1
    have p2 := R12.out.free 2
    have p3 := R12.out.free 3
    have p4 := R12.out.free 4
    have p5 := R12.out.free 5
    have p6 := R12.out.free 6
    (have d0 := Blk.cellAt (i := 0) S12H.out rfl; have d1 := Blk.cellAt (i := 1) S12H.out rfl; have d2 := Blk.cellAt (i := 2) S12H.out rfl; have d3 := Blk.cellAt (i := 3) S12H.out rfl; have d4 := Blk.cellAt (i := 4) S12H.out rfl; have d5 := Blk.cellAt (i := 5) S12H.out rfl; have d6 := Blk.cellAt (i := 6) S12H.out rfl; simp only [List.getElem_toArray, List.getElem_cons_zero, List.getElem_cons_succ] at d0 d1 d2 d3 d4 d5 d6)
    go_wp2_with fail
    (have E0 := R12.out.set (i := 0) (v := .complex .f32 t.a1 t.a2); have E1 := E0.set (i := 1) (v := .complex .f32 t.b1 t.b2); have E2 := E1.set (i := 2) (v := .complex .f32 t.c1 t.c2); have E3 := E2.set (i := 3) (v := .float .f32 t.r); have E4 := E3.set (i := 4) (v := .float .f32 t.g); have E5 := E4.set (i := 5) (v := .float .f32 t.b); have E6 := E5.set (i := 6) (v := .float .f32 t.k); have e0 := E0.cell 0; have e1 := E1.cell 1; have e2 := E2.cell 2; have e3 := E3.cell 3; have e4 := E4.cell 4; have e5 := E5.cell 5; have e6 := E6.cell 6; simp only [List.setIfInBounds_toArray, List.set_cons_zero, List.set_cons_succ, List.getElem?_toArray, List.getElem?_cons_zero, List.getElem?_cons_succ] at e0 e1 e2 e3 e4 e5 e6)
    exact bodyPost_ret (v := .agg #[.complex .f32 t.a1 t.a2, .complex .f32 t.b1 t.b2, .complex .f32 t.c1 t.c2, .float .f32 t.r, .float .f32 t.g, .float .f32 t.b, .float .f32 t.k]) (by simp [results, Try.results54, go_sem, e0, e1, e2, e3, e4, e5, e6]) rfl ⟨t, rfl, DT.out, by (repeat (first | (with_reducible exact C12.out) | (with_reducible refine Cur.set ?_ (by dsimp only; omega)))), by (repeat (first | (with_reducible exact G12.out) | (with_reducible refine grown_set ?_ (by dsimp only; omega) _)))⟩

end Go.Proofs.Ytkcfekhpppihhaa
