/-
  Texts Gn Hl Hb Va Ua, joined.
-/
import Derived.Test.YtfdgijmmgllmgaaGreatS11
import Derived.Deep.DeepCutAuto
import Derived.Test.YtfdgijmmgllmgaaGreatS01
import Derived.Test.YtfdgijmmgllmgaaGreatS06
import Derived.Test.YtfdgijmmgllmgaaGreatS05
import Derived.Deep.QuietTactic
import Derived.BigQuiet
import Derived.Test.YtfdgijmmgllmgaaGreatS09
import Derived.Test.YtfdgijmmgllmgaaGreatS07
import Derived.WalkLawsBesides
import Derived.Test.YtfdgijmmgllmgaaGreatS10
namespace Go.Proofs.YtfdgijmmgllmgaaGreat
open Go.ChangeShapes Go.WideShapes Go.ChangeAt Go.RowKit Go.Joins
set_option linter.unusedSimpArgs false
set_option linter.unusedVariables false
set_option maxRecDepth 100000
attribute [local go_sem] store_f
open Ieee
attribute [local go_sem] store_c
/-- A drawn shard: corners in reach, glass of parts. -/
structure Shd.Drawn (s : Shd) : Prop where
  a1 : okB s.a1 = true
  a2 : okB s.a2 = true
  b1 : okB s.b1 = true
  b2 : okB s.b2 = true
  c1 : okB s.c1 = true
  c2 : okB s.c2 = true
  r : s.r ≤ 1065353216
  g : s.g ≤ 1065353216
  b : s.b ≤ 1065353216
  k : s.k ≤ 1065353216
theorem Shd.Drawn.ok {s : Shd} (h : s.Drawn) : s.Ok :=
  ⟨ok_rch h.a1, ok_rch h.a2, ok_rch h.b1, ok_rch h.b2, ok_rch h.c1, ok_rch h.c2, .inl h.r, .inl h.g, .inl h.b, .inl h.k⟩
theorem grown_set {w w1 : World} {r : Option Nat} (h : w.grownBy w1 r) {p : Addr} (hp : w.heap.size ≤ p.block) (v : Value) : w.grownBy (w1.setCell p v) r := grown_setNew h hp v
structure ShardDrawn (B q : Nat) (w : World) (e : Ending) (w' : World) (s : Shd) : Prop where
  ret : e = .returned (.agg #[.complex .f32 s.a1 s.a2, .complex .f32 s.b1 s.b2, .complex .f32 s.c1 s.c2, .float .f32 s.r, .float .f32 s.g, .float .f32 s.b, .float .f32 s.k])
  ok : s.Drawn
  cur : Cur B w' q
  grown : w.grownBy w' (some q)
set_option maxHeartbeats 16000000 in
theorem l3Draw_s (B q : Nat) (w : World) (hcur : Cur B w q) :
    Calls Tryz.prog 61 #[.pointer (some ⟨q, 0, Option.none⟩)] w fun e w' => ∃ s, ShardDrawn B q w e w' s := by
  have HC : Hid (Cur B w q) := hcur
  have hq := hcur.lt
  clear hcur
  go_enter Tryz.func61, Tryz.ntmps61
  go_wp2_with fail
  have R0 : Hid (Blk (w.alloc (.cells #[.complex .f32 0 0, .complex .f32 0 0, .complex .f32 0 0, .float .f32 0, .float .f32 0, .float .f32 0, .float .f32 0] 36)) w.heap.size #[.complex .f32 0 0, .complex .f32 0 0, .complex .f32 0 0, .float .f32 0, .float .f32 0, .float .f32 0, .float .f32 0] 36) := Blk.new _ _ _
  have C0 : Hid (Cur B (w.alloc (.cells #[.complex .f32 0 0, .complex .f32 0 0, .complex .f32 0 0, .float .f32 0, .float .f32 0, .float .f32 0, .float .f32 0] 36)) q) := HC.out.alloc
  have G0 : Hid (w.grownBy (w.alloc (.cells #[.complex .f32 0 0, .complex .f32 0 0, .complex .f32 0 0, .float .f32 0, .float .f32 0, .float .f32 0, .float .f32 0] 36)) (some q)) := grown_alloc (grownBy_refl _ _) _
  clear HC
  generalize w.alloc (.cells #[.complex .f32 0 0, .complex .f32 0 0, .complex .f32 0 0, .float .f32 0, .float .f32 0, .float .f32 0, .float .f32 0] 36) = W0 at R0 C0 G0 ⊢
  refine (some_32 B q _ C0.out).mono ?_
  rintro e w1 ⟨m, ⟨rfl, hm, hc1, hg1⟩⟩
  have C1 : Hid (Cur B w1 q) := hc1
  have G1 : Hid (W0.grownBy w1 (some q)) := hg1
  obtain ⟨ed, hd1, hd2⟩ := qu_32 m hm
  have QA : Hid (Qu (quB 32 m)) := ⟨hd1, by unfold rungOf; rw [F32_sw]; exact hd2⟩
  have op1 := fun t w => run_float_arith (P := Tryz.prog) w .quo t .f32 _ 1082130432 _ ed
  generalize quB 32 m = a1 at QA op1
  clear hc1 hg1 ed hd1 hd2
  go_wp2_with (simp only [op1])
  refine (some_32 B q _ C1.out).mono ?_
  rintro e w2 ⟨m2, ⟨rfl, hm2, hc2, hg2⟩⟩
  have C2 : Hid (Cur B w2 q) := hc2
  have G2 : Hid (W0.grownBy w2 (some q)) := grownBy_trans G1.out hg2
  obtain ⟨ed, hd1, hd2⟩ := qu_32 m2 hm2
  have QB : Hid (Qu (quB 32 m2)) := ⟨hd1, by unfold rungOf; rw [F32_sw]; exact hd2⟩
  have op2 := fun t w => run_float_arith (P := Tryz.prog) w .quo t .f32 _ 1082130432 _ ed
  generalize quB 32 m2 = a2 at QB op2
  clear hc2 hg2 ed hd1 hd2 op1
  go_wp2_with (simp only [op2])
  refine (some_24 B q _ C2.out).mono ?_
  rintro e w3 ⟨m3, ⟨rfl, hm3, hc3, hg3⟩⟩
  have C3 : Hid (Cur B w3 q) := hc3
  have G3 : Hid (W0.grownBy w3 (some q)) := grownBy_trans G2.out hg3
  obtain ⟨ed, hd1, hd2⟩ := qu_24 m3 hm3
  have QC : Hid (Qu (quB 24 m3)) := ⟨hd1, by unfold rungOf; rw [F32_sw]; exact hd2⟩
  have op3 := fun t w => run_float_arith (P := Tryz.prog) w .quo t .f32 _ 1082130432 _ ed
  generalize quB 24 m3 = d1 at QC op3
  clear hc3 hg3 ed hd1 hd2 op2
  go_wp2_with (simp only [op3])
  refine (some_24 B q _ C3.out).mono ?_
  rintro e w4 ⟨m4, ⟨rfl, hm4, hc4, hg4⟩⟩
  have C4 : Hid (Cur B w4 q) := hc4
  have G4 : Hid (W0.grownBy w4 (some q)) := grownBy_trans G3.out hg4
  obtain ⟨ed, hd1, hd2⟩ := qu_24 m4 hm4
  have QD : Hid (Qu (quB 24 m4)) := ⟨hd1, by unfold rungOf; rw [F32_sw]; exact hd2⟩
  have op4 := fun t w => run_float_arith (P := Tryz.prog) w .quo t .f32 _ 1082130432 _ ed
  generalize quB 24 m4 = d2 at QD op4
  clear hc4 hg4 ed hd1 hd2 op3
  have P1 := plus_of (plus1 QA.out QC.out) (plus1 QB.out QD.out)
  have OB1 : Hid (okB (clT (valOf F32 a1 + valOf F32 d1)) = true) := clT_ok (qu_add QA.out QC.out)
  have OB2 : Hid (okB (clT (valOf F32 a2 + valOf F32 d2)) = true) := clT_ok (qu_add QB.out QD.out)
  generalize clT (valOf F32 a1 + valOf F32 d1) = b1 at P1 OB1
  generalize clT (valOf F32 a2 + valOf F32 d2) = b2 at P1 OB2
  go_wp2_with (simp only [op4])
  refine (P1.call _).mono ?_
  rintro e w4' ⟨rfl, rfl⟩
  clear op4 P1
  go_wp2_with fail
  refine (some_24 B q _ C4.out).mono ?_
  rintro e w5 ⟨m5, ⟨rfl, hm5, hc5, hg5⟩⟩
  have C5 : Hid (Cur B w5 q) := hc5
  have G5 : Hid (W0.grownBy w5 (some q)) := grownBy_trans G4.out hg5
  obtain ⟨ed, hd1, hd2⟩ := qu_24 m5 hm5
  have QE : Hid (Qu (quB 24 m5)) := ⟨hd1, by unfold rungOf; rw [F32_sw]; exact hd2⟩
  have op5 := fun t w => run_float_arith (P := Tryz.prog) w .quo t .f32 _ 1082130432 _ ed
  generalize quB 24 m5 = e1 at QE op5
  clear hc5 hg5 ed hd1 hd2
  go_wp2_with (simp only [op5])
  refine (some_24 B q _ C5.out).mono ?_
  rintro e w6 ⟨m6, ⟨rfl, hm6, hc6, hg6⟩⟩
  have C6 : Hid (Cur B w6 q) := hc6
  have G6 : Hid (W0.grownBy w6 (some q)) := grownBy_trans G5.out hg6
  obtain ⟨ed, hd1, hd2⟩ := qu_24 m6 hm6
  have QF : Hid (Qu (quB 24 m6)) := ⟨hd1, by unfold rungOf; rw [F32_sw]; exact hd2⟩
  have op6 := fun t w => run_float_arith (P := Tryz.prog) w .quo t .f32 _ 1082130432 _ ed
  generalize quB 24 m6 = e2 at QF op6
  clear hc6 hg6 ed hd1 hd2 op5
  have P2 := plus_of (plus1 QA.out QE.out) (plus1 QB.out QF.out)
  have OC1 : Hid (okB (clT (valOf F32 a1 + valOf F32 e1)) = true) := clT_ok (qu_add QA.out QE.out)
  have OC2 : Hid (okB (clT (valOf F32 a2 + valOf F32 e2)) = true) := clT_ok (qu_add QB.out QF.out)
  generalize clT (valOf F32 a1 + valOf F32 e1) = c1 at P2 OC1
  generalize clT (valOf F32 a2 + valOf F32 e2) = c2 at P2 OC2
  go_wp2_with (simp only [op6])
  refine (P2.call _).mono ?_
  rintro e w6' ⟨rfl, rfl⟩
  clear op6 P2
  go_wp2_with fail
  refine (l2Draw_s B q _ C6.out).mono ?_
  rintro e w7 ⟨r, g, b, ⟨rfl, lr, lg, lb, hc7, hg7⟩⟩
  have C7 : Hid (Cur B w7 q) := hc7
  have G7 : Hid (W0.grownBy w7 (some q)) := grownBy_trans G6.out hg7
  have LR : Hid (r ≤ 1065353216) := lr
  have LG : Hid (g ≤ 1065353216) := lg
  have LB : Hid (b ≤ 1065353216) := lb
  clear hc7 hg7 lr lg lb
  go_wp2_with fail
  refine (l2One_s B q _ C7.out).mono ?_
  rintro e w8 ⟨k, ⟨rfl, lk, hc8, hg8⟩⟩
  have C8 : Hid (Cur B w8 q) := hc8
  have G8 : Hid (W0.grownBy w8 (some q)) := grownBy_trans G7.out hg8
  have LK : Hid (k ≤ 1065353216) := lk
  have s8 := hg8.size
  clear hc8 hg8 lk
  obtain ⟨s, hs⟩ : ∃ s : Shd, s = ⟨a1, a2, b1, b2, c1, c2, r, g, b, k⟩ := ⟨_, rfl⟩
  have D : Hid s.Drawn := by rw [hs]; exact ⟨QA.out.ok, QB.out.ok, OB1.out, OB2.out, OC1.out, OC2.out, LR.out, LG.out, LB.out, LK.out⟩
  have z1 : a1 = s.a1 := by rw [hs]
  have z2 : a2 = s.a2 := by rw [hs]
  have z3 : b1 = s.b1 := by rw [hs]
  have z4 : b2 = s.b2 := by rw [hs]
  have z5 : c1 = s.c1 := by rw [hs]
  have z6 : c2 = s.c2 := by rw [hs]
  have z7 : r = s.r := by rw [hs]
  have z8 : g = s.g := by rw [hs]
  have z9 : b = s.b := by rw [hs]
  have z0 : k = s.k := by rw [hs]
  rw [z1, z2, z3, z4, z5, z6, z7, z8, z9, z0]
  clear z1 z2 z3 z4 z5 z6 z7 z8 z9 z0 hs QA QB QC QD QE QF OB1 OB2 OC1 OC2 LR LG LB LK
  have hw0 : w.heap.size < W0.heap.size := R0.out.lt
  go_wp2_with fail
  have C9 : Hid (Cur B (w8.alloc (.cells #[.complex .f32 s.a1 s.a2, .complex .f32 s.b1 s.b2, .complex .f32 s.c1 s.c2, .float .f32 s.r, .float .f32 s.g, .float .f32 s.b, .float .f32 s.k] 36)) q) := C8.out.alloc
  have R9 : Hid (Blk (w8.alloc (.cells #[.complex .f32 s.a1 s.a2, .complex .f32 s.b1 s.b2, .complex .f32 s.c1 s.c2, .float .f32 s.r, .float .f32 s.g, .float .f32 s.b, .float .f32 s.k] 36)) w.heap.size #[.complex .f32 0 0, .complex .f32 0 0, .complex .f32 0 0, .float .f32 0, .float .f32 0, .float .f32 0, .float .f32 0] 36) := (R0.out.grown G8.out (by omega)).alloc
  have S9 : Hid (Blk (w8.alloc (.cells #[.complex .f32 s.a1 s.a2, .complex .f32 s.b1 s.b2, .complex .f32 s.c1 s.c2, .float .f32 s.r, .float .f32 s.g, .float .f32 s.b, .float .f32 s.k] 36)) w8.heap.size #[.complex .f32 s.a1 s.a2, .complex .f32 s.b1 s.b2, .complex .f32 s.c1 s.c2, .float .f32 s.r, .float .f32 s.g, .float .f32 s.b, .float .f32 s.k] 36) := Blk.new _ _ _
  have G9 : Hid (w.grownBy (w8.alloc (.cells #[.complex .f32 s.a1 s.a2, .complex .f32 s.b1 s.b2, .complex .f32 s.c1 s.c2, .float .f32 s.r, .float .f32 s.g, .float .f32 s.b, .float .f32 s.k] 36)) (some q)) := grownBy_trans G0.out (grown_alloc G8.out _)
  have hsz8 := G8.out.size
  have hq9 := C8.out.lt
  clear C8 G8 R0 G0 s8
  generalize w8.alloc (.cells #[.complex .f32 s.a1 s.a2, .complex .f32 s.b1 s.b2, .complex .f32 s.c1 s.c2, .float .f32 s.r, .float .f32 s.g, .float .f32 s.b, .float .f32 s.k] 36) = W9 at C9 R9 S9 G9 ⊢
  refine (l1Once_s B q 5 _ C9.out (by omega) (by omega)).mono ?_
  rintro e w10 ⟨u, ⟨rfl, hc10, hg10⟩⟩
  have C10 : Hid (Cur B w10 q) := hc10
  have R10 : Hid (Blk w10 w.heap.size #[.complex .f32 0 0, .complex .f32 0 0, .complex .f32 0 0, .float .f32 0, .float .f32 0, .float .f32 0, .float .f32 0] 36) := R9.out.grown hg10 (by omega)
  have S10 : Hid (Blk w10 w8.heap.size #[.complex .f32 s.a1 s.a2, .complex .f32 s.b1 s.b2, .complex .f32 s.c1 s.c2, .float .f32 s.r, .float .f32 s.g, .float .f32 s.b, .float .f32 s.k] 36) := S9.out.grown hg10 (by omega)
  have G10 : Hid (w.grownBy w10 (some q)) := grownBy_trans G9.out hg10
  clear hc10 hg10 R9 S9 G9 C9
  have o0 := Blk.cellAt (i := 0) R10.out rfl
  have o1 := Blk.cellAt (i := 1) R10.out rfl
  have o2 := Blk.cellAt (i := 2) R10.out rfl
  have o3 := Blk.cellAt (i := 3) R10.out rfl
  have o4 := Blk.cellAt (i := 4) R10.out rfl
  have o5 := Blk.cellAt (i := 5) R10.out rfl
  have o6 := Blk.cellAt (i := 6) R10.out rfl
  simp only [List.getElem_toArray, List.getElem_cons_zero, List.getElem_cons_succ] at o0 o1 o2 o3 o4 o5 o6
  have p0 := R10.out.free 0
  have p1 := R10.out.free 1
  have p2 := R10.out.free 2
  have p3 := R10.out.free 3
  have p4 := R10.out.free 4
  have p5 := R10.out.free 5
  have p6 := R10.out.free 6
  have ls := S10.out.lt
  cases u
  · (have d0 := Blk.cellAt (i := 0) S10.out rfl; have d1 := Blk.cellAt (i := 1) S10.out rfl; have d2 := Blk.cellAt (i := 2) S10.out rfl; have d3 := Blk.cellAt (i := 3) S10.out rfl; have d4 := Blk.cellAt (i := 4) S10.out rfl; have d5 := Blk.cellAt (i := 5) S10.out rfl; have d6 := Blk.cellAt (i := 6) S10.out rfl; simp only [List.getElem_toArray, List.getElem_cons_zero, List.getElem_cons_succ] at d0 d1 d2 d3 d4 d5 d6)
    go_wp2_with fail
    (have E0 := R10.out.set (i := 0) (v := .complex .f32 s.a1 s.a2); have E1 := E0.set (i := 1) (v := .complex .f32 s.b1 s.b2); have E2 := E1.set (i := 2) (v := .complex .f32 s.c1 s.c2); have E3 := E2.set (i := 3) (v := .float .f32 s.r); have E4 := E3.set (i := 4) (v := .float .f32 s.g); have E5 := E4.set (i := 5) (v := .float .f32 s.b); have E6 := E5.set (i := 6) (v := .float .f32 s.k); have e0 := E0.cell 0; have e1 := E1.cell 1; have e2 := E2.cell 2; have e3 := E3.cell 3; have e4 := E4.cell 4; have e5 := E5.cell 5; have e6 := E6.cell 6; simp only [List.setIfInBounds_toArray, List.set_cons_zero, List.set_cons_succ, List.getElem?_toArray, List.getElem?_cons_zero, List.getElem?_cons_succ] at e0 e1 e2 e3 e4 e5 e6)
    exact bodyPost_ret (v := .agg #[.complex .f32 s.a1 s.a2, .complex .f32 s.b1 s.b2, .complex .f32 s.c1 s.c2, .float .f32 s.r, .float .f32 s.g, .float .f32 s.b, .float .f32 s.k]) (by simp [results, Tryz.results61, go_sem, e0, e1, e2, e3, e4, e5, e6]) rfl ⟨s, rfl, D.out, by (repeat (first | (with_reducible exact C10.out) | (with_reducible refine Cur.set ?_ (by dsimp only; omega)))), by (repeat (first | (with_reducible exact G10.out) | (with_reducible refine grown_set ?_ (by dsimp only; omega) _)))⟩
  · clear o0 o1 o2 o3 o4 o5 o6 p0 p1 p2 p3 p4 p5 p6
    go_wp2_with fail
    refine (l1Point_s B q _ C10.out).mono ?_
    rintro e w11 ⟨x, y, ⟨rfl, hx, hy, hc11, hg11⟩⟩
    have C11 : Hid (Cur B w11 q) := hc11
    have R11 : Hid (Blk w11 w.heap.size #[.complex .f32 0 0, .complex .f32 0 0, .complex .f32 0 0, .float .f32 0, .float .f32 0, .float .f32 0, .float .f32 0] 36) := R10.out.grown hg11 (by omega)
    have S11 : Hid (Blk w11 w8.heap.size #[.complex .f32 s.a1 s.a2, .complex .f32 s.b1 s.b2, .complex .f32 s.c1 s.c2, .float .f32 s.r, .float .f32 s.g, .float .f32 s.b, .float .f32 s.k] 36) := S10.out.grown hg11 (by omega)
    have G11 : Hid (w.grownBy w11 (some q)) := grownBy_trans G10.out hg11
    have OX : Hid (okB x = true) := hx
    have OY : Hid (okB y = true) := hy
    clear hc11 hg11 hx hy R10 S10 G10 C10
    obtain ⟨t, ht⟩ : ∃ t : Shd, t = ⟨s.a1, s.a2, s.b1, s.b2, x, y, s.r, s.g, s.b, s.k⟩ := ⟨_, rfl⟩
    have DT : Hid t.Drawn := by rw [ht]; exact ⟨D.out.a1, D.out.a2, D.out.b1, D.out.b2, OX.out, OY.out, D.out.r, D.out.g, D.out.b, D.out.k⟩
    have z1 : s.a1 = t.a1 := by rw [ht]
    have z2 : s.a2 = t.a2 := by rw [ht]
    have z3 : s.b1 = t.b1 := by rw [ht]
    have z4 : s.b2 = t.b2 := by rw [ht]
    have z5 : x = t.c1 := by rw [ht]
    have z6 : y = t.c2 := by rw [ht]
    have z7 : s.r = t.r := by rw [ht]
    have z8 : s.g = t.g := by rw [ht]
    have z9 : s.b = t.b := by rw [ht]
    have z0 : s.k = t.k := by rw [ht]
    have R12 : Hid (Blk (w11.setCell ⟨w8.heap.size, 2, Option.none⟩ (.complex .f32 x y)) w.heap.size #[.complex .f32 0 0, .complex .f32 0 0, .complex .f32 0 0, .float .f32 0, .float .f32 0, .float .f32 0, .float .f32 0] 36) := R11.out.other (by dsimp only; omega)
    have S12 : Blk (w11.setCell ⟨w8.heap.size, 2, Option.none⟩ (.complex .f32 x y)) w8.heap.size #[.complex .f32 t.a1 t.a2, .complex .f32 t.b1 t.b2, .complex .f32 t.c1 t.c2, .float .f32 t.r, .float .f32 t.g, .float .f32 t.b, .float .f32 t.k] 36 := by
      rw [← z1, ← z2, ← z3, ← z4, ← z5, ← z6, ← z7, ← z8, ← z9, ← z0]
      exact Blk.setAt rfl S11.out rfl
    have hc2 : (w11.cell? ⟨w8.heap.size, 2, Option.none⟩) = some (.complex .f32 s.c1 s.c2) := S11.out.cell 2
    have hf2 := S11.out.free 2
    have C12 : Hid (Cur B (w11.setCell ⟨w8.heap.size, 2, Option.none⟩ (.complex .f32 x y)) q) := C11.out.set (by dsimp only; omega)
    have G12 : Hid (w.grownBy (w11.setCell ⟨w8.heap.size, 2, Option.none⟩ (.complex .f32 x y)) (some q)) := grown_set G11.out (by dsimp only; omega) _
    clear ht z1 z2 z3 z4 z7 z8 z9 z0 S11 R11 C11 G11 OX OY D
    have S12H : Hid (Blk (w11.setCell ⟨w8.heap.size, 2, Option.none⟩ (.complex .f32 x y)) w8.heap.size #[.complex .f32 t.a1 t.a2, .complex .f32 t.b1 t.b2, .complex .f32 t.c1 t.c2, .float .f32 t.r, .float .f32 t.g, .float .f32 t.b, .float .f32 t.k] 36) := S12
    have ls12 := S12.lt
    have hne : w.heap.size < w8.heap.size := by omega
    clear S12
    subst z5 z6
    go_upto_region 5 with fail
    generalize w11.setCell ⟨w8.heap.size, 2, Option.none⟩ (.complex .f32 t.c1 t.c2) = Y at R12 S12H C12 G12 ls12 ⊢
    clear hc2 hf2
    have o0 := Blk.cellAt (i := 0) R12.out rfl
    have o1 := Blk.cellAt (i := 1) R12.out rfl
    have o2 := Blk.cellAt (i := 2) R12.out rfl
    have o3 := Blk.cellAt (i := 3) R12.out rfl
    have o4 := Blk.cellAt (i := 4) R12.out rfl
    have o5 := Blk.cellAt (i := 5) R12.out rfl
    have o6 := Blk.cellAt (i := 6) R12.out rfl
    simp only [List.getElem_toArray, List.getElem_cons_zero, List.getElem_cons_succ] at o0 o1 o2 o3 o4 o5 o6
    have p0 := R12.out.free 0
    have p1 := R12.out.free 1
    have p2 := R12.out.free 2
    have p3 := R12.out.free 3
    have p4 := R12.out.free 4
    have p5 := R12.out.free 5
    have p6 := R12.out.free 6
    (have d0 := Blk.cellAt (i := 0) S12H.out rfl; have d1 := Blk.cellAt (i := 1) S12H.out rfl; have d2 := Blk.cellAt (i := 2) S12H.out rfl; have d3 := Blk.cellAt (i := 3) S12H.out rfl; have d4 := Blk.cellAt (i := 4) S12H.out rfl; have d5 := Blk.cellAt (i := 5) S12H.out rfl; have d6 := Blk.cellAt (i := 6) S12H.out rfl; simp only [List.getElem_toArray, List.getElem_cons_zero, List.getElem_cons_succ] at d0 d1 d2 d3 d4 d5 d6)
    go_wp2_with fail
    (have E0 := R12.out.set (i := 0) (v := .complex .f32 t.a1 t.a2); have E1 := E0.set (i := 1) (v := .complex .f32 t.b1 t.b2); have E2 := E1.set (i := 2) (v := .complex .f32 t.c1 t.c2); have E3 := E2.set (i := 3) (v := .float .f32 t.r); have E4 := E3.set (i := 4) (v := .float .f32 t.g); have E5 := E4.set (i := 5) (v := .float .f32 t.b); have E6 := E5.set (i := 6) (v := .float .f32 t.k); have e0 := E0.cell 0; have e1 := E1.cell 1; have e2 := E2.cell 2; have e3 := E3.cell 3; have e4 := E4.cell 4; have e5 := E5.cell 5; have e6 := E6.cell 6; simp only [List.setIfInBounds_toArray, List.set_cons_zero, List.set_cons_succ, List.getElem?_toArray, List.getElem?_cons_zero, List.getElem?_cons_succ] at e0 e1 e2 e3 e4 e5 e6)
    exact bodyPost_ret (v := .agg #[.complex .f32 t.a1 t.a2, .complex .f32 t.b1 t.b2, .complex .f32 t.c1 t.c2, .float .f32 t.r, .float .f32 t.g, .float .f32 t.b, .float .f32 t.k]) (by simp [results, Tryz.results61, go_sem, e0, e1, e2, e3, e4, e5, e6]) rfl ⟨t, rfl, DT.out, by (repeat (first | (with_reducible exact C12.out) | (with_reducible refine Cur.set ?_ (by dsimp only; omega)))), by (repeat (first | (with_reducible exact G12.out) | (with_reducible refine grown_set ?_ (by dsimp only; omega) _)))⟩
end Go.Proofs.YtfdgijmmgllmgaaGreat
namespace Go.Proofs.YtfdgijmmgllmgaaGreat
open Go.ChangeShapes Go.WideShapes Go.ChangeAt Go.RowKit Go.Joins
set_option linter.unusedSimpArgs false
set_option linter.unusedVariables false
set_option maxRecDepth 100000
attribute [local go_sem] store_f
/-- Light: a colour of parts. -/
structure Lit where
  r : Nat
  g : Nat
  b : Nat
instance : Inhabited Lit := ⟨⟨0, 0, 0⟩⟩
structure Lit.Ok (c : Lit) : Prop where
  r : c.r ≤ 1065353216
  g : c.g ≤ 1065353216
  b : c.b ≤ 1065353216
def Lit.cells (c : Lit) : List Value := [.float .f32 c.r, .float .f32 c.g, .float .f32 c.b]
/-- The cells of a list of colours, from a place of a block on. -/
def LitRow (W : World) (b off : Nat) (l : List Lit) : Prop :=
  ∀ k, k < l.length → W.cell? ⟨b, (off + k * 3), Option.none⟩ = some (.float .f32 (l.getD k default).r) ∧ W.cell? ⟨b, (off + k * 3) + 1, Option.none⟩ = some (.float .f32 (l.getD k default).g) ∧ W.cell? ⟨b, (off + k * 3) + 2, Option.none⟩ = some (.float .f32 (l.getD k default).b)
/-- A list of colours as a slice shows it. -/
def LitsAt (W : World) (a : Option Addr) (l : List Lit) : Prop :=
  l = [] ∨ ∃ b off, a = some ⟨b, off, Option.none⟩ ∧ LitRow W b off l
theorem LitRow.below {W w1 : World} {b off : Nat} {l : List Lit} (h : LitRow W b off l) (hb : Below W.heap.size W w1) : LitRow w1 b off l := fun k hk => by
  obtain ⟨h0, h1, h2⟩ := h k hk
  exact ⟨cBelow hb h0, cBelow hb h1, cBelow hb h2⟩
theorem LitRow.grown {W w1 : World} {b off : Nat} {l : List Lit} {r : Option Nat} (h : LitRow W b off l) (hg : W.grownBy w1 r) (hne : r ≠ some b) : LitRow w1 b off l := fun k hk => by
  obtain ⟨h0, h1, h2⟩ := h k hk
  have hl := cell_lt h0
  have e : ∀ i, w1.cell? ⟨b, i, Option.none⟩ = W.cell? ⟨b, i, Option.none⟩ := fun i => World.cell?_of_block (hg.block b hl (fun e => hne e.symm))
  rw [e, e, e]
  exact ⟨h0, h1, h2⟩
theorem LitRow.set {W : World} {b off : Nat} {a : Addr} {v : Value} {l : List Lit} (h : LitRow W b off l) (hne : b ≠ a.block) : LitRow (W.setCell a v) b off l := fun k hk => by
  obtain ⟨h0, h1, h2⟩ := h k hk
  exact ⟨cSet hne h0, cSet hne h1, cSet hne h2⟩
theorem LitRow.alloc {W : World} {b off : Nat} {o : Obj} {l : List Lit} (h : LitRow W b off l) : LitRow (W.alloc o) b off l := fun k hk => by
  obtain ⟨h0, h1, h2⟩ := h k hk
  exact ⟨cAlloc h0, cAlloc h1, cAlloc h2⟩
theorem LitRow.drew {W : World} {b off : Nat} {l : List Lit} (h : LitRow W b off l) : LitRow W.drew b off l := h
theorem LitsAt.below {W w1 : World} {a : Option Addr} {l : List Lit} (h : LitsAt W a l) (hb : Below W.heap.size W w1) : LitsAt w1 a l := by
  rcases h with h | ⟨b, off, e, h⟩
  · exact .inl h
  · exact .inr ⟨b, off, e, h.below hb⟩
theorem LitsAt.alloc {W : World} {a : Option Addr} {o : Obj} {l : List Lit} (h : LitsAt W a l) : LitsAt (W.alloc o) a l := by
  rcases h with h | ⟨b, off, e, h⟩
  · exact .inl h
  · exact .inr ⟨b, off, e, h.alloc⟩
theorem LitsAt.drew {W : World} {a : Option Addr} {l : List Lit} (h : LitsAt W a l) : LitsAt W.drew a l := h
end Go.Proofs.YtfdgijmmgllmgaaGreat
namespace Go.Proofs.YtfdgijmmgllmgaaGreat
open Go.ChangeShapes Go.WideShapes Go.ChangeAt Go.RowKit Go.Joins
set_option linter.unusedSimpArgs false
set_option linter.unusedVariables false
set_option maxRecDepth 100000
attribute [local go_sem] store_f
open Ieee
attribute [local go_sem] store_c
/-- Is it a size? -/
def sizeB (n : Int) : Bool := decide (1 ≤ n ∧ n ≤ 8)
theorem isSize_i (n : Int) (w : World) : Calls Tryz.prog 30 #[.int .i64 n] w fun e w' => e = .returned (.bool (sizeB n)) ∧ w' = w := by
  by_cases h1 : 1 ≤ n
  · by_cases h2 : n ≤ 8
    · have e : sizeB n = true := by unfold sizeB; simp; omega
      rw [e]
      go_enter Tryz.func30, Tryz.ntmps30
      go_wp2
      go_ret
      exact ⟨rfl, rfl⟩
    · have e : sizeB n = false := by unfold sizeB; simp; omega
      rw [e]
      have hd : decide (n ≤ 8) = false := by simpa using h2
      go_enter Tryz.func30, Tryz.ntmps30
      go_wp2
      go_ret
      exact ⟨rfl, rfl⟩
  · have e : sizeB n = false := by unfold sizeB; simp; omega
    rw [e]
    have hd : decide (1 ≤ n) = false := by simpa using h1
    go_enter Tryz.func30, Tryz.ntmps30
    go_wp2
    go_ret
    exact ⟨rfl, rfl⟩
end Go.Proofs.YtfdgijmmgllmgaaGreat
namespace Go.Proofs.YtfdgijmmgllmgaaGreat
open Go.ChangeShapes Go.WideShapes Go.ChangeAt Go.RowKit Go.Joins
set_option linter.unusedSimpArgs false
set_option linter.unusedVariables false
set_option maxRecDepth 100000
attribute [local go_sem] store_f
open Ieee
attribute [local go_sem] store_c
/-- The steps that are drawn. -/
def stepB (i : Nat) : Nat := [1048576000, 1056964608, 1065353216, 1073741824, 1050253722].getD i 0
end Go.Proofs.YtfdgijmmgllmgaaGreat
namespace Go.Proofs.YtfdgijmmgllmgaaGreat
open Go.ChangeShapes Go.WideShapes Go.ChangeAt Go.RowKit Go.Joins
set_option linter.unusedSimpArgs false
set_option linter.unusedVariables false
set_option maxRecDepth 100000
attribute [local go_sem] store_f
open Ieee Go.Lib
/-- An event by its words. -/
structure Evw where
  kind : Int
  n : Int
  z1 : Nat
  z2 : Nat
  s : Shd
  l : Lit
def shd0 : Shd := ⟨0, 0, 0, 0, 0, 0, 0, 0, 0, 0⟩
def lit0 : Lit := ⟨0, 0, 0⟩
instance : Inhabited Evw := ⟨⟨0, 0, 0, 0, shd0, lit0⟩⟩
/-- A show by its words, the loss being 0. -/
structure Sho where
  size : Int
  step : Nat
  lit : Lit
  shs : List Shd
  kind : Int
  g1 : Nat
  g2 : Nat
  bds : List Bw
  ticks : Int
  log : List Evw
instance : Inhabited Sho := ⟨⟨0, 0, lit0, [], 0, 0, 0, [], 0, []⟩⟩
/-- An event as it is drawn. -/
inductive Ev where
  | add (s : Shd) (z : PtW)
  | take (n : Nat)
  | light (c : Lit)
  | mirrors (k : Nat)
  | gravity (z : PtW)
  | push (n : Nat) (z : PtW)
  | wait (n : Nat)
instance : Inhabited Ev := ⟨.take 0⟩
def Ev.w : Ev → Evw
  | .add s z => ⟨1, 0, z.1.1, z.1.2, s, lit0⟩
  | .take n => ⟨2, n, 0, 0, shd0, lit0⟩
  | .light c => ⟨3, 0, 0, 0, shd0, c⟩
  | .mirrors k => ⟨4, k, 0, 0, shd0, lit0⟩
  | .gravity z => ⟨5, 0, z.1.1, z.1.2, shd0, lit0⟩
  | .push n z => ⟨6, n, z.1.1, z.1.2, shd0, lit0⟩
  | .wait n => ⟨7, n, 0, 0, shd0, lit0⟩
def Ev.Ok : Ev → Prop
  | .add s z => s.Drawn ∧ Lim 40 z
  | .take n => n ≤ 8
  | .light c => c.Ok
  | .mirrors k => k ≤ 3
  | .gravity z => Lim 1 z
  | .push n z => n ≤ 8 ∧ Lim 5 z
  | .wait n => 1 ≤ n ∧ n ≤ 6
/-- Does it count for how far beads come? -/
def Ev.big : Ev → Nat
  | .add _ _ => 1
  | .push _ _ => 1
  | .wait _ => 1
  | _ => 0
theorem Ev.big_le (e : Ev) : e.big ≤ 1 := by cases e <;> simp [Ev.big]
def cost : List Ev → Nat
  | [] => 0
  | e :: l => e.big + cost l
theorem cost_append (l m : List Ev) : cost (l ++ m) = cost l + cost m := by
  induction l with
  | nil => simp [cost]
  | cons e l ih => simp only [List.cons_append, cost, ih]; omega
theorem cost_le (l : List Ev) : cost l ≤ l.length := by
  induction l with
  | nil => simp [cost]
  | cons e l ih => have := e.big_le; simp only [cost, List.length_cons]; omega
/-- A show as it is drawn. -/
structure Shw where
  size : Nat
  step : Nat
  lit : Lit
  shs : List Shd
  kind : Nat
  g : PtW
  bds : List (PtW × PtW)
  ticks : Nat
  log : List Ev
def Shw.w (S : Shw) : Sho := ⟨S.size, S.step, S.lit, S.shs, S.kind, S.g.1.1, S.g.1.2, S.bds.map wd, S.ticks, S.log.map Ev.w⟩
def start (size step : Nat) : Shw := ⟨size, step, lit0, [], 0, zeroP, [], 0, []⟩
instance : Inhabited Shw := ⟨start 0 0⟩
/-- A bead that is folded by mirrors of a kind. -/
def refold (k : Nat) (b : PtW × PtW) : PtW × PtW := (actP (foldS k b.1) b.1, actP (foldS k b.1) b.2)
/-- What an event makes of a show; none: it is refused. -/
def doB (S : Shw) : Ev → Option Shw
  | .add s z => if S.bds.length < 8 then some { S with shs := S.shs ++ [s], bds := S.bds ++ [(actP (foldS S.kind z) z, zeroP)] } else none
  | .take n => if n < S.bds.length then some { S with shs := S.shs.take n ++ S.shs.drop (n + 1), bds := S.bds.take n ++ S.bds.drop (n + 1) } else none
  | .light c => some { S with lit := c }
  | .mirrors k => some { S with kind := k, bds := S.bds.map (refold k) }
  | .gravity z => some { S with g := z }
  | .push n z => if n < S.bds.length then some { S with bds := S.bds.set n ((S.bds.getD n default).1, sumP (S.bds.getD n default).2 z) } else none
  | .wait n => some { S with bds := runL S.kind S.g (keptW 0) n S.bds, ticks := S.ticks + n }
def doE (S : Shw) (e : Ev) : Option Shw := (doB S e).map fun T => { T with log := S.log ++ [e] }
def runE : Shw → List Ev → Option Shw
  | S, [] => some S
  | S, e :: l => (doE S e).bind fun T => runE T l
def vB (n : Nat) : Nat := 6 * (n - 1)
def aB (n : Nat) : Nat := 40 + 18 * ((n - 1) * (n - 1)) + 3 * (n - 1)
theorem vB_mono {n m : Nat} (h : n ≤ m) : vB n ≤ vB m := by unfold vB; omega
theorem aB_mono {n m : Nat} (h : n ≤ m) : aB n ≤ aB m := by
  unfold aB
  have h1 : n - 1 ≤ m - 1 := by omega
  have h2 := Nat.mul_le_mul h1 h1
  omega
theorem aB_top {n : Nat} (h : n ≤ 10) : aB n ≤ 1525 := by
  have h1 := aB_mono h
  have h2 : aB 10 = 1525 := rfl
  omega
def pB (V : Nat) : Nat → Nat
  | 0 => 0
  | j + 1 => pB V j + (V + (j + 1))
theorem pB_mono (V : Nat) {i j : Nat} (h : i ≤ j) : pB V i ≤ pB V j := by
  induction j with
  | zero => obtain rfl : i = 0 := by omega
            exact Nat.le_refl _
  | succ j ih =>
    by_cases e : i = j + 1
    · subst e; exact Nat.le_refl _
    · have := ih (by omega)
      simp only [pB]; omega
theorem pB_6 (V : Nat) : pB V 6 = 6 * V + 21 := by simp only [pB]; omega
theorem aB_step {n : Nat} (h : 1 ≤ n) : aB n + pB (vB n) 6 = aB (n + 1) := by
  obtain ⟨m, rfl⟩ : ∃ m, n = m + 1 := ⟨n - 1, by omega⟩
  rw [pB_6]
  unfold aB vB
  simp only [Nat.add_sub_cancel]
  have : (m + 1) * (m + 1) = m * m + 2 * m + 1 := by
    rw [Nat.add_mul, Nat.mul_add]; omega
  rw [this]; omega
theorem run_far {kind : Int} {g : PtW} {k V A : Nat} {l : List (PtW × PtW)} (h0 : 0 ≤ kind) (h3 : kind ≤ 3) (hk : Keep k) (hg : Lim 1 g) (hl : ∀ b ∈ l, Lim V b.2 ∧ Lim A b.1 ∧ wed kind b.1 = true) :
    ∀ j, A + pB V j < 1600 → ∀ b ∈ runL kind g k j l, Lim (V + j) b.2 ∧ Lim (A + pB V j) b.1 ∧ wed kind b.1 = true
  | 0, _, b, hb => hl b hb
  | j + 1, hj, b, hb => by
    have hj' : A + (pB V j + (V + (j + 1))) < 1600 := hj
    obtain ⟨c, hc, rfl⟩ := List.mem_map.1 hb
    obtain ⟨h1, h2, _⟩ := run_far h0 h3 hk hg hl j (by omega) c hc
    obtain ⟨_, h4, h5, h6⟩ := step_lim h0 h3 hk hg h1 h2 (by omega)
    refine ⟨h4.mono (by omega), h5.mono ?_, h6⟩
    show A + pB V j + (V + j + 1) ≤ A + (pB V j + (V + (j + 1)))
    omega
theorem run_far_can {kind : Int} {g : PtW} {k V A : Nat} {l : List (PtW × PtW)} (h0 : 0 ≤ kind) (h3 : kind ≤ 3) (hk : Keep k) (hg : Lim 1 g) (hl : ∀ b ∈ l, Lim V b.2 ∧ Lim A b.1 ∧ wed kind b.1 = true) {j : Nat} (hj : A + pB V (j + 1) < 1600) {b : PtW × PtW} (hb : b ∈ runL kind g k j l) : Can g b := by
  have hj' : A + (pB V j + (V + (j + 1))) < 1600 := hj
  obtain ⟨h1, h2, _⟩ := run_far h0 h3 hk hg hl j (by omega) b hb
  exact (step_lim h0 h3 hk hg h1 h2 (by omega)).1
/-- What is true of the shows that are drawn. -/
structure Fine (S : Shw) : Prop where
  s1 : 1 ≤ S.size
  s5 : S.size ≤ 5
  st : ∃ i, i < 5 ∧ S.step = stepB i
  lit : S.lit.Ok
  len : S.shs.length = S.bds.length
  few : S.bds.length ≤ 8
  kin : S.kind ≤ 3
  gr : Lim 1 S.g
  shs : ∀ s ∈ S.shs, s.Drawn
  bds : ∀ b ∈ S.bds, 1 ≤ cost S.log ∧ Lim (vB (cost S.log)) b.2 ∧ Lim (aB (cost S.log)) b.1 ∧ wed S.kind b.1 = true
  ticks : S.ticks ≤ 6 * S.log.length
  log : ∀ e ∈ S.log, e.Ok
theorem keep0 : Keep (keptW 0) := kept_keep (by omega)
theorem fine_do {S T : Shw} {e : Ev} (F : Fine S) (he : e.Ok) (h : doE S e = some T) (hc : cost (S.log ++ [e]) ≤ 10) : Fine T := by
  have e1 : cost (S.log ++ [e]) = cost S.log + e.big := by rw [cost_append]; simp [cost]
  have hb : ∀ b ∈ S.bds, 1 ≤ cost (S.log ++ [e]) ∧ Lim (vB (cost (S.log ++ [e]))) b.2 ∧ Lim (aB (cost (S.log ++ [e]))) b.1 ∧ wed S.kind b.1 = true := fun b hb => by
    obtain ⟨h1, h2, h3, h4⟩ := F.bds b hb
    exact ⟨by omega, h2.mono (vB_mono (by omega)), h3.mono (aB_mono (by omega)), h4⟩
  have hlog : ∀ x ∈ S.log ++ [e], x.Ok := fun x hx => by
    rcases List.mem_append.1 hx with h | h
    · exact F.log x h
    · rw [List.mem_singleton] at h; rw [h]; exact he
  have hlen : (S.log ++ [e]).length = S.log.length + 1 := by simp
  have ht : S.ticks ≤ 6 * (S.log ++ [e]).length := by have := F.ticks; omega
  have k0 : (0 : Int) ≤ (S.kind : Int) := by omega
  have k3 : (S.kind : Int) ≤ 3 := by have := F.kin; omega
  unfold doE at h
  cases e with
  | add s z =>
    simp only [doB] at h
    split at h
    · rename_i hlt
      simp only [Option.map_some, Option.some.injEq] at h
      subst h
      have FI := foldIs k0 k3 z
      refine ⟨F.s1, F.s5, F.st, F.lit, by simp [F.len], by simp; omega, F.kin, F.gr, fun x hx => ?_, fun b hb' => ?_, ht, hlog⟩
      · rcases List.mem_append.1 hx with h | h
        · exact F.shs x h
        · rw [List.mem_singleton] at h; rw [h]; exact he.1
      · rcases List.mem_append.1 hb' with h | h
        · exact hb b h
        · rw [List.mem_singleton] at h
          subst h
          have e2 : (Ev.add s z).big = 1 := rfl
          refine ⟨show 1 ≤ cost (S.log ++ [Ev.add s z]) by omega, lim_zero _, (lim_act _ he.2).mono ?_, FI.wed⟩
          unfold aB; omega
    · simp at h
  | take n =>
    simp only [doB] at h
    split at h
    · rename_i hlt
      simp only [Option.map_some, Option.some.injEq] at h
      subst h
      refine ⟨F.s1, F.s5, F.st, F.lit, by simp [F.len], by simp; have := F.few; omega, F.kin, F.gr, fun x hx => ?_, fun b hb' => ?_, ht, hlog⟩
      · rcases List.mem_append.1 hx with h | h
        · exact F.shs x (List.mem_of_mem_take h)
        · exact F.shs x (List.mem_of_mem_drop h)
      · rcases List.mem_append.1 hb' with h | h
        · exact hb b (List.mem_of_mem_take h)
        · exact hb b (List.mem_of_mem_drop h)
    · simp at h
  | light c =>
    simp only [doB, Option.map_some, Option.some.injEq] at h
    subst h
    exact ⟨F.s1, F.s5, F.st, he, F.len, F.few, F.kin, F.gr, F.shs, hb, ht, hlog⟩
  | mirrors k =>
    simp only [doB, Option.map_some, Option.some.injEq] at h
    subst h
    refine ⟨F.s1, F.s5, F.st, F.lit, by simp [F.len], by simpa using F.few, he, F.gr, F.shs, fun b hb' => ?_, ht, hlog⟩
    obtain ⟨c, hc', rfl⟩ := List.mem_map.1 hb'
    obtain ⟨h1, h2, h3, _⟩ := hb c hc'
    have he' : k ≤ 3 := he
    have FI := foldIs (kind := k) (by omega) (by omega) c.1
    exact ⟨h1, lim_act _ h2, lim_act _ h3, FI.wed⟩
  | gravity z =>
    simp only [doB, Option.map_some, Option.some.injEq] at h
    subst h
    exact ⟨F.s1, F.s5, F.st, F.lit, F.len, F.few, F.kin, he, F.shs, hb, ht, hlog⟩
  | push n z =>
    simp only [doB] at h
    split at h
    · rename_i hlt
      simp only [Option.map_some, Option.some.injEq] at h
      subst h
      refine ⟨F.s1, F.s5, F.st, F.lit, by simp [F.len], by simpa using F.few, F.kin, F.gr, F.shs, fun b hb' => ?_, ht, hlog⟩
      rcases List.mem_or_eq_of_mem_set hb' with h | h
      · exact hb b h
      · subst h
        obtain ⟨h1, h2, h3, h4⟩ := F.bds _ (getD_mem hlt)
        have e2 : (Ev.push n z).big = 1 := rfl
        have hv : vB (cost S.log) + 5 ≤ vB (cost (S.log ++ [Ev.push n z])) := by rw [e1, e2]; unfold vB; omega
        have hv2 : vB (cost S.log) ≤ 54 := by unfold vB; omega
        have hm : cost S.log ≤ cost (S.log ++ [Ev.push n z]) := by omega
        exact ⟨show 1 ≤ cost (S.log ++ [Ev.push n z]) by omega, ((lim_sum h2 he.2 (by omega)).2).mono hv, h3.mono (aB_mono hm), h4⟩
    · simp at h
  | wait n =>
    simp only [doB, Option.map_some, Option.some.injEq] at h
    subst h
    have he' : 1 ≤ n ∧ n ≤ 6 := he
    have e2 : (Ev.wait n).big = 1 := rfl
    refine ⟨F.s1, F.s5, F.st, F.lit, by simp [F.len, runL_len], by simpa [runL_len] using F.few, F.kin, F.gr, F.shs, fun b hb' => ?_, ?_, hlog⟩
    · have hne : S.bds ≠ [] := fun e0 => by
        have h1 := runL_len S.kind S.g (keptW 0) S.bds n
        have h2 : (runL S.kind S.g (keptW 0) n S.bds).length = 0 := by rw [h1, e0]; rfl
        have h3 : runL S.kind S.g (keptW 0) n S.bds = [] := List.eq_nil_of_length_eq_zero h2
        have hb2 : b ∈ runL S.kind S.g (keptW 0) n S.bds := hb'
        rw [h3] at hb2
        simp at hb2
      obtain ⟨c0, hc0⟩ := List.exists_mem_of_ne_nil _ hne
      have hn1 := (F.bds c0 hc0).1
      have hst := aB_step hn1
      have hpm := pB_mono (vB (cost S.log)) he'.2
      have htop := aB_top (n := cost S.log + 1) (by omega)
      obtain ⟨h1, h2, h3⟩ := run_far k0 k3 keep0 F.gr (fun b hb => (F.bds b hb).2) n (by omega) b hb'
      have ec : cost (S.log ++ [Ev.wait n]) = cost S.log + 1 := by rw [e1, e2]
      have hv : vB (cost S.log) + n ≤ vB (cost (S.log ++ [Ev.wait n])) := by rw [ec]; unfold vB; omega
      have ha : aB (cost S.log) + pB (vB (cost S.log)) n ≤ aB (cost (S.log ++ [Ev.wait n])) := by rw [ec]; omega
      exact ⟨show 1 ≤ cost (S.log ++ [Ev.wait n]) by omega, h1.mono hv, h2.mono ha, h3⟩
    · have h1 := F.ticks
      have h2 : S.ticks + n ≤ 6 * (S.log ++ [Ev.wait n]).length := by omega
      exact h2
theorem do_log {S T : Shw} {e : Ev} (h : doE S e = some T) : T.log = S.log ++ [e] ∧ T.size = S.size ∧ T.step = S.step := by
  unfold doE at h
  cases e <;> simp only [doB] at h
  all_goals (first | (split at h; (· simp only [Option.map_some, Option.some.injEq] at h; subst h; exact ⟨rfl, rfl, rfl⟩); (· simp at h)) | (simp only [Option.map_some, Option.some.injEq] at h; subst h; exact ⟨rfl, rfl, rfl⟩))
theorem runE_append (l : List Ev) : ∀ (S : Shw) (m : List Ev), runE S (l ++ m) = (runE S l).bind fun T => runE T m := by
  induction l with
  | nil => intro S m; rfl
  | cons e l ih =>
    intro S m
    simp only [List.cons_append, runE]
    cases doE S e with
    | none => rfl
    | some T => exact ih T m
theorem runE_log {l : List Ev} : ∀ {S T : Shw}, runE S l = some T → T.log = S.log ++ l ∧ T.size = S.size ∧ T.step = S.step := by
  induction l with
  | nil => intro S T h; simp only [runE, Option.some.injEq] at h; subst h; simp
  | cons e l ih =>
    intro S T h
    simp only [runE] at h
    cases hd : doE S e with
    | none => rw [hd] at h; simp at h
    | some U =>
      rw [hd] at h
      obtain ⟨h1, h2, h3⟩ := ih h
      obtain ⟨g1, g2, g3⟩ := do_log hd
      exact ⟨by rw [h1, g1]; simp, h2.trans g2, h3.trans g3⟩
theorem fine_start {size step : Nat} (h1 : 1 ≤ size) (h5 : size ≤ 5) (hs : ∃ i, i < 5 ∧ step = stepB i) : Fine (start size step) :=
  ⟨h1, h5, hs, ⟨Nat.zero_le _, Nat.zero_le _, Nat.zero_le _⟩, rfl, Nat.zero_le _, Nat.zero_le _, lim_zero 1, fun s h => absurd h (by simp [start]), fun s h => absurd h (by simp [start]), Nat.zero_le _, fun s h => absurd h (by simp [start])⟩
/-- A show that is drawn: it comes of its log. -/
structure Told (S : Shw) : Prop where
  fine : Fine S
  came : runE (start S.size S.step) S.log = some S
theorem told_do {S T : Shw} {e : Ev} (H : Told S) (he : e.Ok) (h : doE S e = some T) (hc : cost (S.log ++ [e]) ≤ 10) : Told T := by
  obtain ⟨g1, g2, g3⟩ := do_log h
  refine ⟨fine_do H.fine he h hc, ?_⟩
  rw [g1, g2, g3, runE_append, H.came]
  simp only [Option.bind_some, runE, h]
/-- The show after the first j events. -/
def stAt (S : Shw) (l : List Ev) (j : Nat) : Shw := (runE S (l.take j)).getD default
theorem stAt_run {S T : Shw} {l : List Ev} (h : runE S l = some T) (j : Nat) : runE S (l.take j) = some (stAt S l j) := by
  rw [← List.take_append_drop j l, runE_append] at h
  unfold stAt
  cases hr : runE S (l.take j) with
  | none => rw [hr] at h; simp at h
  | some U => rfl
theorem stAt_all {S T : Shw} {l : List Ev} (h : runE S l = some T) : stAt S l l.length = T := by
  unfold stAt; rw [List.take_length, h]; rfl
end Go.Proofs.YtfdgijmmgllmgaaGreat
