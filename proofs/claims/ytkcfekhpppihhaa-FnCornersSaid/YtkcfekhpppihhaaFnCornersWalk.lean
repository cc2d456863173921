/-
  The call of FnCorners returns true and writes nothing that was there.
-/
import Derived.Test.YtkcfekhpppihhaaGg
import Derived.Test.YtkcfekhpppihhaaGq
namespace Go.Proofs.Ytkcfekhpppihhaa.wFnCorners
open Go.ChangeShapes Go.WideShapes Go.ChangeAt Go.RowKit Go.Joins
set_option linter.unusedSimpArgs false
set_option linter.unusedVariables false
set_option maxRecDepth 100000
attribute [local go_sem] store_f
open Ieee
attribute [local go_sem] store_c

theorem in_a (s : Shd) : inSh s s.a1 s.a2 = true := by
  unfold inSh
  rw [val_side, val_side, val_side, side_at_a, side_at_b]
  unfold inZ
  simp only [decide_eq_true_eq]; omega
theorem in_b (s : Shd) : inSh s s.b1 s.b2 = true := by
  unfold inSh
  rw [val_side, val_side, val_side, side_at_a, side_at_b]
  unfold inZ
  simp only [decide_eq_true_eq]; omega
theorem in_c (s : Shd) : inSh s s.c1 s.c2 = true := by
  unfold inSh
  rw [val_side, val_side, val_side, side_at_a, side_at_b]
  unfold inZ
  simp only [decide_eq_true_eq]; omega
theorem not_lt {x y : Nat} (hx : Fin32 x) (hy : Fin32 y) (h : valOf F32 y ≤ valOf F32 x) : (FloatKind.f32.format.order x y == some .lt) = false := by
  show (F32.order x y == some .lt) = false
  rw [order_fin F32 hx hy, cmp_lt]; simp; omega
theorem not_gt {x y : Nat} (hx : Fin32 x) (hy : Fin32 y) (h : valOf F32 x ≤ valOf F32 y) : (FloatKind.f32.format.order x y == some .gt) = false := by
  show (F32.order x y == some .gt) = false
  rw [order_fin F32 hx hy, cmp_gt]; simp; omega

/-- All that the law asks of one shard. -/
structure Corner (s : Shd) (l1 l2 h1 h2 z : Nat) : Prop where
  box : BoxIs s l1 l2 h1 h2
  ia : InIs s s.a1 s.a2 true
  ib : InIs s s.b1 s.b2 true
  ic : InIs s s.c1 s.c2 true
  area : AreaIs s z
  az : (FloatKind.f32.format.order z 0 == some .lt) = false
  t1 : (FloatKind.f32.format.order s.a1 l1 == some .lt) = false
  t2 : (FloatKind.f32.format.order s.b2 l2 == some .lt) = false
  t3 : (FloatKind.f32.format.order s.c1 h1 == some .gt) = false
  t4 : (FloatKind.f32.format.order s.a2 h2 == some .gt) = false
  t5 : (FloatKind.f32.format.order s.b1 h1 == some .gt) = false
  t6 : (FloatKind.f32.format.order s.c2 l2 == some .lt) = false
theorem corner_of {s : Shd} (h : s.Ok) : ∃ l1 l2 h1 h2 z, Corner s l1 l2 h1 h2 z := by
  obtain ⟨l1, l2, h1, h2, B, X⟩ := boxIs h
  obtain ⟨z, A, fz, hz⟩ := areaIs h
  have ia := inIs h.yes h.a1.inb h.a2.inb
  have ib := inIs h.yes h.b1.inb h.b2.inb
  have ic := inIs h.yes h.c1.inb h.c2.inb
  rw [in_a] at ia
  rw [in_b] at ib
  rw [in_c] at ic
  exact ⟨l1, l2, h1, h2, z, B, ia, ib, ic, A, not_lt fz (fin_of_lt (by omega)) (by rw [val_zero]; exact hz), not_lt h.a1.fin X.fl1 X.la1, not_lt h.b2.fin X.fl2 X.lb2, not_gt h.c1.fin X.fh1 X.hc1, not_gt h.a2.fin X.fh2 X.ha2, not_gt h.b1.fin X.fh1 X.hb1, not_lt h.c2.fin X.fl2 X.lc2⟩

set_option maxHeartbeats 16000000 in
theorem walk (a : Option Addr) (len cap : Nat) (bs : List Int) (w : World) (hrow : ByteRow w w.heap.size a len bs) :
    Calls Try.prog 4 #[.slice a len cap] w fun e w' => e = .returned (.bool true) ∧ Below w.heap.size w w' := by
  by_cases hl : len ≤ 4096
  · go_enter Try.func4, Try.ntmps4
    go_wp2_with fail
    refine (big_no _ _ _ _ hl).mono ?_
    rintro e w0 ⟨rfl, rfl⟩
    go_wp2_with fail
    refine (drawGlass_s a len cap bs _ hrow hl).mono ?_
    rintro e w1 ⟨g, lc, l, x, y, r, b, k, ⟨rfl, hll, hcap, hgl, hlo, hR, hok, hx, hy, lr, lg, lb, hb1⟩⟩
    have PY : PtIs x y true := ptYes hx.inb hy.inb
    have HK : Hid (∀ j, j < l.length → ∃ l1 l2 h1 h2 z, Corner (l.getD j default) l1 l2 h1 h2 z) := fun j hj => corner_of ((hok _ (by simp [List.getD, hj])).ok)
    have HR : Hid (ShRow w1 g 0 l) := hR
    have B1 : Hid (Below w.heap.size w w1) := hb1
    have s1 := hb1.size
    clear hb1 hR hok hx hy lr lg lb hrow hcap
    go_wp2_with fail
    generalize hW : w1.alloc (.cells #[.float .f32 r, .float .f32 b, .float .f32 k] 28) = W
    have hRW : Hid (ShRow W g 0 l) := by rw [← hW]; exact HR.out.below ((Below.refl _ _).alloc (Nat.le_refl _) _)
    have HBW : Hid (Below w.heap.size w W) := by rw [← hW]; exact B1.out.alloc (by omega) _
    have sW : w.heap.size ≤ W.heap.size := HBW.out.size
    clear hW HR B1
    go_loopw [6] (fun i wr => ∃ j : Nat, j ≤ l.length ∧ i = .int .i64 j ∧ Below W.heap.size W wr) (fun i _ => l.length - (intOf i).toNat)
    case atStart => exact ⟨0, by omega, rfl, by have := Below.refl W.heap.size W; exact this⟩
    case round =>
      obtain ⟨j, hj, rfl, hbel⟩ := hrel
      have HB : Hid (Below W.heap.size W wr) := hbel
      have hbs := hbel.size
      have HBR : Hid (Below w.heap.size w wr) := HBW.out.trans (hbel.mono sW)
      by_cases hlt : j < l.length
      · obtain ⟨l1, l2, h1, h2, z, K⟩ := HK.out j hlt
        have hrow := hRW.out.below hbel j hlt
        simp only [Nat.zero_add] at hrow
        generalize l.getD j default = s at hrow K
        obtain ⟨d0, d1, d2, d3, d4, d5, d6⟩ := hrow
        clear hbel
        go_wp2_with fail
        have S0 : Hid (Blk (wr.alloc (.cells #[.complex .f32 s.a1 s.a2, .complex .f32 s.b1 s.b2, .complex .f32 s.c1 s.c2, .float .f32 s.r, .float .f32 s.g, .float .f32 s.b, .float .f32 s.k] 37)) wr.heap.size #[.complex .f32 s.a1 s.a2, .complex .f32 s.b1 s.b2, .complex .f32 s.c1 s.c2, .float .f32 s.r, .float .f32 s.g, .float .f32 s.b, .float .f32 s.k] 37) := Blk.new _ _ _
        have HB0 : Hid (Below W.heap.size W (wr.alloc (.cells #[.complex .f32 s.a1 s.a2, .complex .f32 s.b1 s.b2, .complex .f32 s.c1 s.c2, .float .f32 s.r, .float .f32 s.g, .float .f32 s.b, .float .f32 s.k] 37))) := HB.out.alloc (by omega) _
        have hs0 : (wr.alloc (.cells #[.complex .f32 s.a1 s.a2, .complex .f32 s.b1 s.b2, .complex .f32 s.c1 s.c2, .float .f32 s.r, .float .f32 s.g, .float .f32 s.b, .float .f32 s.k] 37)).heap.size = wr.heap.size + 1 := by simp
        clear d0 d1 d2 d3 d4 d5 d6 HB
        generalize wr.alloc (.cells #[.complex .f32 s.a1 s.a2, .complex .f32 s.b1 s.b2, .complex .f32 s.c1 s.c2, .float .f32 s.r, .float .f32 s.g, .float .f32 s.b, .float .f32 s.k] 37) = v0 at S0 HB0 hs0 ⊢
        generalize wr.heap.size = n0 at *
        refine (K.box.call _).mono ?_
        rintro e v1 ⟨rfl, hb⟩
        have S1 : Hid (Blk v1 n0 #[.complex .f32 s.a1 s.a2, .complex .f32 s.b1 s.b2, .complex .f32 s.c1 s.c2, .float .f32 s.r, .float .f32 s.g, .float .f32 s.b, .float .f32 s.k] 37) := S0.out.below hb
        have HB1 : Hid (Below W.heap.size W v1) := HB0.out.trans (hb.mono (by omega))
        have hl1 := S1.out.lt
        have hz1 := hb.size
        clear hb S0 HB0
        (have d0 := Blk.cellAt (i := 0) S1.out rfl; have d1 := Blk.cellAt (i := 1) S1.out rfl; have d2 := Blk.cellAt (i := 2) S1.out rfl; have d3 := Blk.cellAt (i := 3) S1.out rfl; have d4 := Blk.cellAt (i := 4) S1.out rfl; have d5 := Blk.cellAt (i := 5) S1.out rfl; have d6 := Blk.cellAt (i := 6) S1.out rfl; simp only [List.getElem_toArray, List.getElem_cons_zero, List.getElem_cons_succ] at d0 d1 d2 d3 d4 d5 d6)
        go_wp2_with fail
        refine (K.ia.call _).mono ?_
        rintro e v2 ⟨rfl, hb⟩
        have S2 : Hid (Blk v2 n0 #[.complex .f32 s.a1 s.a2, .complex .f32 s.b1 s.b2, .complex .f32 s.c1 s.c2, .float .f32 s.r, .float .f32 s.g, .float .f32 s.b, .float .f32 s.k] 37) := S1.out.below hb
        have HB2 : Hid (Below W.heap.size W v2) := HB1.out.trans (hb.mono (by omega))
        have hl2 := S2.out.lt
        have hz2 := hb.size
        clear hb S1 HB1 d0 d1 d2 d3 d4 d5 d6
        (have d0 := Blk.cellAt (i := 0) S2.out rfl; have d1 := Blk.cellAt (i := 1) S2.out rfl; have d2 := Blk.cellAt (i := 2) S2.out rfl; have d3 := Blk.cellAt (i := 3) S2.out rfl; have d4 := Blk.cellAt (i := 4) S2.out rfl; have d5 := Blk.cellAt (i := 5) S2.out rfl; have d6 := Blk.cellAt (i := 6) S2.out rfl; simp only [List.getElem_toArray, List.getElem_cons_zero, List.getElem_cons_succ] at d0 d1 d2 d3 d4 d5 d6)
        go_wp2_with fail
        refine (K.ib.call _).mono ?_
        rintro e v3 ⟨rfl, hb⟩
        have S3 : Hid (Blk v3 n0 #[.complex .f32 s.a1 s.a2, .complex .f32 s.b1 s.b2, .complex .f32 s.c1 s.c2, .float .f32 s.r, .float .f32 s.g, .float .f32 s.b, .float .f32 s.k] 37) := S2.out.below hb
        have HB3 : Hid (Below W.heap.size W v3) := HB2.out.trans (hb.mono (by omega))
        have hl3 := S3.out.lt
        have hz3 := hb.size
        clear hb S2 HB2 d0 d1 d2 d3 d4 d5 d6
        (have d0 := Blk.cellAt (i := 0) S3.out rfl; have d1 := Blk.cellAt (i := 1) S3.out rfl; have d2 := Blk.cellAt (i := 2) S3.out rfl; have d3 := Blk.cellAt (i := 3) S3.out rfl; have d4 := Blk.cellAt (i := 4) S3.out rfl; have d5 := Blk.cellAt (i := 5) S3.out rfl; have d6 := Blk.cellAt (i := 6) S3.out rfl; simp only [List.getElem_toArray, List.getElem_cons_zero, List.getElem_cons_succ] at d0 d1 d2 d3 d4 d5 d6)
        go_wp2_with fail
        refine (K.ic.call _).mono ?_
        rintro e v4 ⟨rfl, hb⟩
        have S4 : Hid (Blk v4 n0 #[.complex .f32 s.a1 s.a2, .complex .f32 s.b1 s.b2, .complex .f32 s.c1 s.c2, .float .f32 s.r, .float .f32 s.g, .float .f32 s.b, .float .f32 s.k] 37) := S3.out.below hb
        have HB4 : Hid (Below W.heap.size W v4) := HB3.out.trans (hb.mono (by omega))
        have hl4 := S4.out.lt
        have hz4 := hb.size
        clear hb S3 HB3 d0 d1 d2 d3 d4 d5 d6
        (have d0 := Blk.cellAt (i := 0) S4.out rfl; have d1 := Blk.cellAt (i := 1) S4.out rfl; have d2 := Blk.cellAt (i := 2) S4.out rfl; have d3 := Blk.cellAt (i := 3) S4.out rfl; have d4 := Blk.cellAt (i := 4) S4.out rfl; have d5 := Blk.cellAt (i := 5) S4.out rfl; have d6 := Blk.cellAt (i := 6) S4.out rfl; simp only [List.getElem_toArray, List.getElem_cons_zero, List.getElem_cons_succ] at d0 d1 d2 d3 d4 d5 d6)
        go_wp2_with fail
        refine (K.area.call _).mono ?_
        rintro e v5 ⟨rfl, hb⟩
        have S5 : Hid (Blk v5 n0 #[.complex .f32 s.a1 s.a2, .complex .f32 s.b1 s.b2, .complex .f32 s.c1 s.c2, .float .f32 s.r, .float .f32 s.g, .float .f32 s.b, .float .f32 s.k] 37) := S4.out.below hb
        have HB5 : Hid (Below W.heap.size W v5) := HB4.out.trans (hb.mono (by omega))
        have hl5 := S5.out.lt
        have hz5 := hb.size
        clear hb S4 HB4 d0 d1 d2 d3 d4 d5 d6
        (have d0 := Blk.cellAt (i := 0) S5.out rfl; have d1 := Blk.cellAt (i := 1) S5.out rfl; have d2 := Blk.cellAt (i := 2) S5.out rfl; have d3 := Blk.cellAt (i := 3) S5.out rfl; have d4 := Blk.cellAt (i := 4) S5.out rfl; have d5 := Blk.cellAt (i := 5) S5.out rfl; have d6 := Blk.cellAt (i := 6) S5.out rfl; simp only [List.getElem_toArray, List.getElem_cons_zero, List.getElem_cons_succ] at d0 d1 d2 d3 d4 d5 d6)
        have t0 := K.az
        have t1 := K.t1
        have t2 := K.t2
        have t3 := K.t3
        have t4 := K.t4
        have t5 := K.t5
        have t6 := K.t6
        go_wp2
        go_roundw
        case rel => exact ⟨j + 1, by omega, by go_num, HB5.out⟩
        case measure => simp [intOf]; omega
      · have hjm : j = l.length := by omega
        subst hjm
        clear hbel
        go_wp2_with (go_at_call 17; (with_reducible refine (PY.call _).mono ?_); rintro e w9 ⟨rfl, rfl⟩)
        go_ret
        exact ⟨rfl, HBR.out⟩
  · go_enter Try.func4, Try.ntmps4
    go_wp2_with fail
    refine (big_yes _ _ _ _ hl).mono ?_
    rintro e w0 ⟨rfl, rfl⟩
    go_wp2
    all_goals (go_returns; exact ⟨rfl, by (repeat' (first | (with_reducible exact Below.refl _ _) | (with_reducible assumption) | (with_reducible refine Below.alloc ?_ ?_ _) | (with_reducible refine Below.drew ?_) | (with_reducible refine Below.setCell ?_ ?_ _) | (with_reducible refine Below.trans ?_ (Below.mono (by assumption) ?_)) | (with_reducible exact Nat.le_refl _) | omega | (simp only [World.size_alloc, World.size_setCell, World.size_drew]; omega) | (simp; omega) | (simp; done)))⟩)
end Go.Proofs.Ytkcfekhpppihhaa.wFnCorners
