/-
  The call of FnMovedShard returns true and writes nothing that was there.
-/
import Derived.Test.YtkcfekhpppihhaaGi
import Derived.Test.YtkcfekhpppihhaaGq
import Derived.Deep.RegionHeld3
import Derived.Deep.QuietTactic
import Derived.BigQuiet
namespace Go.Proofs.Ytkcfekhpppihhaa.wFnMovedShard
open Go.ChangeShapes Go.WideShapes Go.ChangeAt Go.RowKit Go.Joins
set_option linter.unusedSimpArgs false
set_option linter.unusedVariables false
set_option maxRecDepth 100000
attribute [local go_sem] store_f
open Ieee
attribute [local go_sem] store_c

set_option maxHeartbeats 16000000 in
theorem walk (a : Option Addr) (len cap : Nat) (bs : List Int) (w : World) (hrow : ByteRow w w.heap.size a len bs) :
    Calls Try.prog 6 #[.slice a len cap] w fun e w' => e = .returned (.bool true) ∧ Below w.heap.size w w' := by
  by_cases hl : len ≤ 4096
  · go_enter Try.func6, Try.ntmps6
    go_wp2_with fail
    refine (big_no _ _ _ _ hl).mono ?_
    rintro e w0 ⟨rfl, rfl⟩
    go_wp2_with fail
    refine (drawGlass_s a len cap bs _ hrow hl).mono ?_
    rintro e w1 ⟨g, lc, l, x, y, r, b, k, ⟨rfl, hll, hcap, hgl, hlo, hR, hok, hx, hy, lr, lg, lb, hb1⟩⟩
    have HK : Hid (∀ j, j < l.length → ∃ u p v, Moved (l.getD j default) x y u p v) := fun j hj => moved_of (hok _ (by simp [List.getD, hj])) hx hy
    have HR : Hid (ShRow w1 g 0 l) := hR
    have B1 : Hid (Below w.heap.size w w1) := hb1
    have s1 := hb1.size
    clear hb1 hR hok hx hy lr lg lb hrow hcap
    go_wp2_with fail
    generalize hW : w1.alloc (.cells #[.float .f32 r, .float .f32 b, .float .f32 k] 28) = W
    have hRW : Hid (ShRow W g 0 l) := by rw [← hW]; exact HR.out.below ((Below.refl _ _).alloc (Nat.le_refl _) _)
    have HBW : Hid (Below w.heap.size w W) := by rw [← hW]; exact B1.out.alloc (by omega) _
    have sW : w.heap.size ≤ W.heap.size := HBW.out.size
    have sz : W.heap.size = w1.heap.size + 1 := by rw [← hW]; simp
    have hgW : g < W.heap.size := by omega
    clear hW HR B1
    go_loopw [6] (fun i wr => ∃ j : Nat, j ≤ l.length ∧ i = .int .i64 j ∧ Below W.heap.size W wr) (fun i _ => l.length - (intOf i).toNat)
    case atStart => exact ⟨0, by omega, rfl, by have := Below.refl W.heap.size W; exact this⟩
    case round =>
      obtain ⟨j, hj, rfl, hbel⟩ := hrel
      have HB : Hid (Below W.heap.size W wr) := hbel
      have hbs := hbel.size
      have HBR : Hid (Below w.heap.size w wr) := HBW.out.trans (hbel.mono sW)
      by_cases hlt : j < l.length
      · obtain ⟨u, p, v, K⟩ := HK.out j hlt
        have hrow := hRW.out.below hbel j hlt
        simp only [Nat.zero_add] at hrow
        generalize l.getD j default = s at hrow K
        have HRO : Hid (wr.cell? ⟨g, j * 7, Option.none⟩ = some (.complex .f32 s.a1 s.a2) ∧ wr.cell? ⟨g, j * 7 + 1, Option.none⟩ = some (.complex .f32 s.b1 s.b2) ∧ wr.cell? ⟨g, j * 7 + 2, Option.none⟩ = some (.complex .f32 s.c1 s.c2) ∧ wr.cell? ⟨g, j * 7 + 3, Option.none⟩ = some (.float .f32 s.r) ∧ wr.cell? ⟨g, j * 7 + 4, Option.none⟩ = some (.float .f32 s.g) ∧ wr.cell? ⟨g, j * 7 + 5, Option.none⟩ = some (.float .f32 s.b) ∧ wr.cell? ⟨g, j * 7 + 6, Option.none⟩ = some (.float .f32 s.k)) := hrow
        obtain ⟨d0, d1, d2, d3, d4, d5, d6⟩ := hrow
        have hj0 : (0 : Int) ≤ (j : Int) := by omega
        have hj1 : (j : Int) < (l.length : Int) := by omega
        clear hbel
        go_wp2_with fail
        refine (K.m1.call _).mono ?_
        rintro e v1 ⟨rfl, hb⟩
        have HB1 : Hid (Below W.heap.size W v1) := HB.out.trans (hb.mono (by omega))
        obtain ⟨d0', d1', d2', d3', d4', d5', d6'⟩ := HRO.out
        have HR1 : Hid (v1.cell? ⟨g, j * 7, Option.none⟩ = some (.complex .f32 s.a1 s.a2) ∧ v1.cell? ⟨g, j * 7 + 1, Option.none⟩ = some (.complex .f32 s.b1 s.b2) ∧ v1.cell? ⟨g, j * 7 + 2, Option.none⟩ = some (.complex .f32 s.c1 s.c2) ∧ v1.cell? ⟨g, j * 7 + 3, Option.none⟩ = some (.float .f32 s.r) ∧ v1.cell? ⟨g, j * 7 + 4, Option.none⟩ = some (.float .f32 s.g) ∧ v1.cell? ⟨g, j * 7 + 5, Option.none⟩ = some (.float .f32 s.b) ∧ v1.cell? ⟨g, j * 7 + 6, Option.none⟩ = some (.float .f32 s.k)) := ⟨cBelow hb d0', cBelow hb d1', cBelow hb d2', cBelow hb d3', cBelow hb d4', cBelow hb d5', cBelow hb d6'⟩
        have hz1 := hb.size
        clear hb HB HRO d0 d1 d2 d3 d4 d5 d6 d0' d1' d2' d3' d4' d5' d6'
        go_upto_region 8 with fail
        have U1 : Hid (Blk (v1.alloc (.cells #[.complex .f32 u.a1 u.a2, .complex .f32 u.b1 u.b2, .complex .f32 u.c1 u.c2, .float .f32 u.r, .float .f32 u.g, .float .f32 u.b, .float .f32 u.k] 37)) v1.heap.size #[.complex .f32 u.a1 u.a2, .complex .f32 u.b1 u.b2, .complex .f32 u.c1 u.c2, .float .f32 u.r, .float .f32 u.g, .float .f32 u.b, .float .f32 u.k] 37) := Blk.new _ _ _
        have HB2 : Hid (Below W.heap.size W (v1.alloc (.cells #[.complex .f32 u.a1 u.a2, .complex .f32 u.b1 u.b2, .complex .f32 u.c1 u.c2, .float .f32 u.r, .float .f32 u.g, .float .f32 u.b, .float .f32 u.k] 37))) := HB1.out.alloc (by omega) _
        have HR2 : Hid ((v1.alloc (.cells #[.complex .f32 u.a1 u.a2, .complex .f32 u.b1 u.b2, .complex .f32 u.c1 u.c2, .float .f32 u.r, .float .f32 u.g, .float .f32 u.b, .float .f32 u.k] 37)).cell? ⟨g, j * 7, Option.none⟩ = some (.complex .f32 s.a1 s.a2) ∧ (v1.alloc (.cells #[.complex .f32 u.a1 u.a2, .complex .f32 u.b1 u.b2, .complex .f32 u.c1 u.c2, .float .f32 u.r, .float .f32 u.g, .float .f32 u.b, .float .f32 u.k] 37)).cell? ⟨g, j * 7 + 1, Option.none⟩ = some (.complex .f32 s.b1 s.b2) ∧ (v1.alloc (.cells #[.complex .f32 u.a1 u.a2, .complex .f32 u.b1 u.b2, .complex .f32 u.c1 u.c2, .float .f32 u.r, .float .f32 u.g, .float .f32 u.b, .float .f32 u.k] 37)).cell? ⟨g, j * 7 + 2, Option.none⟩ = some (.complex .f32 s.c1 s.c2) ∧ (v1.alloc (.cells #[.complex .f32 u.a1 u.a2, .complex .f32 u.b1 u.b2, .complex .f32 u.c1 u.c2, .float .f32 u.r, .float .f32 u.g, .float .f32 u.b, .float .f32 u.k] 37)).cell? ⟨g, j * 7 + 3, Option.none⟩ = some (.float .f32 s.r) ∧ (v1.alloc (.cells #[.complex .f32 u.a1 u.a2, .complex .f32 u.b1 u.b2, .complex .f32 u.c1 u.c2, .float .f32 u.r, .float .f32 u.g, .float .f32 u.b, .float .f32 u.k] 37)).cell? ⟨g, j * 7 + 4, Option.none⟩ = some (.float .f32 s.g) ∧ (v1.alloc (.cells #[.complex .f32 u.a1 u.a2, .complex .f32 u.b1 u.b2, .complex .f32 u.c1 u.c2, .float .f32 u.r, .float .f32 u.g, .float .f32 u.b, .float .f32 u.k] 37)).cell? ⟨g, j * 7 + 5, Option.none⟩ = some (.float .f32 s.b) ∧ (v1.alloc (.cells #[.complex .f32 u.a1 u.a2, .complex .f32 u.b1 u.b2, .complex .f32 u.c1 u.c2, .float .f32 u.r, .float .f32 u.g, .float .f32 u.b, .float .f32 u.k] 37)).cell? ⟨g, j * 7 + 6, Option.none⟩ = some (.float .f32 s.k)) := (by
          obtain ⟨d0, d1, d2, d3, d4, d5, d6⟩ := HR1.out
          exact ⟨cAlloc d0, cAlloc d1, cAlloc d2, cAlloc d3, cAlloc d4, cAlloc d5, cAlloc d6⟩)
        have hz2 : (v1.alloc (.cells #[.complex .f32 u.a1 u.a2, .complex .f32 u.b1 u.b2, .complex .f32 u.c1 u.c2, .float .f32 u.r, .float .f32 u.g, .float .f32 u.b, .float .f32 u.k] 37)).heap.size = v1.heap.size + 1 := by simp
        clear HB1 HR1
        generalize v1.alloc (.cells #[.complex .f32 u.a1 u.a2, .complex .f32 u.b1 u.b2, .complex .f32 u.c1 u.c2, .float .f32 u.r, .float .f32 u.g, .float .f32 u.b, .float .f32 u.k] 37) = v2 at U1 HB2 HR2 hz2 ⊢
        generalize v1.heap.size = nu at *
        obtain ⟨d0, d1, d2, d3, d4, d5, d6⟩ := HR2.out
        go_wp2_with fail
        refine (K.m0.call _).mono ?_
        rintro e v3 ⟨rfl, hb⟩
        have HB3 : Hid (Below W.heap.size W v3) := HB2.out.trans (hb.mono (by omega))
        have U3 : Hid (Blk v3 nu #[.complex .f32 u.a1 u.a2, .complex .f32 u.b1 u.b2, .complex .f32 u.c1 u.c2, .float .f32 u.r, .float .f32 u.g, .float .f32 u.b, .float .f32 u.k] 37) := U1.out.below hb
        obtain ⟨d0', d1', d2', d3', d4', d5', d6'⟩ := HR2.out
        have HR3 : Hid (v3.cell? ⟨g, j * 7, Option.none⟩ = some (.complex .f32 s.a1 s.a2) ∧ v3.cell? ⟨g, j * 7 + 1, Option.none⟩ = some (.complex .f32 s.b1 s.b2) ∧ v3.cell? ⟨g, j * 7 + 2, Option.none⟩ = some (.complex .f32 s.c1 s.c2) ∧ v3.cell? ⟨g, j * 7 + 3, Option.none⟩ = some (.float .f32 s.r) ∧ v3.cell? ⟨g, j * 7 + 4, Option.none⟩ = some (.float .f32 s.g) ∧ v3.cell? ⟨g, j * 7 + 5, Option.none⟩ = some (.float .f32 s.b) ∧ v3.cell? ⟨g, j * 7 + 6, Option.none⟩ = some (.float .f32 s.k)) := ⟨cBelow hb d0', cBelow hb d1', cBelow hb d2', cBelow hb d3', cBelow hb d4', cBelow hb d5', cBelow hb d6'⟩
        have hz3 := hb.size
        clear hb HB2 HR2 U1 d0 d1 d2 d3 d4 d5 d6 d0' d1' d2' d3' d4' d5' d6'
        go_upto_region 9 with fail
        have U4 : Hid (Blk (v3.alloc (.cells #[.complex .f32 v.a1 v.a2, .complex .f32 v.b1 v.b2, .complex .f32 v.c1 v.c2, .float .f32 v.r, .float .f32 v.g, .float .f32 v.b, .float .f32 v.k] 37)) nu #[.complex .f32 u.a1 u.a2, .complex .f32 u.b1 u.b2, .complex .f32 u.c1 u.c2, .float .f32 u.r, .float .f32 u.g, .float .f32 u.b, .float .f32 u.k] 37) := U3.out.alloc
        have V4 : Hid (Blk (v3.alloc (.cells #[.complex .f32 v.a1 v.a2, .complex .f32 v.b1 v.b2, .complex .f32 v.c1 v.c2, .float .f32 v.r, .float .f32 v.g, .float .f32 v.b, .float .f32 v.k] 37)) v3.heap.size #[.complex .f32 v.a1 v.a2, .complex .f32 v.b1 v.b2, .complex .f32 v.c1 v.c2, .float .f32 v.r, .float .f32 v.g, .float .f32 v.b, .float .f32 v.k] 37) := Blk.new _ _ _
        have HB4 : Hid (Below W.heap.size W (v3.alloc (.cells #[.complex .f32 v.a1 v.a2, .complex .f32 v.b1 v.b2, .complex .f32 v.c1 v.c2, .float .f32 v.r, .float .f32 v.g, .float .f32 v.b, .float .f32 v.k] 37))) := HB3.out.alloc (by omega) _
        have HR4 : Hid ((v3.alloc (.cells #[.complex .f32 v.a1 v.a2, .complex .f32 v.b1 v.b2, .complex .f32 v.c1 v.c2, .float .f32 v.r, .float .f32 v.g, .float .f32 v.b, .float .f32 v.k] 37)).cell? ⟨g, j * 7, Option.none⟩ = some (.complex .f32 s.a1 s.a2) ∧ (v3.alloc (.cells #[.complex .f32 v.a1 v.a2, .complex .f32 v.b1 v.b2, .complex .f32 v.c1 v.c2, .float .f32 v.r, .float .f32 v.g, .float .f32 v.b, .float .f32 v.k] 37)).cell? ⟨g, j * 7 + 1, Option.none⟩ = some (.complex .f32 s.b1 s.b2) ∧ (v3.alloc (.cells #[.complex .f32 v.a1 v.a2, .complex .f32 v.b1 v.b2, .complex .f32 v.c1 v.c2, .float .f32 v.r, .float .f32 v.g, .float .f32 v.b, .float .f32 v.k] 37)).cell? ⟨g, j * 7 + 2, Option.none⟩ = some (.complex .f32 s.c1 s.c2) ∧ (v3.alloc (.cells #[.complex .f32 v.a1 v.a2, .complex .f32 v.b1 v.b2, .complex .f32 v.c1 v.c2, .float .f32 v.r, .float .f32 v.g, .float .f32 v.b, .float .f32 v.k] 37)).cell? ⟨g, j * 7 + 3, Option.none⟩ = some (.float .f32 s.r) ∧ (v3.alloc (.cells #[.complex .f32 v.a1 v.a2, .complex .f32 v.b1 v.b2, .complex .f32 v.c1 v.c2, .float .f32 v.r, .float .f32 v.g, .float .f32 v.b, .float .f32 v.k] 37)).cell? ⟨g, j * 7 + 4, Option.none⟩ = some (.float .f32 s.g) ∧ (v3.alloc (.cells #[.complex .f32 v.a1 v.a2, .complex .f32 v.b1 v.b2, .complex .f32 v.c1 v.c2, .float .f32 v.r, .float .f32 v.g, .float .f32 v.b, .float .f32 v.k] 37)).cell? ⟨g, j * 7 + 5, Option.none⟩ = some (.float .f32 s.b) ∧ (v3.alloc (.cells #[.complex .f32 v.a1 v.a2, .complex .f32 v.b1 v.b2, .complex .f32 v.c1 v.c2, .float .f32 v.r, .float .f32 v.g, .float .f32 v.b, .float .f32 v.k] 37)).cell? ⟨g, j * 7 + 6, Option.none⟩ = some (.float .f32 s.k)) := (by
          obtain ⟨d0, d1, d2, d3, d4, d5, d6⟩ := HR3.out
          exact ⟨cAlloc d0, cAlloc d1, cAlloc d2, cAlloc d3, cAlloc d4, cAlloc d5, cAlloc d6⟩)
        have hz4 : (v3.alloc (.cells #[.complex .f32 v.a1 v.a2, .complex .f32 v.b1 v.b2, .complex .f32 v.c1 v.c2, .float .f32 v.r, .float .f32 v.g, .float .f32 v.b, .float .f32 v.k] 37)).heap.size = v3.heap.size + 1 := by simp
        clear HB3 HR3 U3
        generalize v3.alloc (.cells #[.complex .f32 v.a1 v.a2, .complex .f32 v.b1 v.b2, .complex .f32 v.c1 v.c2, .float .f32 v.r, .float .f32 v.g, .float .f32 v.b, .float .f32 v.k] 37) = v4 at U4 V4 HB4 HR4 hz4 ⊢
        generalize v3.heap.size = nv at *
        obtain ⟨d0, d1, d2, d3, d4, d5, d6⟩ := HR4.out
        have u0 := Blk.cellAt (i := 0) U4.out rfl
        have u1 := Blk.cellAt (i := 1) U4.out rfl
        have u2 := Blk.cellAt (i := 2) U4.out rfl
        have u3 := Blk.cellAt (i := 3) U4.out rfl
        have u4 := Blk.cellAt (i := 4) U4.out rfl
        have u5 := Blk.cellAt (i := 5) U4.out rfl
        have u6 := Blk.cellAt (i := 6) U4.out rfl
        have x0 := Blk.cellAt (i := 0) V4.out rfl
        have x1 := Blk.cellAt (i := 1) V4.out rfl
        have x2 := Blk.cellAt (i := 2) V4.out rfl
        simp only [List.getElem_toArray, List.getElem_cons_zero, List.getElem_cons_succ] at u0 u1 u2 u3 u4 u5 u6 x0 x1 x2
        have l1 := U4.out.lt
        have l2 := V4.out.lt
        have oa := K.st.a
        have ob := K.st.b
        have oc := K.st.c
        have od := K.col
        have oe := K.clr
        have of' : (FloatKind.f32.format.order u.k s.k != some .eq) = false := by rw [bne, oe]; rfl
        have h4 : Below W.heap.size W v4 := HB4.out
        have hs4 : W.heap.size ≤ v4.heap.size := h4.size
        have hg4 : g < v4.heap.size := by omega
        clear HR4 U4 V4 hz1 hz2 hz3 hz4
        cases p
        · clear h4
          go_quiet (fail)
          go_wp2
          go_roundw
          case rel => exact ⟨j + 1, by omega, by go_num, HB4.out.trans (below_draws _ _ _)⟩
          case measure => simp [intOf]; omega
        · have IU := K.iu rfl
          go_region_held3 (fun wx => Below W.heap.size W wx ∧ W.heap.size ≤ wx.heap.size ∧ nu < wx.heap.size ∧ nv < wx.heap.size ∧ g < wx.heap.size ∧ wx.cell? ⟨nu, 0, Option.none⟩ = some (.complex .f32 u.a1 u.a2) ∧ wx.cell? ⟨nu, 1, Option.none⟩ = some (.complex .f32 u.b1 u.b2) ∧ wx.cell? ⟨nu, 2, Option.none⟩ = some (.complex .f32 u.c1 u.c2) ∧ wx.cell? ⟨nu, 3, Option.none⟩ = some (.float .f32 u.r) ∧ wx.cell? ⟨nu, 4, Option.none⟩ = some (.float .f32 u.g) ∧ wx.cell? ⟨nu, 5, Option.none⟩ = some (.float .f32 u.b) ∧ wx.cell? ⟨nu, 6, Option.none⟩ = some (.float .f32 u.k) ∧ wx.cell? ⟨nv, 0, Option.none⟩ = some (.complex .f32 v.a1 v.a2) ∧ wx.cell? ⟨nv, 1, Option.none⟩ = some (.complex .f32 v.b1 v.b2) ∧ wx.cell? ⟨nv, 2, Option.none⟩ = some (.complex .f32 v.c1 v.c2) ∧ wx.cell? ⟨g, j * 7, Option.none⟩ = some (.complex .f32 s.a1 s.a2) ∧ wx.cell? ⟨g, j * 7 + 1, Option.none⟩ = some (.complex .f32 s.b1 s.b2) ∧ wx.cell? ⟨g, j * 7 + 2, Option.none⟩ = some (.complex .f32 s.c1 s.c2) ∧ wx.cell? ⟨g, j * 7 + 3, Option.none⟩ = some (.float .f32 s.r) ∧ wx.cell? ⟨g, j * 7 + 4, Option.none⟩ = some (.float .f32 s.g) ∧ wx.cell? ⟨g, j * 7 + 5, Option.none⟩ = some (.float .f32 s.b) ∧ wx.cell? ⟨g, j * 7 + 6, Option.none⟩ = some (.float .f32 s.k))
            (((repeat' apply And.intro) <;> first | (with_reducible assumption) | (((repeat (first | (with_reducible assumption) | (with_reducible exact cNewAt (by first | rfl | (simp only [World.size_alloc, World.size_setCell, World.size_drew]; done) | omega) rfl) | (with_reducible exact sNewAt (by first | rfl | (simp only [World.size_alloc, World.size_setCell, World.size_drew]; done) | omega) rfl) | (simp; done) | (with_reducible apply cAlloc) | (with_reducible apply cDrew) | (with_reducible refine cSet (by dsimp only; omega) ?_) | (with_reducible refine cSetOff (by dsimp only; omega) ?_) | (with_reducible apply cSame) | (with_reducible refine cBelow (by assumption) ?_) | (with_reducible apply sAlloc) | (with_reducible apply sDrew) | (with_reducible refine sBelow (by assumption) ?_) | (with_reducible refine sSet (by dsimp only; omega) ?_))); first | done | (simp [*]; done)); done) | (simp only [World.size_alloc, World.size_setCell, World.size_drew]; omega) | omega | (go_keep; done) | ((repeat' (first | (with_reducible exact Below.refl _ _) | (with_reducible assumption) | (with_reducible refine Below.alloc ?_ ?_ _) | (with_reducible refine Below.drew ?_) | (with_reducible refine Below.setCell ?_ ?_ _) | (with_reducible refine Below.trans ?_ (Below.mono (by assumption) ?_)) | (with_reducible exact Nat.le_refl _) | omega | (simp only [World.size_alloc, World.size_setCell, World.size_drew]; omega) | (simp; omega) | (simp; done))); done)))
            (first | (go_at_call 13; (with_reducible refine (IU.call _).mono ?_); rintro e w6 ⟨rfl, hb⟩; obtain ⟨hc, hf⟩ := bcell hb; have HL := keepL (by (repeat (first | (with_reducible assumption) | (with_reducible apply AllLt.alloc) | (with_reducible apply AllLt.setCell) | (with_reducible apply AllLt.drew) | (with_reducible exact AllLt.nil _)))) hb; have hq := HL; simp only [AllLt, and_true, World.size_alloc, World.size_setCell, World.size_drew] at hq; have hbs := hb.size; try simp only [World.size_alloc, World.size_setCell, World.size_drew] at hbs))
          all_goals
            have HZ : Hid (Below W.heap.size W w6) := And.left (by assumption)
            rename_i hHeld
            clear hHeld
            go_wp2
            go_roundw
            case rel => exact ⟨j + 1, by omega, by go_num, HZ.out⟩
            case measure => simp [intOf]; omega
      · have hjm : j = l.length := by omega
        subst hjm
        clear hbel
        go_wp2
        go_ret
        exact ⟨rfl, HBR.out⟩
  · go_enter Try.func6, Try.ntmps6
    go_wp2_with fail
    refine (big_yes _ _ _ _ hl).mono ?_
    rintro e w0 ⟨rfl, rfl⟩
    go_wp2
    all_goals (go_returns; exact ⟨rfl, by (repeat' (first | (with_reducible exact Below.refl _ _) | (with_reducible assumption) | (with_reducible refine Below.alloc ?_ ?_ _) | (with_reducible refine Below.drew ?_) | (with_reducible refine Below.setCell ?_ ?_ _) | (with_reducible refine Below.trans ?_ (Below.mono (by assumption) ?_)) | (with_reducible exact Nat.le_refl _) | omega | (simp only [World.size_alloc, World.size_setCell, World.size_drew]; omega) | (simp; omega) | (simp; done)))⟩)
end Go.Proofs.Ytkcfekhpppihhaa.wFnMovedShard
