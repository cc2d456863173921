/-
  The draw of two colours and a share.
-/
import Derived.Test.YtljilmekmfnkbaaCdr
namespace Go.Proofs.Ytljilmekmfnkbaa
open Go.ChangeShapes Go.WideShapes Go.ChangeAt Go.RowKit Go.Joins
set_option linter.unusedSimpArgs false
set_option linter.unusedVariables false
set_option maxRecDepth 100000
attribute [local go_sem] store_f
open Ieee

theorem ByteRow.mono {W : World} {B B' : Nat} {a : Option Addr} {len : Nat} {bs : List Int} (h : ByteRow W B a len bs) (hB : B ≤ B') : ByteRow W B' a len bs := by
  rcases h with h | ⟨b, off, e, hlt, h⟩
  · exact .inl h
  · exact .inr ⟨b, off, e, by omega, h⟩

structure ColsDrawn (w : World) (e : Ending) (w' : World) (r g b x y z k : Nat) : Prop where
  ret : e = .returned (.tuple #[.agg #[.float .f32 r, .float .f32 g, .float .f32 b], .agg #[.float .f32 x, .float .f32 y, .float .f32 z], .float .f32 k])
  lr : r ≤ 1065353216
  lg : g ≤ 1065353216
  lb : b ≤ 1065353216
  lx : x ≤ 1065353216
  ly : y ≤ 1065353216
  lz : z ≤ 1065353216
  lk : k ≤ 1065353216
  below : Below w.heap.size w w'

set_option maxHeartbeats 2000000 in
theorem drawColours_s (a : Option Addr) (len cap : Nat) (bs : List Int) (w : World) (hrow : ByteRow w w.heap.size a len bs) (hlen : len ≤ 4096) :
    Calls Try.prog 17 #[.slice a len cap] w fun e w' => ∃ r g b x y z k : Nat, ColsDrawn w e w' r g b x y z k := by
  have HR : Hid (ByteRow w w.heap.size a len bs) := hrow
  clear hrow
  go_enter Try.func17, Try.ntmps17
  go_wp2_with fail
  have hb0 : Below w.heap.size w ((w.alloc (.cells #[.float .f32 0, .float .f32 0, .float .f32 0] 26)).alloc (.cells #[.float .f32 0, .float .f32 0, .float .f32 0] 26)) := by (repeat' (first | (with_reducible exact Below.refl _ _) | (with_reducible assumption) | (with_reducible refine Below.alloc ?_ ?_ _) | (with_reducible refine Below.drew ?_) | (with_reducible refine Below.setCell ?_ ?_ _) | (with_reducible refine Below.trans ?_ (Below.mono (by assumption) ?_)) | (with_reducible exact Nat.le_refl _) | omega | (simp only [World.size_alloc, World.size_setCell, World.size_drew]; omega) | (simp; omega) | (simp; done)))
  have hrow0 : Hid (ByteRow ((w.alloc (.cells #[.float .f32 0, .float .f32 0, .float .f32 0] 26)).alloc (.cells #[.float .f32 0, .float .f32 0, .float .f32 0] 26)) ((w.alloc (.cells #[.float .f32 0, .float .f32 0, .float .f32 0] 26)).alloc (.cells #[.float .f32 0, .float .f32 0, .float .f32 0] 26)).heap.size a len bs) := (HR.out.of hb0).mono hb0.size
  have P0 : Blk ((w.alloc (.cells #[.float .f32 0, .float .f32 0, .float .f32 0] 26)).alloc (.cells #[.float .f32 0, .float .f32 0, .float .f32 0] 26)) w.heap.size #[.float .f32 0, .float .f32 0, .float .f32 0] 26 := (Blk.new _ _ _).alloc
  have Q0 : Blk ((w.alloc (.cells #[.float .f32 0, .float .f32 0, .float .f32 0] 26)).alloc (.cells #[.float .f32 0, .float .f32 0, .float .f32 0] 26)) (w.heap.size + 1) #[.float .f32 0, .float .f32 0, .float .f32 0] 26 := Blk.newAt (by simp)
  have hs0 : ((w.alloc (.cells #[.float .f32 0, .float .f32 0, .float .f32 0] 26)).alloc (.cells #[.float .f32 0, .float .f32 0, .float .f32 0] 26)).heap.size = w.heap.size + 2 := by simp
  generalize (w.alloc (.cells #[.float .f32 0, .float .f32 0, .float .f32 0] 26)).alloc (.cells #[.float .f32 0, .float .f32 0, .float .f32 0] 26) = W0 at hb0 hrow0 P0 Q0 hs0 ⊢
  refine (l1New_s a len cap bs _ hrow0.out hlen).mono ?_
  rintro e w1 ⟨q, rfl, hql, hcur, hb1⟩
  have hqB := hcur.ge
  have P1 : Hid (Blk w1 w.heap.size #[.float .f32 0, .float .f32 0, .float .f32 0] 26) := P0.below hb1
  have Q1 : Hid (Blk w1 (w.heap.size + 1) #[.float .f32 0, .float .f32 0, .float .f32 0] 26) := Q0.below hb1
  have C1 : Hid (Cur W0.heap.size w1 q) := hcur
  have B1 : Hid (Below w.heap.size w w1) := Below.trans hb0 (Below.mono hb1 hb0.size)
  have s1 := B1.out.size
  clear hcur hb1 P0 Q0 hb0 HR
  go_wp2_with fail
  refine (l2Draw_s W0.heap.size q _ C1.out).mono ?_
  rintro e w2 ⟨r, g, b, ⟨rfl, lr, lg, lb, hc2, hg2⟩⟩
  have P2 : Hid (Blk w2 w.heap.size #[.float .f32 0, .float .f32 0, .float .f32 0] 26) := P1.out.grown hg2 (by omega)
  have Q2 : Hid (Blk w2 (w.heap.size + 1) #[.float .f32 0, .float .f32 0, .float .f32 0] 26) := Q1.out.grown hg2 (by omega)
  have C2 : Hid (Cur W0.heap.size w2 q) := hc2
  have G2 : Hid (w1.grownBy w2 (some q)) := hg2
  have LR : Hid (r ≤ 1065353216) := lr
  have LG : Hid (g ≤ 1065353216) := lg
  have LB : Hid (b ≤ 1065353216) := lb
  clear hc2 hg2 lr lg lb
  go_wp2_with fail
  refine (l2Draw_s W0.heap.size q _ C2.out).mono ?_
  rintro e w3 ⟨x, y, z, ⟨rfl, lx, ly, lz, hc3, hg3⟩⟩
  have P3 : Hid (Blk w3 w.heap.size #[.float .f32 0, .float .f32 0, .float .f32 0] 26) := P2.out.grown hg3 (by omega)
  have Q3 : Hid (Blk w3 (w.heap.size + 1) #[.float .f32 0, .float .f32 0, .float .f32 0] 26) := Q2.out.grown hg3 (by omega)
  have C3 : Hid (Cur W0.heap.size w3 q) := hc3
  have G3 : Hid (w1.grownBy w3 (some q)) := grownBy_trans G2.out hg3
  have LX : Hid (x ≤ 1065353216) := lx
  have LY : Hid (y ≤ 1065353216) := ly
  have LZ : Hid (z ≤ 1065353216) := lz
  clear hc3 hg3 lx ly lz
  go_wp2_with fail
  refine (l2One_s W0.heap.size q _ C3.out).mono ?_
  rintro e w4 ⟨k, ⟨rfl, lk, hc4, hg4⟩⟩
  have P4 := P3.out.grown hg4 (by omega)
  have Q4 := Q3.out.grown hg4 (by omega)
  have B4 : Hid (Below w.heap.size w w4) := Below.trans B1.out (below_of_grown (grownBy_trans G3.out hg4) (by omega) s1)
  have LK : Hid (k ≤ 1065353216) := lk
  clear hc4 hg4 lk
  have l4 := P4.lt
  have l5 := Q4.lt
  have d0 := Blk.cellAt (i := 0) P4 rfl
  have d1 := Blk.cellAt (i := 1) P4 rfl
  have d2 := Blk.cellAt (i := 2) P4 rfl
  have f0 := Blk.freeAt (i := 0) P4
  have f1 := Blk.freeAt (i := 1) P4
  have f2 := Blk.freeAt (i := 2) P4
  have u0 := Blk.cellAt (i := 0) Q4 rfl
  have u1 := Blk.cellAt (i := 1) Q4 rfl
  have u2 := Blk.cellAt (i := 2) Q4 rfl
  have v0 := Blk.freeAt (i := 0) Q4
  have v1 := Blk.freeAt (i := 1) Q4
  have v2 := Blk.freeAt (i := 2) Q4
  simp at d0 d1 d2 u0 u1 u2
  have PH : Hid (Blk w4 w.heap.size #[.float .f32 0, .float .f32 0, .float .f32 0] 26) := P4
  have QH : Hid (Blk w4 (w.heap.size + 1) #[.float .f32 0, .float .f32 0, .float .f32 0] 26) := Q4
  clear P4 Q4
  go_wp2
  have e0 := (PH.out.set (i := 0) (v := .float .f32 r)).cell 0
  have e1 := ((PH.out.set (i := 0) (v := .float .f32 r)).set (i := 1) (v := .float .f32 g)).cell 1
  have e2 := (((PH.out.set (i := 0) (v := .float .f32 r)).set (i := 1) (v := .float .f32 g)).set (i := 2) (v := .float .f32 b)).cell 2
  have Q5 : Blk (((w4.setCell ⟨w.heap.size, 0, Option.none⟩ (.float .f32 r)).setCell ⟨w.heap.size, 1, Option.none⟩ (.float .f32 g)).setCell ⟨w.heap.size, 2, Option.none⟩ (.float .f32 b)) (w.heap.size + 1) #[.float .f32 0, .float .f32 0, .float .f32 0] 26 :=
    ((QH.out.other (by dsimp only; omega)).other (by dsimp only; omega)).other (by dsimp only; omega)
  have e3 := (Q5.set (i := 0) (v := .float .f32 x)).cell 0
  have e4 := ((Q5.set (i := 0) (v := .float .f32 x)).set (i := 1) (v := .float .f32 y)).cell 1
  have e5 := (((Q5.set (i := 0) (v := .float .f32 x)).set (i := 1) (v := .float .f32 y)).set (i := 2) (v := .float .f32 z)).cell 2
  simp only [List.setIfInBounds_toArray, List.set_cons_zero, List.set_cons_succ, List.getElem?_toArray, List.getElem?_cons_zero, List.getElem?_cons_succ] at e0 e1 e2 e3 e4 e5
  have hbel4 := B4.out
  exact bodyPost_ret (v := .tuple #[.agg #[.float .f32 r, .float .f32 g, .float .f32 b], .agg #[.float .f32 x, .float .f32 y, .float .f32 z], .float .f32 k]) (by simp [results, Try.results17, go_sem, e0, e1, e2, e3, e4, e5]) rfl ⟨r, g, b, x, y, z, k, rfl, LR.out, LG.out, LB.out, LX.out, LY.out, LZ.out, LK.out, by (repeat' (first | (with_reducible exact Below.refl _ _) | (with_reducible assumption) | (with_reducible refine Below.alloc ?_ ?_ _) | (with_reducible refine Below.drew ?_) | (with_reducible refine Below.setCell ?_ ?_ _) | (with_reducible refine Below.trans ?_ (Below.mono (by assumption) ?_)) | (with_reducible exact Nat.le_refl _) | omega | (simp only [World.size_alloc, World.size_setCell, World.size_drew]; omega) | (simp; omega) | (simp; done)))⟩
end Go.Proofs.Ytljilmekmfnkbaa
