/-
  The draw of three symmetries.
-/
import Derived.Test.YtlnikapkheldeaaFg
import Derived.Test.YtlnikapkheldeaaLall
import Derived.Test.YtlnikapkheldeaaAthen
import Derived.Deep.RegionHeld3
namespace Go.Proofs.Ytlnikapkheldeaa
open Go.ChangeShapes Go.WideShapes Go.ChangeAt Go.RowKit Go.Joins
set_option linter.unusedSimpArgs false
set_option linter.unusedVariables false
set_option maxRecDepth 100000
attribute [local go_sem] store_f
open Ieee

structure SymsDrawn (w : World) (e : Ending) (w' : World) (i j k : Nat) : Prop where
  ret : e = .returned (.tuple #[.agg #[.int .i64 (symK i).1, .bool (symK i).2], .agg #[.int .i64 (symK j).1, .bool (symK j).2], .agg #[.int .i64 (symK k).1, .bool (symK k).2]])
  lti : i < 8
  ltj : j < 8
  ltk : k < 8
  below : Below w.heap.size w w'

/-- The list of the eight symmetries, in block g. -/
structure Row8 (w : World) (g : Nat) : Prop where
  lt : g < w.heap.size
  row : ∀ k : Nat, k < 8 → w.cell? ⟨g, k * 2, Option.none⟩ = some (.int .i64 (symK k).1) ∧ w.cell? ⟨g, k * 2 + 1, Option.none⟩ = some (.bool (symK k).2)
theorem Row8.grown {w w1 : World} {g q : Nat} (h : Row8 w g) (hg : w.grownBy w1 (some q)) (hne : g ≠ q) : Row8 w1 g :=
  ⟨Nat.lt_of_lt_of_le h.lt hg.size, fun k hk => ⟨(World.cell?_of_block (hg.block g h.lt (fun e => hne (Option.some.inj e)))).trans (h.row k hk).1, (World.cell?_of_block (hg.block g h.lt (fun e => hne (Option.some.inj e)))).trans (h.row k hk).2⟩⟩

theorem Row8.drew {w : World} {g : Nat} (h : Row8 w g) : Row8 w.drew g := ⟨h.lt, h.row⟩
theorem row_cells {w : World} {B g gc : Nat} (h : w.ownsRow B 25 2 (.slice (some ⟨g, 0, Option.none⟩) 8 gc) 8 (symCells (allTo 8))) (k : Nat) (hk : k < 8) :
    w.cell? ⟨g, k * 2, Option.none⟩ = some (.int .i64 (symK k).1) ∧ w.cell? ⟨g, k * 2 + 1, Option.none⟩ = some (.bool (symK k).2) := by
  obtain ⟨_, ⟨hv, _⟩ | ⟨g', cap, cur, hv, hb, hg, hn, hc, hsz, hx⟩⟩ := h
  · cases hv
  · cases hv
    obtain ⟨s1, s2⟩ := symCells_at k hk
    rw [← hx] at s1 s2
    rw [List.getElem?_take] at s1 s2
    rw [if_pos (by omega)] at s1 s2
    rw [cell_of_block hg, cell_of_block hg]
    exact ⟨by simpa using s1, by simpa using s2⟩

theorem rowE_set {w : World} {g : Nat} {p : Addr} {v : Value} (hne : g ≠ p.block) (h : ∀ k : Nat, k < 8 → w.cell? ⟨g, k * 2, Option.none⟩ = some (.int .i64 (symK k).1)) :
    ∀ k : Nat, k < 8 → (w.setCell p v).cell? ⟨g, k * 2, Option.none⟩ = some (.int .i64 (symK k).1) := fun k hk => cSet hne (h k hk)
theorem rowO_set {w : World} {g : Nat} {p : Addr} {v : Value} (hne : g ≠ p.block) (h : ∀ k : Nat, k < 8 → w.cell? ⟨g, k * 2 + 1, Option.none⟩ = some (.bool (symK k).2)) :
    ∀ k : Nat, k < 8 → (w.setCell p v).cell? ⟨g, k * 2 + 1, Option.none⟩ = some (.bool (symK k).2) := fun k hk => cSet hne (h k hk)
theorem Row8.even {w : World} {g : Nat} (h : Row8 w g) : ∀ k : Nat, k < 8 → w.cell? ⟨g, k * 2, Option.none⟩ = some (.int .i64 (symK k).1) := fun k hk => (h.row k hk).1
theorem Row8.odd {w : World} {g : Nat} (h : Row8 w g) : ∀ k : Nat, k < 8 → w.cell? ⟨g, k * 2 + 1, Option.none⟩ = some (.bool (symK k).2) := fun k hk => (h.row k hk).2

set_option maxHeartbeats 4000000 in
theorem drawSyms_s (a : Option Addr) (len cap : Nat) (bs : List Int) (w : World) (hrow : ByteRow w w.heap.size a len bs) (hlen : len ≤ 4096) :
    Calls Try.prog 21 #[.slice a len cap] w fun e w' => ∃ i j k, SymsDrawn w e w' i j k := by
  have HR : Hid (ByteRow w w.heap.size a len bs) := hrow
  clear hrow
  go_enter Try.func21, Try.ntmps21
  go_wp2_with fail
  generalize hW : ((w.alloc (.cells #[.int .i64 0, .bool false] 25)).alloc (.cells #[.int .i64 0, .bool false] 25)).alloc (.cells #[.int .i64 0, .bool false] 25) = W
  have hWs : W.heap.size = w.heap.size + 3 := by rw [← hW]; simp
  have hWb : Below w.heap.size w W := by rw [← hW]; (repeat' (first | (with_reducible exact Below.refl _ _) | (with_reducible assumption) | (with_reducible refine Below.alloc ?_ ?_ _) | (with_reducible refine Below.drew ?_) | (with_reducible refine Below.setCell ?_ ?_ _) | (with_reducible refine Below.trans ?_ (Below.mono (by assumption) ?_)) | (with_reducible exact Nat.le_refl _) | omega | (simp only [World.size_alloc, World.size_setCell, World.size_drew]; omega) | (simp; omega) | (simp; done)))
  have R0 : Hid (Blk W w.heap.size #[.int .i64 0, .bool false] 25) := by rw [← hW]; exact ((Blk.new _ _ _).alloc).alloc
  have R1 : Hid (Blk W (w.heap.size + 1) #[.int .i64 0, .bool false] 25) := by rw [← hW]; exact (Blk.newAt (by simp)).alloc
  have R2 : Hid (Blk W (w.heap.size + 2) #[.int .i64 0, .bool false] 25) := by rw [← hW]; exact Blk.newAt (by simp)
  clear hW
  refine (l1New_s a len cap bs _ ((HR.out.of hWb).mono hWb.size) hlen).mono ?_
  rintro e w1 ⟨q, rfl, hql, hcur, hb1⟩
  have hqB := hcur.ge
  have C1 : Hid (Cur W.heap.size w1 q) := hcur
  have S1 := hb1.size
  have B1 : Hid (Below w.heap.size w w1) := Below.trans hWb (Below.mono hb1 (by omega))
  have Q0 : Hid (Blk w1 w.heap.size #[.int .i64 0, .bool false] 25) := Blk.belowAt hb1 R0.out
  have Q1 : Hid (Blk w1 (w.heap.size + 1) #[.int .i64 0, .bool false] 25) := Blk.belowAt hb1 R1.out
  have Q2 : Hid (Blk w1 (w.heap.size + 2) #[.int .i64 0, .bool false] 25) := Blk.belowAt hb1 R2.out
  clear hcur hb1 R0 R1 R2 hWb
  go_wp2_with fail
  refine (l1All_s _).mono ?_
  rintro e w2 ⟨g, gc, rfl, hown, hb2⟩
  have C0 : Hid (Cur W.heap.size w2 q) := C1.out.below hb2
  have R00 : Hid (Blk w2 (w.heap.size + 0) #[.int .i64 0, .bool false] 25) := Blk.belowAt hb2 Q0.out
  have R01 : Hid (Blk w2 (w.heap.size + 1) #[.int .i64 0, .bool false] 25) := Blk.belowAt hb2 Q1.out
  have R02 : Hid (Blk w2 (w.heap.size + 2) #[.int .i64 0, .bool false] 25) := Blk.belowAt hb2 Q2.out
  have hgl : w1.heap.size ≤ g := (hown.lt _ rfl).1
  have L0 : Hid (Row8 w2 g) := ⟨(hown.lt _ rfl).2, fun k hk => row_cells hown k hk⟩
  have B2 : Hid (Below w.heap.size w w2) := Below.trans B1.out (Below.mono hb2 (by omega))
  have hgq : g ≠ q := by omega
  have s2 := hb2.size
  have G0 : Hid (w2.grownBy w2 (some q)) := grownBy_refl _ _
  clear hb2 hown Q0 Q1 Q2 C1 B1 HR
  go_wp2_with fail
  have he := L0.out.even
  have ho := L0.out.odd
  go_region_held3 (fun wx => (∀ k : Nat, k < 8 → wx.cell? ⟨g, k * 2, Option.none⟩ = some (.int .i64 (symK k).1)) ∧ (∀ k : Nat, k < 8 → wx.cell? ⟨g, k * 2 + 1, Option.none⟩ = some (.bool (symK k).2)))
    (((repeat' apply And.intro) <;> first | (with_reducible assumption) | (with_reducible exact L3.out.even) | (with_reducible exact L3.out.odd) | (with_reducible exact L2.out.even) | (with_reducible exact L2.out.odd) | (with_reducible exact L1.out.even) | (with_reducible exact L1.out.odd) | (with_reducible exact L0.out.even) | (with_reducible exact L0.out.odd) | ((repeat ((with_reducible refine rowE_set ?_ ?_); (focus (dsimp only; omega)))); (with_reducible exact L3.out.even)) | ((repeat ((with_reducible refine rowO_set ?_ ?_); (focus (dsimp only; omega)))); (with_reducible exact L3.out.odd)) | exact Row8.even (Row8.drew L0.out) | exact Row8.odd (Row8.drew L0.out)))
    (first | (go_at_call 73; refine (l1Below_s W.heap.size q 8 w2.drew (show Cur W.heap.size w2.drew q from C0.out) (by omega) (by omega)).mono ?_; rintro e w4 ⟨x1, rfl, p1, r1, hc, hg⟩; obtain ⟨n1, rfl⟩ : ∃ n : Nat, x1 = n := ⟨x1.toNat, by omega⟩; have h1 : n1 < 8 := (by omega); have C1 : Hid (Cur W.heap.size w4 q) := hc; have G1 : Hid (w2.grownBy w4 (some q)) := grownBy_trans (show w2.grownBy w2.drew (some q) from grownBy_draws (n := 1) G0.out) hg; have L1 : Hid (Row8 w4 g) := (Row8.drew L0.out).grown hg hgq; have R10 : Hid (Blk w4 (w.heap.size + 0) #[.int .i64 0, .bool false] 25) := Blk.grown (show Blk w2.drew (w.heap.size + 0) #[.int .i64 0, .bool false] 25 from R00.out) hg (by omega); have R11 : Hid (Blk w4 (w.heap.size + 1) #[.int .i64 0, .bool false] 25) := Blk.grown (show Blk w2.drew (w.heap.size + 1) #[.int .i64 0, .bool false] 25 from R01.out) hg (by omega); have R12 : Hid (Blk w4 (w.heap.size + 2) #[.int .i64 0, .bool false] 25) := Blk.grown (show Blk w2.drew (w.heap.size + 2) #[.int .i64 0, .bool false] 25 from R02.out) hg (by omega); clear hc hg) | (go_at_call 73; refine (l1Below_s W.heap.size q 8 _ C1.out (by omega) (by omega)).mono ?_; rintro e w5 ⟨x2, rfl, p2, r2, hc, hg⟩; obtain ⟨n2, rfl⟩ : ∃ n : Nat, x2 = n := ⟨x2.toNat, by omega⟩; have h2 : n2 < 8 := (by omega); have C2 : Hid (Cur W.heap.size w5 q) := hc; have G2 : Hid (w2.grownBy w5 (some q)) := grownBy_trans G1.out hg; have L2 : Hid (Row8 w5 g) := L1.out.grown hg hgq; have R20 : Hid (Blk w5 (w.heap.size + 0) #[.int .i64 0, .bool false] 25) := Blk.grown R10.out hg (by omega); have R21 : Hid (Blk w5 (w.heap.size + 1) #[.int .i64 0, .bool false] 25) := Blk.grown R11.out hg (by omega); have R22 : Hid (Blk w5 (w.heap.size + 2) #[.int .i64 0, .bool false] 25) := Blk.grown R12.out hg (by omega); clear hc hg) | (go_at_call 73; refine (l1Below_s W.heap.size q 8 _ C2.out (by omega) (by omega)).mono ?_; rintro e w6 ⟨x3, rfl, p3, r3, hc, hg⟩; obtain ⟨n3, rfl⟩ : ∃ n : Nat, x3 = n := ⟨x3.toNat, by omega⟩; have h3 : n3 < 8 := (by omega); have C3 : Hid (Cur W.heap.size w6 q) := hc; have G3 : Hid (w2.grownBy w6 (some q)) := grownBy_trans G2.out hg; have L3 : Hid (Row8 w6 g) := L2.out.grown hg hgq; have R30 : Hid (Blk w6 (w.heap.size + 0) #[.int .i64 0, .bool false] 25) := Blk.grown R20.out hg (by omega); have R31 : Hid (Blk w6 (w.heap.size + 1) #[.int .i64 0, .bool false] 25) := Blk.grown R21.out hg (by omega); have R32 : Hid (Blk w6 (w.heap.size + 2) #[.int .i64 0, .bool false] 25) := Blk.grown R22.out hg (by omega); have a0 : w6.cell? ⟨w.heap.size, 0, Option.none⟩ = some (.int .i64 0) := R30.out.cell 0; have e0 : w6.cell? ⟨w.heap.size, 1, Option.none⟩ = some (.bool false) := R30.out.cell 1; have f0 : w6.frozen? ⟨w.heap.size, 0, Option.none⟩ = false := R30.out.free 0; have g0 : w6.frozen? ⟨w.heap.size, 1, Option.none⟩ = false := R30.out.free 1; have a1 : w6.cell? ⟨w.heap.size + 1, 0, Option.none⟩ = some (.int .i64 0) := R31.out.cell 0; have e1 : w6.cell? ⟨w.heap.size + 1, 1, Option.none⟩ = some (.bool false) := R31.out.cell 1; have f1 : w6.frozen? ⟨w.heap.size + 1, 0, Option.none⟩ = false := R31.out.free 0; have g1 : w6.frozen? ⟨w.heap.size + 1, 1, Option.none⟩ = false := R31.out.free 1; have a2 : w6.cell? ⟨w.heap.size + 1 + 1, 0, Option.none⟩ = some (.int .i64 0) := R32.out.cell 0; have e2 : w6.cell? ⟨w.heap.size + 1 + 1, 1, Option.none⟩ = some (.bool false) := R32.out.cell 1; have f2 : w6.frozen? ⟨w.heap.size + 1 + 1, 0, Option.none⟩ = false := R32.out.free 0; have g2 : w6.frozen? ⟨w.heap.size + 1 + 1, 1, Option.none⟩ = false := R32.out.free 1; clear hc hg))
  rename_i hHeld
  clear hHeld he ho a0 e0 f0 g0 a1 e1 f1 g1 a2 e2 f2 g2
  have BX : Hid (Below w.heap.size w w6) := Below.trans B2.out (below_of_grown G3.out (by omega) (by omega))
  generalize hX : (((((w6.setCell ⟨w.heap.size, 0, Option.none⟩ (.int .i64 (symK n1).1)).setCell ⟨w.heap.size, 1, Option.none⟩ (.bool (symK n1).2)).setCell ⟨w.heap.size + 1, 0, Option.none⟩ (.int .i64 (symK n2).1)).setCell ⟨w.heap.size + 1, 1, Option.none⟩ (.bool (symK n2).2)).setCell ⟨w.heap.size + 1 + 1, 0, Option.none⟩ (.int .i64 (symK n3).1)).setCell ⟨w.heap.size + 1 + 1, 1, Option.none⟩ (.bool (symK n3).2) = X
  have D0 : Blk X w.heap.size #[.int .i64 (symK n1).1, .bool (symK n1).2] 25 := by
    rw [← hX]
    exact (((((Blk.setAt (b := w.heap.size) rfl (Blk.setAt (b := w.heap.size) rfl R30.out rfl) rfl).other (by dsimp only; omega)).other (by dsimp only; omega)).other (by dsimp only; omega)).other (by dsimp only; omega))
  have D1 : Blk X (w.heap.size + 1) #[.int .i64 (symK n2).1, .bool (symK n2).2] 25 := by
    rw [← hX]
    exact ((Blk.setAt (b := w.heap.size + 1) rfl (Blk.setAt (b := w.heap.size + 1) rfl ((R31.out.other (by dsimp only; omega)).other (by dsimp only; omega)) rfl) rfl).other (by dsimp only; omega)).other (by dsimp only; omega)
  have D2 : Blk X (w.heap.size + 1 + 1) #[.int .i64 (symK n3).1, .bool (symK n3).2] 25 := by
    rw [← hX]
    exact Blk.setAt (b := w.heap.size + 1 + 1) rfl (Blk.setAt (b := w.heap.size + 1 + 1) rfl ((((R32.out.other (by dsimp only; omega)).other (by dsimp only; omega)).other (by dsimp only; omega)).other (by dsimp only; omega)) rfl) rfl
  have HB : Hid (Below w.heap.size w X) := by
    rw [← hX]
    exact (((((BX.out.setCell (Nat.le_refl _) _).setCell (Nat.le_refl _) _).setCell (by dsimp only; omega) _).setCell (by dsimp only; omega) _).setCell (by dsimp only; omega) _).setCell (by dsimp only; omega) _
  clear hX
  have c0 := Blk.cellAt (i := 0) D0 rfl
  have c1 := Blk.cellAt (i := 1) D0 rfl
  have c2 := Blk.cellAt (i := 0) D1 rfl
  have c3 := Blk.cellAt (i := 1) D1 rfl
  have c4 := Blk.cellAt (i := 0) D2 rfl
  have c5 := Blk.cellAt (i := 1) D2 rfl
  simp only [List.getElem_toArray, List.getElem_cons_zero, List.getElem_cons_succ] at c0 c1 c2 c3 c4 c5
  clear D0 D1 D2
  go_wp2
  exact bodyPost_ret (v := .tuple #[.agg #[.int .i64 (symK n1).1, .bool (symK n1).2], .agg #[.int .i64 (symK n2).1, .bool (symK n2).2], .agg #[.int .i64 (symK n3).1, .bool (symK n3).2]]) (by simp [results, Try.results21, go_sem, c0, c1, c2, c3, c4, c5]) rfl ⟨n1, n2, n3, rfl, h1, h2, h3, HB.out⟩
end Go.Proofs.Ytlnikapkheldeaa
