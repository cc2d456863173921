/-
  Texts of this proof, joined: Fh, Hl, Fm, Fo, Ha.
-/
import Derived.Test.YtlnikapkheldeaaK07
import Derived.Test.YtlnikapkheldeaaK08
import Derived.Deep.RegionHeld3
import Derived.Test.YtlnikapkheldeaaK02
/-
  The draw of three symmetries.
-/
namespace Go.Proofs.Ytlnikapkheldeaa
open Go.ChangeShapes Go.WideShapes Go.ChangeAt Go.RowKit Go.Joins
set_option linter.unusedSimpArgs false
set_option linter.unusedVariables false
set_option maxRecDepth 100000
attribute [local go_sem] store_f
open Ieee

structure SymsDrawn (w : World) (e : Ending) (w' : World) (i j k : Nat) : Prop where
  ret : e = .returned (.tuple #[.agg #[.int .i64 (symK i).1, .bool (symK i).2], .agg #[.int .i64 (symK j).1, .bool (symK j).2], .agg #[.int .i64 (symK k).1, .bool (symK k).2]])
  lti : i < 8
  ltj : j < 8
  ltk : k < 8
  below : Below w.heap.size w w'

/-- The list of the eight symmetries, in block g. -/
structure Row8 (w : World) (g : Nat) : Prop where
  lt : g < w.heap.size
  row : ∀ k : Nat, k < 8 → w.cell? ⟨g, k * 2, Option.none⟩ = some (.int .i64 (symK k).1) ∧ w.cell? ⟨g, k * 2 + 1, Option.none⟩ = some (.bool (symK k).2)
theorem Row8.grown {w w1 : World} {g q : Nat} (h : Row8 w g) (hg : w.grownBy w1 (some q)) (hne : g ≠ q) : Row8 w1 g :=
  ⟨Nat.lt_of_lt_of_le h.lt hg.size, fun k hk => ⟨(World.cell?_of_block (hg.block g h.lt (fun e => hne (Option.some.inj e)))).trans (h.row k hk).1, (World.cell?_of_block (hg.block g h.lt (fun e => hne (Option.some.inj e)))).trans (h.row k hk).2⟩⟩

theorem Row8.drew {w : World} {g : Nat} (h : Row8 w g) : Row8 w.drew g := ⟨h.lt, h.row⟩
theorem row_cells {w : World} {B g gc : Nat} (h : w.ownsRow B 25 2 (.slice (some ⟨g, 0, Option.none⟩) 8 gc) 8 (symCells (allTo 8))) (k : Nat) (hk : k < 8) :
    w.cell? ⟨g, k * 2, Option.none⟩ = some (.int .i64 (symK k).1) ∧ w.cell? ⟨g, k * 2 + 1, Option.none⟩ = some (.bool (symK k).2) := by
  obtain ⟨_, ⟨hv, _⟩ | ⟨g', cap, cur, hv, hb, hg, hn, hc, hsz, hx⟩⟩ := h
  · cases hv
  · cases hv
    obtain ⟨s1, s2⟩ := symCells_at k hk
    rw [← hx] at s1 s2
    rw [List.getElem?_take] at s1 s2
    rw [if_pos (by omega)] at s1 s2
    rw [cell_of_block hg, cell_of_block hg]
    exact ⟨by simpa using s1, by simpa using s2⟩

theorem rowE_set {w : World} {g : Nat} {p : Addr} {v : Value} (hne : g ≠ p.block) (h : ∀ k : Nat, k < 8 → w.cell? ⟨g, k * 2, Option.none⟩ = some (.int .i64 (symK k).1)) :
    ∀ k : Nat, k < 8 → (w.setCell p v).cell? ⟨g, k * 2, Option.none⟩ = some (.int .i64 (symK k).1) := fun k hk => cSet hne (h k hk)
theorem rowO_set {w : World} {g : Nat} {p : Addr} {v : Value} (hne : g ≠ p.block) (h : ∀ k : Nat, k < 8 → w.cell? ⟨g, k * 2 + 1, Option.none⟩ = some (.bool (symK k).2)) :
    ∀ k : Nat, k < 8 → (w.setCell p v).cell? ⟨g, k * 2 + 1, Option.none⟩ = some (.bool (symK k).2) := fun k hk => cSet hne (h k hk)
theorem Row8.even {w : World} {g : Nat} (h : Row8 w g) : ∀ k : Nat, k < 8 → w.cell? ⟨g, k * 2, Option.none⟩ = some (.int .i64 (symK k).1) := fun k hk => (h.row k hk).1
theorem Row8.odd {w : World} {g : Nat} (h : Row8 w g) : ∀ k : Nat, k < 8 → w.cell? ⟨g, k * 2 + 1, Option.none⟩ = some (.bool (symK k).2) := fun k hk => (h.row k hk).2

set_option maxHeartbeats 4000000 in
theorem drawSyms_s (a : Option Addr) (len cap : Nat) (bs : List Int) (w : World) (hrow : ByteRow w w.heap.size a len bs) (hlen : len ≤ 4096) :
    Calls Try.prog 21 #[.slice a len cap] w fun e w' => ∃ i j k, SymsDrawn w e w' i j k := by
  have HR : Hid (ByteRow w w.heap.size a len bs) := hrow
  clear hrow
  go_enter Try.func21, Try.ntmps21
  go_wp2_with fail
  generalize hW : ((w.alloc (.cells #[.int .i64 0, .bool false] 25)).alloc (.cells #[.int .i64 0, .bool false] 25)).alloc (.cells #[.int .i64 0, .bool false] 25) = W
  have hWs : W.heap.size = w.heap.size + 3 := by rw [← hW]; simp
  have hWb : Below w.heap.size w W := by rw [← hW]; (repeat' (first | (with_reducible exact Below.refl _ _) | (with_reducible assumption) | (with_reducible refine Below.alloc ?_ ?_ _) | (with_reducible refine Below.drew ?_) | (with_reducible refine Below.setCell ?_ ?_ _) | (with_reducible refine Below.trans ?_ (Below.mono (by assumption) ?_)) | (with_reducible exact Nat.le_refl _) | omega | (simp only [World.size_alloc, World.size_setCell, World.size_drew]; omega) | (simp; omega) | (simp; done)))
  have R0 : Hid (Blk W w.heap.size #[.int .i64 0, .bool false] 25) := by rw [← hW]; exact ((Blk.new _ _ _).alloc).alloc
  have R1 : Hid (Blk W (w.heap.size + 1) #[.int .i64 0, .bool false] 25) := by rw [← hW]; exact (Blk.newAt (by simp)).alloc
  have R2 : Hid (Blk W (w.heap.size + 2) #[.int .i64 0, .bool false] 25) := by rw [← hW]; exact Blk.newAt (by simp)
  clear hW
  refine (l1New_s a len cap bs _ ((HR.out.of hWb).mono hWb.size) hlen).mono ?_
  rintro e w1 ⟨q, rfl, hql, hcur, hb1⟩
  have hqB := hcur.ge
  have C1 : Hid (Cur W.heap.size w1 q) := hcur
  have S1 := hb1.size
  have B1 : Hid (Below w.heap.size w w1) := Below.trans hWb (Below.mono hb1 (by omega))
  have Q0 : Hid (Blk w1 w.heap.size #[.int .i64 0, .bool false] 25) := Blk.belowAt hb1 R0.out
  have Q1 : Hid (Blk w1 (w.heap.size + 1) #[.int .i64 0, .bool false] 25) := Blk.belowAt hb1 R1.out
  have Q2 : Hid (Blk w1 (w.heap.size + 2) #[.int .i64 0, .bool false] 25) := Blk.belowAt hb1 R2.out
  clear hcur hb1 R0 R1 R2 hWb
  go_wp2_with fail
  refine (l1All_s _).mono ?_
  rintro e w2 ⟨g, gc, rfl, hown, hb2⟩
  have C0 : Hid (Cur W.heap.size w2 q) := C1.out.below hb2
  have R00 : Hid (Blk w2 (w.heap.size + 0) #[.int .i64 0, .bool false] 25) := Blk.belowAt hb2 Q0.out
  have R01 : Hid (Blk w2 (w.heap.size + 1) #[.int .i64 0, .bool false] 25) := Blk.belowAt hb2 Q1.out
  have R02 : Hid (Blk w2 (w.heap.size + 2) #[.int .i64 0, .bool false] 25) := Blk.belowAt hb2 Q2.out
  have hgl : w1.heap.size ≤ g := (hown.lt _ rfl).1
  have L0 : Hid (Row8 w2 g) := ⟨(hown.lt _ rfl).2, fun k hk => row_cells hown k hk⟩
  have B2 : Hid (Below w.heap.size w w2) := Below.trans B1.out (Below.mono hb2 (by omega))
  have hgq : g ≠ q := by omega
  have s2 := hb2.size
  have G0 : Hid (w2.grownBy w2 (some q)) := grownBy_refl _ _
  clear hb2 hown Q0 Q1 Q2 C1 B1 HR
  go_wp2_with fail
  have he := L0.out.even
  have ho := L0.out.odd
  go_region_held3 (fun wx => (∀ k : Nat, k < 8 → wx.cell? ⟨g, k * 2, Option.none⟩ = some (.int .i64 (symK k).1)) ∧ (∀ k : Nat, k < 8 → wx.cell? ⟨g, k * 2 + 1, Option.none⟩ = some (.bool (symK k).2)))
    (((repeat' apply And.intro) <;> first | (with_reducible assumption) | (with_reducible exact L3.out.even) | (with_reducible exact L3.out.odd) | (with_reducible exact L2.out.even) | (with_reducible exact L2.out.odd) | (with_reducible exact L1.out.even) | (with_reducible exact L1.out.odd) | (with_reducible exact L0.out.even) | (with_reducible exact L0.out.odd) | ((repeat ((with_reducible refine rowE_set ?_ ?_); (focus (dsimp only; omega)))); (with_reducible exact L3.out.even)) | ((repeat ((with_reducible refine rowO_set ?_ ?_); (focus (dsimp only; omega)))); (with_reducible exact L3.out.odd)) | exact Row8.even (Row8.drew L0.out) | exact Row8.odd (Row8.drew L0.out)))
    (first | (go_at_call 73; refine (l1Below_s W.heap.size q 8 w2.drew (show Cur W.heap.size w2.drew q from C0.out) (by omega) (by omega)).mono ?_; rintro e w4 ⟨x1, rfl, p1, r1, hc, hg⟩; obtain ⟨n1, rfl⟩ : ∃ n : Nat, x1 = n := ⟨x1.toNat, by omega⟩; have h1 : n1 < 8 := (by omega); have C1 : Hid (Cur W.heap.size w4 q) := hc; have G1 : Hid (w2.grownBy w4 (some q)) := grownBy_trans (show w2.grownBy w2.drew (some q) from grownBy_draws (n := 1) G0.out) hg; have L1 : Hid (Row8 w4 g) := (Row8.drew L0.out).grown hg hgq; have R10 : Hid (Blk w4 (w.heap.size + 0) #[.int .i64 0, .bool false] 25) := Blk.grown (show Blk w2.drew (w.heap.size + 0) #[.int .i64 0, .bool false] 25 from R00.out) hg (by omega); have R11 : Hid (Blk w4 (w.heap.size + 1) #[.int .i64 0, .bool false] 25) := Blk.grown (show Blk w2.drew (w.heap.size + 1) #[.int .i64 0, .bool false] 25 from R01.out) hg (by omega); have R12 : Hid (Blk w4 (w.heap.size + 2) #[.int .i64 0, .bool false] 25) := Blk.grown (show Blk w2.drew (w.heap.size + 2) #[.int .i64 0, .bool false] 25 from R02.out) hg (by omega); clear hc hg) | (go_at_call 73; refine (l1Below_s W.heap.size q 8 _ C1.out (by omega) (by omega)).mono ?_; rintro e w5 ⟨x2, rfl, p2, r2, hc, hg⟩; obtain ⟨n2, rfl⟩ : ∃ n : Nat, x2 = n := ⟨x2.toNat, by omega⟩; have h2 : n2 < 8 := (by omega); have C2 : Hid (Cur W.heap.size w5 q) := hc; have G2 : Hid (w2.grownBy w5 (some q)) := grownBy_trans G1.out hg; have L2 : Hid (Row8 w5 g) := L1.out.grown hg hgq; have R20 : Hid (Blk w5 (w.heap.size + 0) #[.int .i64 0, .bool false] 25) := Blk.grown R10.out hg (by omega); have R21 : Hid (Blk w5 (w.heap.size + 1) #[.int .i64 0, .bool false] 25) := Blk.grown R11.out hg (by omega); have R22 : Hid (Blk w5 (w.heap.size + 2) #[.int .i64 0, .bool false] 25) := Blk.grown R12.out hg (by omega); clear hc hg) | (go_at_call 73; refine (l1Below_s W.heap.size q 8 _ C2.out (by omega) (by omega)).mono ?_; rintro e w6 ⟨x3, rfl, p3, r3, hc, hg⟩; obtain ⟨n3, rfl⟩ : ∃ n : Nat, x3 = n := ⟨x3.toNat, by omega⟩; have h3 : n3 < 8 := (by omega); have C3 : Hid (Cur W.heap.size w6 q) := hc; have G3 : Hid (w2.grownBy w6 (some q)) := grownBy_trans G2.out hg; have L3 : Hid (Row8 w6 g) := L2.out.grown hg hgq; have R30 : Hid (Blk w6 (w.heap.size + 0) #[.int .i64 0, .bool false] 25) := Blk.grown R20.out hg (by omega); have R31 : Hid (Blk w6 (w.heap.size + 1) #[.int .i64 0, .bool false] 25) := Blk.grown R21.out hg (by omega); have R32 : Hid (Blk w6 (w.heap.size + 2) #[.int .i64 0, .bool false] 25) := Blk.grown R22.out hg (by omega); have a0 : w6.cell? ⟨w.heap.size, 0, Option.none⟩ = some (.int .i64 0) := R30.out.cell 0; have e0 : w6.cell? ⟨w.heap.size, 1, Option.none⟩ = some (.bool false) := R30.out.cell 1; have f0 : w6.frozen? ⟨w.heap.size, 0, Option.none⟩ = false := R30.out.free 0; have g0 : w6.frozen? ⟨w.heap.size, 1, Option.none⟩ = false := R30.out.free 1; have a1 : w6.cell? ⟨w.heap.size + 1, 0, Option.none⟩ = some (.int .i64 0) := R31.out.cell 0; have e1 : w6.cell? ⟨w.heap.size + 1, 1, Option.none⟩ = some (.bool false) := R31.out.cell 1; have f1 : w6.frozen? ⟨w.heap.size + 1, 0, Option.none⟩ = false := R31.out.free 0; have g1 : w6.frozen? ⟨w.heap.size + 1, 1, Option.none⟩ = false := R31.out.free 1; have a2 : w6.cell? ⟨w.heap.size + 1 + 1, 0, Option.none⟩ = some (.int .i64 0) := R32.out.cell 0; have e2 : w6.cell? ⟨w.heap.size + 1 + 1, 1, Option.none⟩ = some (.bool false) := R32.out.cell 1; have f2 : w6.frozen? ⟨w.heap.size + 1 + 1, 0, Option.none⟩ = false := R32.out.free 0; have g2 : w6.frozen? ⟨w.heap.size + 1 + 1, 1, Option.none⟩ = false := R32.out.free 1; clear hc hg))
  rename_i hHeld
  clear hHeld he ho a0 e0 f0 g0 a1 e1 f1 g1 a2 e2 f2 g2
  have BX : Hid (Below w.heap.size w w6) := Below.trans B2.out (below_of_grown G3.out (by omega) (by omega))
  generalize hX : (((((w6.setCell ⟨w.heap.size, 0, Option.none⟩ (.int .i64 (symK n1).1)).setCell ⟨w.heap.size, 1, Option.none⟩ (.bool (symK n1).2)).setCell ⟨w.heap.size + 1, 0, Option.none⟩ (.int .i64 (symK n2).1)).setCell ⟨w.heap.size + 1, 1, Option.none⟩ (.bool (symK n2).2)).setCell ⟨w.heap.size + 1 + 1, 0, Option.none⟩ (.int .i64 (symK n3).1)).setCell ⟨w.heap.size + 1 + 1, 1, Option.none⟩ (.bool (symK n3).2) = X
  have D0 : Blk X w.heap.size #[.int .i64 (symK n1).1, .bool (symK n1).2] 25 := by
    rw [← hX]
    exact (((((Blk.setAt (b := w.heap.size) rfl (Blk.setAt (b := w.heap.size) rfl R30.out rfl) rfl).other (by dsimp only; omega)).other (by dsimp only; omega)).other (by dsimp only; omega)).other (by dsimp only; omega))
  have D1 : Blk X (w.heap.size + 1) #[.int .i64 (symK n2).1, .bool (symK n2).2] 25 := by
    rw [← hX]
    exact ((Blk.setAt (b := w.heap.size + 1) rfl (Blk.setAt (b := w.heap.size + 1) rfl ((R31.out.other (by dsimp only; omega)).other (by dsimp only; omega)) rfl) rfl).other (by dsimp only; omega)).other (by dsimp only; omega)
  have D2 : Blk X (w.heap.size + 1 + 1) #[.int .i64 (symK n3).1, .bool (symK n3).2] 25 := by
    rw [← hX]
    exact Blk.setAt (b := w.heap.size + 1 + 1) rfl (Blk.setAt (b := w.heap.size + 1 + 1) rfl ((((R32.out.other (by dsimp only; omega)).other (by dsimp only; omega)).other (by dsimp only; omega)).other (by dsimp only; omega)) rfl) rfl
  have HB : Hid (Below w.heap.size w X) := by
    rw [← hX]
    exact (((((BX.out.setCell (Nat.le_refl _) _).setCell (Nat.le_refl _) _).setCell (by dsimp only; omega) _).setCell (by dsimp only; omega) _).setCell (by dsimp only; omega) _).setCell (by dsimp only; omega) _
  clear hX
  have c0 := Blk.cellAt (i := 0) D0 rfl
  have c1 := Blk.cellAt (i := 1) D0 rfl
  have c2 := Blk.cellAt (i := 0) D1 rfl
  have c3 := Blk.cellAt (i := 1) D1 rfl
  have c4 := Blk.cellAt (i := 0) D2 rfl
  have c5 := Blk.cellAt (i := 1) D2 rfl
  simp only [List.getElem_toArray, List.getElem_cons_zero, List.getElem_cons_succ] at c0 c1 c2 c3 c4 c5
  clear D0 D1 D2
  go_wp2
  exact bodyPost_ret (v := .tuple #[.agg #[.int .i64 (symK n1).1, .bool (symK n1).2], .agg #[.int .i64 (symK n2).1, .bool (symK n2).2], .agg #[.int .i64 (symK n3).1, .bool (symK n3).2]]) (by simp [results, Try.results21, go_sem, c0, c1, c2, c3, c4, c5]) rfl ⟨n1, n2, n3, rfl, h1, h2, h3, HB.out⟩
end Go.Proofs.Ytlnikapkheldeaa

/-
  Colours as they lie in memory.
-/
namespace Go.Proofs.Ytlnikapkheldeaa
open Go.ChangeShapes Go.WideShapes Go.ChangeAt Go.RowKit Go.Joins
set_option linter.unusedSimpArgs false
set_option linter.unusedVariables false
set_option maxRecDepth 100000
attribute [local go_sem] store_f

/-- Light: a colour of parts. -/
structure Lit where
  r : Nat
  g : Nat
  b : Nat
instance : Inhabited Lit := ⟨⟨0, 0, 0⟩⟩
structure Lit.Ok (c : Lit) : Prop where
  r : c.r ≤ 1065353216
  g : c.g ≤ 1065353216
  b : c.b ≤ 1065353216
def Lit.cells (c : Lit) : List Value := [.float .f32 c.r, .float .f32 c.g, .float .f32 c.b]
def litCells (l : List Lit) : List Value := l.flatMap Lit.cells
theorem litCells_len (l : List Lit) : (litCells l).length = l.length * 3 := by
  induction l with
  | nil => rfl
  | cons p l ih => simp [litCells, Lit.cells] at ih ⊢; omega
theorem litCells_snoc (l : List Lit) (s : Lit) : litCells (l ++ [s]) = litCells l ++ s.cells := by simp [litCells]

/-- The cells of a list of colours, from a place of a block on. -/
def LitRow (W : World) (b off : Nat) (l : List Lit) : Prop :=
  ∀ k, k < l.length → W.cell? ⟨b, (off + k * 3), Option.none⟩ = some (.float .f32 (l.getD k default).r) ∧ W.cell? ⟨b, (off + k * 3) + 1, Option.none⟩ = some (.float .f32 (l.getD k default).g) ∧ W.cell? ⟨b, (off + k * 3) + 2, Option.none⟩ = some (.float .f32 (l.getD k default).b)
/-- A list of colours as a slice shows it. -/
def LitsAt (W : World) (a : Option Addr) (l : List Lit) : Prop :=
  l = [] ∨ ∃ b off, a = some ⟨b, off, Option.none⟩ ∧ LitRow W b off l

theorem LitRow.below {W w1 : World} {b off : Nat} {l : List Lit} (h : LitRow W b off l) (hb : Below W.heap.size W w1) : LitRow w1 b off l := fun k hk => by
  obtain ⟨h0, h1, h2⟩ := h k hk
  exact ⟨cBelow hb h0, cBelow hb h1, cBelow hb h2⟩
theorem LitRow.grown {W w1 : World} {b off : Nat} {l : List Lit} {r : Option Nat} (h : LitRow W b off l) (hg : W.grownBy w1 r) (hne : r ≠ some b) : LitRow w1 b off l := fun k hk => by
  obtain ⟨h0, h1, h2⟩ := h k hk
  have hl := cell_lt h0
  have e : ∀ i, w1.cell? ⟨b, i, Option.none⟩ = W.cell? ⟨b, i, Option.none⟩ := fun i => World.cell?_of_block (hg.block b hl (fun e => hne e.symm))
  rw [e, e, e]
  exact ⟨h0, h1, h2⟩
theorem LitRow.set {W : World} {b off : Nat} {a : Addr} {v : Value} {l : List Lit} (h : LitRow W b off l) (hne : b ≠ a.block) : LitRow (W.setCell a v) b off l := fun k hk => by
  obtain ⟨h0, h1, h2⟩ := h k hk
  exact ⟨cSet hne h0, cSet hne h1, cSet hne h2⟩
theorem LitRow.alloc {W : World} {b off : Nat} {o : Obj} {l : List Lit} (h : LitRow W b off l) : LitRow (W.alloc o) b off l := fun k hk => by
  obtain ⟨h0, h1, h2⟩ := h k hk
  exact ⟨cAlloc h0, cAlloc h1, cAlloc h2⟩
theorem LitRow.drew {W : World} {b off : Nat} {l : List Lit} (h : LitRow W b off l) : LitRow W.drew b off l := h
theorem LitsAt.below {W w1 : World} {a : Option Addr} {l : List Lit} (h : LitsAt W a l) (hb : Below W.heap.size W w1) : LitsAt w1 a l := by
  rcases h with h | ⟨b, off, e, h⟩
  · exact .inl h
  · exact .inr ⟨b, off, e, h.below hb⟩
theorem LitsAt.alloc {W : World} {a : Option Addr} {o : Obj} {l : List Lit} (h : LitsAt W a l) : LitsAt (W.alloc o) a l := by
  rcases h with h | ⟨b, off, e, h⟩
  · exact .inl h
  · exact .inr ⟨b, off, e, h.alloc⟩
theorem LitsAt.drew {W : World} {a : Option Addr} {l : List Lit} (h : LitsAt W a l) : LitsAt W.drew a l := h

theorem litCells_get : ∀ (l : List Lit) (k : Nat), k < l.length → ∀ j, j < 3 → (litCells l)[k * 3 + j]? = (l.getD k default).cells[j]?
  | p :: l, 0, _, j, hj => by
    have e : litCells (p :: l) = p.cells ++ litCells l := rfl
    rw [e, Nat.zero_mul, Nat.zero_add, List.getElem?_append_left (by simp [Lit.cells]; omega)]
    rfl
  | p :: l, k + 1, h, j, hj => by
    have ih := litCells_get l k (by simpa using h) j hj
    have e : litCells (p :: l) = p.cells ++ litCells l := rfl
    have hl : p.cells.length = 3 := rfl
    rw [e, List.getElem?_append_right (by omega), hl, show (k + 1) * 3 + j - 3 = k * 3 + j by omega, ih]
    rfl
theorem litRow_of {W : World} {base g n cap : Nat} {l : List Lit} (h : W.ownsRow base 49 3 (.slice (some ⟨g, 0, Option.none⟩) n cap) n (litCells l)) (hn : l.length = n) : LitRow W g 0 l := fun k hk => by
  have hg := litCells_get l k hk
  simp only [Nat.zero_add]
  rw [h.cellAt _ (by omega), h.cellAt _ (by omega), h.cellAt _ (by omega)]
  exact ⟨hg 0 (by omega), hg 1 (by omega), hg 2 (by omega)⟩
theorem infoC : (Try.prog.info? 49).map (fun i => (i.zero, i.size, i.bytes)) = some (some (.agg #[.float .f32 0, .float .f32 0, .float .f32 0]), 3, 12) := by kernel_rfl
end Go.Proofs.Ytlnikapkheldeaa

/-
  Images of images: one symmetry behind another, and the way back, on the parts of a point.
-/
namespace Go.Proofs.Ytlnikapkheldeaa
open Go.ChangeShapes Go.WideShapes Go.ChangeAt Go.RowKit Go.Joins
set_option linter.unusedSimpArgs false
set_option linter.unusedVariables false
set_option maxRecDepth 100000
attribute [local go_sem] store_f
open Ieee

theorem clean_clean {x : Nat} (h : Fin32 x) (hx : x < 4294967296) : cleanB (cleanB x) = cleanB x := by
  have c := cl_clean h hx
  rw [clean_eq c.fin]
  by_cases h0 : rungOf F32 (cleanB x) = 0
  · rw [if_pos h0, c.zero h0]
  · rw [if_neg h0]
theorem cl_clean_eq {x : Nat} (h : Cl x) : cleanB x = x := by
  rw [clean_eq h.fin]
  by_cases h0 : rungOf F32 x = 0
  · rw [if_pos h0, h.zero h0]
  · rw [if_neg h0]
theorem ng_clean {x : Nat} (h : Fin32 x) : ngB (cleanB x) = ngB x := by
  rw [clean_eq h]
  by_cases h0 : rungOf F32 x = 0
  · rw [if_pos h0]
    unfold ngB
    rw [if_pos h0, if_pos (rung_of_lt (by omega))]
  · rw [if_neg h0]

/-- The image of an image is the image by the one behind the other. -/
theorem act_then (t u : Nat) (f g : Bool) {x y : Nat} (ht : t < 4) (hu : u < 4) (hx : Cl x) (hy : Cl y) :
    actV u g (actV t f x (ngB x) y (ngB y)).1 (ngB (actV t f x (ngB x) y (ngB y)).1) (actV t f x (ngB x) y (ngB y)).2 (ngB (actV t f x (ngB x) y (ngB y)).2) =
      actV (thenT t u g).toNat (thenF t u f g) x (ngB x) y (ngB y) := by
  have ex := ng_ng hx
  have ey := ng_ng hy
  rcases (by omega : t = 0 ∨ t = 1 ∨ t = 2 ∨ t = 3) with rfl | rfl | rfl | rfl <;>
  rcases (by omega : u = 0 ∨ u = 1 ∨ u = 2 ∨ u = 3) with rfl | rfl | rfl | rfl <;>
  cases f <;> cases g <;> simp [actV, thenT, thenF, isSymB, ex, ey]

/-- The way back. -/
theorem act_back (t : Nat) (f : Bool) {x y : Nat} (ht : t < 4) (hx : Cl x) (hy : Cl y) :
    actV (backT t f).toNat (backF t f) (actV t f x (ngB x) y (ngB y)).1 (ngB (actV t f x (ngB x) y (ngB y)).1) (actV t f x (ngB x) y (ngB y)).2 (ngB (actV t f x (ngB x) y (ngB y)).2) = (x, y) := by
  have ex := ng_ng hx
  have ey := ng_ng hy
  rcases (by omega : t = 0 ∨ t = 1 ∨ t = 2 ∨ t = 3) with rfl | rfl | rfl | rfl <;>
  cases f <;> simp [actV, backT, backF, isSymB, ex, ey]

/-- The images of parts in reach are parts in reach. -/
theorem act_cl (t : Nat) (f : Bool) {x y : Nat} (hx : Cl x) (hy : Cl y) : Cl (actV t f x (ngB x) y (ngB y)).1 ∧ Cl (actV t f x (ngB x) y (ngB y)).2 := by
  have nx := cl_ng hx.fin
  have ny := cl_ng hy.fin
  unfold actV
  split <;> exact ⟨by assumption, by assumption⟩
end Go.Proofs.Ytlnikapkheldeaa

/-
  All that the law of products calls, for three symmetries and a point in reach.
-/
namespace Go.Proofs.Ytlnikapkheldeaa
open Go.ChangeShapes Go.WideShapes Go.ChangeAt Go.RowKit Go.Joins
set_option linter.unusedSimpArgs false
set_option linter.unusedVariables false
set_option maxRecDepth 100000
attribute [local go_sem] store_f
open Ieee

/-- A symmetry held against itself, field by field. -/
theorem run_eq_sym (t : Int) (f : Bool) (w : World) :
    (Op.equalIn 10000 25 (.agg #[.int .i64 t, .bool f]) (.agg #[.int .i64 t, .bool f])).run Try.prog w = .ok true w := by
  have u := Try.underlying3
  have u2 := Try.underlying4
  have a24 := Try.isAgg3
  have z24 := Try.sizeOf3
  have a25 := Try.isAgg4
  have z25 := Try.sizeOf4
  have hS : Try.prog.underlying 25 = some (.struct (Try.prog.fieldsOf 25)) := by kernel_rfl
  have hp : Try.prog.stoodInHeld 25 = false := by kernel_rfl
  rw [show (10000 : Nat) = 9999 + 1 from rfl, run_equalIn_agg w 9999 25 _ _ hS hp]
  simp only [Program.fieldsOf, Try.underlying25]
  go_simp

theorem ok_clean {x : Nat} (h : okB x = true) : okB (cleanB x) = true := by
  rw [clean_eq (ok_fin h)]
  split
  · exact ok_zero
  · exact h
theorem ok_ng {x : Nat} (h : okB x = true) : okB (ngB x) = true := by
  have hr := ok_rung h
  unfold ngB
  split
  · exact ok_zero
  · have e : F32.word (!negOf F32 x) (rungOf F32 x) = (if (!negOf F32 x) then 2147483648 else 0) + rungOf F32 x := by
      unfold Format.word; rw [F32_sw]; cases negOf F32 x <;> simp
    rw [e]
    simp only [okB, Bool.and_eq_true, decide_eq_true_eq]
    split <;> omega
/-- Parts of images: of 32 bits, finite, no -0, in reach. -/
structure Pt (x : Nat) : Prop where
  cl : Cl x
  ok : okB x = true
theorem pt_clean {x : Nat} (h : okB x = true) : Pt (cleanB x) := ⟨cl_clean (ok_fin h) (ok_lt h), ok_clean h⟩
theorem pt_ng {x : Nat} (h : okB x = true) : Pt (ngB x) := ⟨cl_ng (ok_fin h), ok_ng h⟩
theorem act_pt (t : Nat) (f : Bool) {x y : Nat} (hx : Pt x) (hy : Pt y) : Pt (actV t f x (ngB x) y (ngB y)).1 ∧ Pt (actV t f x (ngB x) y (ngB y)).2 := by
  have nx := pt_ng hx.ok
  have ny := pt_ng hy.ok
  unfold actV
  split <;> exact ⟨by assumption, by assumption⟩

structure ThenM (t : Int) (f : Bool) (u : Int) (g : Bool) (p : Int) (a : Bool) : Prop where
  call : ∀ w : World, Calls Try.prog 25 #[.agg #[.int .i64 t, .bool f], .agg #[.int .i64 u, .bool g]] w fun e w' => e = .returned (.agg #[.int .i64 p, .bool a]) ∧ Below w.heap.size w w'
structure BackM (t : Int) (f : Bool) (p : Int) (a : Bool) : Prop where
  call : ∀ w : World, Calls Try.prog 26 #[.agg #[.int .i64 t, .bool f]] w fun e w' => e = .returned (.agg #[.int .i64 p, .bool a]) ∧ Below w.heap.size w w'
structure ActM (t : Int) (f : Bool) (x y p q : Nat) : Prop where
  call : ∀ w : World, Calls Try.prog 24 #[.agg #[.int .i64 t, .bool f], .complex .f32 x y] w fun e w' => e = .returned (.complex .f32 p q) ∧ Below w.heap.size w w'

theorem act_of {t : Nat} (f : Bool) {x y : Nat} (ht : t < 4) (hx : okB x = true) (hy : okB y = true) :
    ActM t f x y (actV t f (cleanB x) (ngB (cleanB x)) (cleanB y) (ngB (cleanB y))).1 (actV t f (cleanB x) (ngB (cleanB x)) (cleanB y) (ngB (cleanB y))).2 := by
  rw [ng_clean (ok_fin hx), ng_clean (ok_fin hy)]
  exact ⟨fun w => actSym_i t f x y _ _ _ _ w ht (ok_in hx) (ok_in hy) (parts_of (ok_fin hx) (ok_lt hx)) (parts_of (ok_fin hy) (ok_lt hy))⟩
theorem act_of_pt {t : Nat} (f : Bool) {x y : Nat} (ht : t < 4) (hx : Pt x) (hy : Pt y) :
    ActM t f x y (actV t f x (ngB x) y (ngB y)).1 (actV t f x (ngB x) y (ngB y)).2 := by
  have h := act_of f ht hx.ok hy.ok
  rwa [cl_clean_eq hx.cl, cl_clean_eq hy.cl] at h

theorem order_self {x : Nat} (h : Fin32 x) : (FloatKind.f32.format.order x x == some .eq) = true := by
  show (F32.order x x == some .eq) = true
  rw [order_fin F32 h h, cmp_eq]; simp
theorem order_clean {x : Nat} (h : okB x = true) : (FloatKind.f32.format.order (cleanB x) x == some .eq) = true := by
  show (F32.order (cleanB x) x == some .eq) = true
  rw [order_fin F32 (cl_clean (ok_fin h) (ok_lt h)).fin (ok_fin h), cmp_eq]
  rw [clean_eq (ok_fin h)]
  by_cases h0 : rungOf F32 x = 0
  · rw [if_pos h0, val_zero, val_eq_zero.2 h0]; rfl
  · rw [if_neg h0]; simp

theorem then_assoc : ∀ (t u v : Fin 4) (f g h : Bool), thenT (t.val : Int) (thenT (u.val : Int) (v.val : Int) h) (thenF u.val v.val g h) = thenT (thenT (t.val : Int) (u.val : Int) g) (v.val : Int) h ∧ thenF (t.val : Int) (thenT (u.val : Int) (v.val : Int) h) f (thenF u.val v.val g h) = thenF (thenT (t.val : Int) (u.val : Int) g) (v.val : Int) (thenF t.val u.val f g) h := by decide +kernel
theorem then_back : ∀ (t : Fin 4) (f : Bool), thenT (t.val : Int) (backT t.val f) (backF t.val f) = 0 ∧ thenF t.val (backT t.val f) f (backF t.val f) = false ∧ thenT (backT t.val f) (t.val : Int) f = 0 ∧ thenF (backT t.val f) t.val (backF t.val f) f = false ∧ thenT 0 (t.val : Int) f = t.val ∧ thenF 0 (t.val : Int) false f = f := by decide +kernel
theorem then_in : ∀ (t u : Fin 4) (f : Bool), thenT (t.val : Int) (u.val : Int) f = ((thenT (t.val : Int) (u.val : Int) f).toNat : Int) ∧ (thenT (t.val : Int) (u.val : Int) f).toNat < 4 := by decide +kernel
theorem back_in : ∀ (t : Fin 4) (f : Bool), backT (t.val : Int) f = ((backT (t.val : Int) f).toNat : Int) ∧ (backT (t.val : Int) f).toNat < 4 := by decide +kernel

/-- All that the law's calls give. -/
structure Prods (t u v : Int) (f g h : Bool) (x y : Nat) (p r s b : Int) (a c d e : Bool) (x1 y1 x2 y2 x3 y3 : Nat) : Prop where
  tu : ThenM t f u g p a
  tuv : ThenM p a v h r c
  uv : ThenM u g v h s d
  tuv' : ThenM t f s d r c
  bk : BackM t f b e
  tb : ThenM t f b e 0 false
  bt : ThenM b e t f 0 false
  zt : ThenM 0 false t f t f
  a1 : ActM t f x y x1 y1
  a2 : ActM u g x1 y1 x2 y2
  a3 : ActM p a x y x2 y2
  a4 : ActM b e x1 y1 x3 y3
  e1 : (FloatKind.f32.format.order x2 x2 == some .eq) = true
  e2 : (FloatKind.f32.format.order y2 y2 == some .eq) = true
  e3 : (FloatKind.f32.format.order x3 x == some .eq) = true
  e4 : (FloatKind.f32.format.order y3 y == some .eq) = true

theorem prods_of {t u v : Nat} (f g h : Bool) {x y : Nat} (ht : t < 4) (hu : u < 4) (hv : v < 4) (hx : okB x = true) (hy : okB y = true) :
    ∃ p r s b a c d e x1 y1 x2 y2 x3 y3, Prods t u v f g h x y p r s b a c d e x1 y1 x2 y2 x3 y3 := by
  have hA := then_assoc ⟨t, ht⟩ ⟨u, hu⟩ ⟨v, hv⟩ f g h
  have hB := then_back ⟨t, ht⟩ f
  have hI := then_in ⟨t, ht⟩ ⟨u, hu⟩ g
  have hJ := back_in ⟨t, ht⟩ f
  dsimp only at hA hB hI hJ
  obtain ⟨b1, b2, b3, b4, b5, b6⟩ := hB
  have px := pt_clean hx
  have py := pt_clean hy
  obtain ⟨q1, q2⟩ := act_pt t f px py
  have k1 := act_then t u f g ht hu px.cl py.cl
  have k2 := act_back t f ht px.cl py.cl
  have A1 := act_of f ht hx hy
  have A2 := act_of_pt g hu q1 q2
  have A3 := act_of (thenF t u f g) hI.2 hx hy
  have A4 := act_of_pt (backF t f) hJ.2 q1 q2
  rw [← hI.1, ← k1] at A3
  rw [← hJ.1, k2] at A4
  obtain ⟨r1, r2⟩ := act_pt u g q1 q2
  refine ⟨_, _, _, _, _, _, _, _, _, _, _, _, _, _, ⟨⟨fun w => thenSym_i t u f g w⟩, ⟨fun w => thenSym_i _ v _ h w⟩, ⟨fun w => thenSym_i u v g h w⟩, ⟨fun w => ?_⟩, ⟨fun w => backSym_i t f w⟩, ⟨fun w => ?_⟩, ⟨fun w => ?_⟩, ⟨fun w => ?_⟩, A1, A2, A3, A4, order_self r1.cl.fin, order_self r2.cl.fin, order_clean hx, order_clean hy⟩⟩
  · have H := thenSym_i t (thenT u v h) f (thenF u v g h) w
    rw [hA.1, hA.2] at H
    exact H
  · have H := thenSym_i t (backT t f) f (backF t f) w
    rw [b1, b2] at H
    exact H
  · have H := thenSym_i (backT t f) t (backF t f) f w
    rw [b3, b4] at H
    exact H
  · have H := thenSym_i 0 t false f w
    rw [b5, b6] at H
    exact H
end Go.Proofs.Ytlnikapkheldeaa

/-
  Places of cells as whole numbers, and as singles; the cells to which symmetries take cells.
-/
namespace Go.Proofs.Ytlnikapkheldeaa
open Go.ChangeShapes Go.WideShapes Go.ChangeAt Go.RowKit Go.Joins
set_option linter.unusedSimpArgs false
set_option linter.unusedVariables false
set_option maxRecDepth 100000
attribute [local go_sem] store_f
open Ieee

/-- A whole number as a single. -/
def iw (z : Int) : Nat := floatOfInt .f32 z
theorem iw_all : ∀ m : Nat, m < 15 → okB (iw ((m : Int) - 7)) = true ∧ cleanB (iw ((m : Int) - 7)) = iw ((m : Int) - 7) ∧ ngB (iw ((m : Int) - 7)) = iw (7 - (m : Int)) ∧ floatToIntVal .f32 (iw ((m : Int) - 7)) .i64 = some ((m : Int) - 7) := by decide +kernel
theorem iw_of {z : Int} (h1 : -7 ≤ z) (h2 : z ≤ 7) : okB (iw z) = true ∧ cleanB (iw z) = iw z ∧ ngB (iw z) = iw (-z) ∧ floatToIntVal .f32 (iw z) .i64 = some z := by
  have h := iw_all (z + 7).toNat (by omega)
  have e : (((z + 7).toNat : Nat) : Int) - 7 = z := by omega
  have e2 : 7 - (((z + 7).toNat : Nat) : Int) = -z := by omega
  rw [e, e2] at h
  exact h

/-- What a symmetry makes of whole numbers. -/
def actN : Nat → Bool → Int → Int → Int × Int
  | 0, false, x, y => (x, y)
  | 0, true, x, y => (x, -y)
  | 1, false, x, y => (-y, x)
  | 1, true, x, y => (y, x)
  | 2, false, x, y => (-x, -y)
  | 2, true, x, y => (-x, y)
  | _, false, x, y => (y, -x)
  | _, true, x, y => (-y, -x)

/-- The place of a cell. -/
def plX (n k : Nat) : Int := 2 * (k % n : Nat) + 1 - n
def plY (n k : Nat) : Int := n - 1 - 2 * (k / n : Nat)
/-- The cell at a place. -/
def cellOf (n : Nat) (x y : Int) : Nat := (((n : Int) - 1 - y) / 2).toNat * n + ((x + n - 1) / 2).toNat
/-- The cell to which a symmetry takes a cell. -/
def cellN (n t : Nat) (f : Bool) (k : Nat) : Nat := cellOf n (actN t f (plX n k) (plY n k)).1 (actN t f (plX n k) (plY n k)).2

theorem act_bd (t : Nat) (f : Bool) {x y b : Int} (hx : -b ≤ x ∧ x ≤ b) (hy : -b ≤ y ∧ y ≤ b) : (-b ≤ (actN t f x y).1 ∧ (actN t f x y).1 ≤ b) ∧ (-b ≤ (actN t f x y).2 ∧ (actN t f x y).2 ≤ b) := by
  unfold actN
  split <;> dsimp only <;> omega
theorem pl_bd {n k : Nat} (h1 : 1 ≤ n) (hk : k < n * n) : (-((n : Int) - 1) ≤ plX n k ∧ plX n k ≤ (n : Int) - 1) ∧ (-((n : Int) - 1) ≤ plY n k ∧ plY n k ≤ (n : Int) - 1) := by
  have a := Nat.mod_lt k (show 0 < n by omega)
  have b : k / n < n := (Nat.div_lt_iff_lt_mul (by omega)).2 hk
  unfold plX plY
  generalize k % n = u at *
  generalize k / n = v at *
  omega
/-- All that is finite about cells: in bounds; places; one symmetry behind another; the way back. -/
def cellFacts (n t : Nat) (f : Bool) (k : Nat) : Bool :=
  let c := cellN n t f k
  decide (c < n * n) && decide (plX n c = (actN t f (plX n k) (plY n k)).1) && decide (plY n c = (actN t f (plX n k) (plY n k)).2) && decide (cellN n 0 false k = k)
def cellsAll : Bool := (List.range 9).all fun n => (List.range (n * n)).all fun k => (List.range 4).all fun t => cellFacts n t false k && cellFacts n t true k
theorem cells_all : cellsAll = true := by decide +kernel
theorem cell_facts {n k t : Nat} {f : Bool} (h8 : n ≤ 8) (hk : k < n * n) (ht : t < 4) : cellFacts n t f k = true := by
  have h := cells_all
  unfold cellsAll at h
  have h2 := List.all_eq_true.1 h n (List.mem_range.2 (by omega))
  have h3 := List.all_eq_true.1 h2 k (List.mem_range.2 hk)
  have h4 := List.all_eq_true.1 h3 t (List.mem_range.2 ht)
  rw [Bool.and_eq_true] at h4
  cases f
  · exact h4.1
  · exact h4.2
theorem cell_lt' {n k t : Nat} {f : Bool} (h8 : n ≤ 8) (hk : k < n * n) (ht : t < 4) : cellN n t f k < n * n := by
  have h := cell_facts (f := f) h8 hk ht
  simp only [cellFacts, Bool.and_eq_true, decide_eq_true_eq] at h
  exact h.1.1.1
theorem cell_place {n k t : Nat} {f : Bool} (h8 : n ≤ 8) (hk : k < n * n) (ht : t < 4) : plX n (cellN n t f k) = (actN t f (plX n k) (plY n k)).1 ∧ plY n (cellN n t f k) = (actN t f (plX n k) (plY n k)).2 := by
  have h := cell_facts (f := f) h8 hk ht
  simp only [cellFacts, Bool.and_eq_true, decide_eq_true_eq] at h
  exact ⟨h.1.1.2, h.1.2⟩
theorem cell_none {n k : Nat} (h8 : n ≤ 8) (hk : k < n * n) : cellN n 0 false k = k := by
  have h := cell_facts (f := false) h8 hk (show 0 < 4 by omega)
  simp only [cellFacts, Bool.and_eq_true, decide_eq_true_eq] at h
  exact h.2
theorem actN_then (t u : Nat) (f g : Bool) (ht : t < 4) (hu : u < 4) (x y : Int) : actN u g (actN t f x y).1 (actN t f x y).2 = actN (thenT t u g).toNat (thenF t u f g) x y := by
  rcases (by omega : t = 0 ∨ t = 1 ∨ t = 2 ∨ t = 3) with rfl | rfl | rfl | rfl <;>
  rcases (by omega : u = 0 ∨ u = 1 ∨ u = 2 ∨ u = 3) with rfl | rfl | rfl | rfl <;>
  cases f <;> cases g <;> simp [actN, thenT, thenF, isSymB]
theorem actN_back (t : Nat) (f : Bool) (ht : t < 4) (x y : Int) : actN (backT t f).toNat (backF t f) (actN t f x y).1 (actN t f x y).2 = (x, y) := by
  rcases (by omega : t = 0 ∨ t = 1 ∨ t = 2 ∨ t = 3) with rfl | rfl | rfl | rfl <;>
  cases f <;> simp [actN, backT, backF, isSymB]
theorem cell_then {n k t u : Nat} {f g : Bool} (h8 : n ≤ 8) (hk : k < n * n) (ht : t < 4) (hu : u < 4) : cellN n u g (cellN n t f k) = cellN n (thenT t u g).toNat (thenF t u f g) k := by
  obtain ⟨e1, e2⟩ := cell_place (f := f) h8 hk ht
  show cellOf n (actN u g (plX n (cellN n t f k)) (plY n (cellN n t f k))).1 (actN u g (plX n (cellN n t f k)) (plY n (cellN n t f k))).2 = _
  rw [e1, e2, actN_then t u f g ht hu]
  rfl
theorem cell_back {n k t : Nat} {f : Bool} (h8 : n ≤ 8) (hk : k < n * n) (ht : t < 4) : cellN n (backT t f).toNat (backF t f) (cellN n t f k) = k := by
  obtain ⟨e1, e2⟩ := cell_place (f := f) h8 hk ht
  show cellOf n (actN _ _ (plX n (cellN n t f k)) (plY n (cellN n t f k))).1 (actN _ _ (plX n (cellN n t f k)) (plY n (cellN n t f k))).2 = _
  rw [e1, e2, actN_back t f ht]
  exact cell_none h8 hk

/-- ActSym at the place of a cell. -/
theorem act_place {n k t : Nat} (f : Bool) (h1 : 1 ≤ n) (h8 : n ≤ 8) (hk : k < n * n) (ht : t < 4) :
    ActM t f (iw (plX n k)) (iw (plY n k)) (iw (plX n (cellN n t f k))) (iw (plY n (cellN n t f k))) := by
  obtain ⟨bx, b_y⟩ := pl_bd h1 hk
  obtain ⟨e1, e2⟩ := cell_place (f := f) h8 hk ht
  obtain ⟨o1, c1, n1, _⟩ := iw_of (z := plX n k) (by omega) (by omega)
  obtain ⟨o2, c2, n2, _⟩ := iw_of (z := plY n k) (by omega) (by omega)
  have A := act_of f ht o1 o2
  rw [c1, c2, n1, n2] at A
  have e : actV t f (iw (plX n k)) (iw (-plX n k)) (iw (plY n k)) (iw (-plY n k)) = (iw (actN t f (plX n k) (plY n k)).1, iw (actN t f (plX n k) (plY n k)).2) := by
    rcases (by omega : t = 0 ∨ t = 1 ∨ t = 2 ∨ t = 3) with rfl | rfl | rfl | rfl <;> cases f <;> rfl
  rw [e] at A
  rw [e1, e2]
  exact A
end Go.Proofs.Ytlnikapkheldeaa
