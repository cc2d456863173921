/-
  The draw of a symmetry.
-/
import Derived.Test.YticknelhfeeejaaDoorYone
import Derived.Test.YticknelhfeeejaaDoorTfour
namespace Go.Proofs.YticknelhfeeejaaDoor
open Go.ChangeShapes Go.WideShapes Go.ChangeAt Go.RowKit Go.Joins 
set_option linter.unusedSimpArgs false
set_option linter.unusedVariables false
set_option maxRecDepth 100000

theorem Cur.set {B q : Nat} {W : World} {a : Addr} {v : Value} (h : Cur B W q) (ha : q < a.block) : Cur B (W.setCell a v) q := by
  obtain ⟨s, len, cap, bs, i, hh, h1, h2, h3, h4, h5⟩ := h
  exact ⟨s, len, cap, bs, i, hh, h1.other (by omega), h2, h3, h4.of (by refine Below.setCell (Below.refl _ _) ?_ _; omega), h5⟩

set_option maxHeartbeats 2000000 in
theorem l1Sym_s (B q : Nat) (w : World) (hcur : Cur B w q) :
    Calls Tryd.prog 14 #[.pointer (some ⟨q, 0, Option.none⟩)] w fun e w' => ∃ t f, SymDrawn B q w e w' t f := by
  have HC : Hid (Cur B w q) := hcur
  have hq := hcur.lt
  clear hcur
  go_enter Tryd.func14, Tryd.ntmps14
  go_wp2_with fail
  refine (l1Below_s B q 4 _ HC.out.alloc (by omega) (by omega)).mono ?_
  rintro e w1 ⟨x, rfl, hx0, hx1, hc1, hg1⟩
  have HC1 : Hid (Cur B w1 q) := hc1
  have G1 : Hid (w.grownBy w1 (some q)) := grownBy_trans (grown_alloc (grownBy_refl _ _) _) hg1
  have R1 : Hid (Blk w1 w.heap.size #[.int .i64 0, .bool false] 25) := (Blk.new _ _ _).grown hg1 (by omega)
  have s1 := G1.out.size
  clear hc1 hg1
  go_wp2_with fail
  refine (l1Once_s B q 2 _ HC1.out (by omega) (by omega)).mono ?_
  rintro e w2 ⟨f, ⟨rfl, hc2, hg2⟩⟩
  have HC2 : Hid (Cur B w2 q) := hc2
  have G2 : Hid (w.grownBy w2 (some q)) := grownBy_trans G1.out hg2
  have R2 : Hid (Blk w2 w.heap.size #[.int .i64 0, .bool false] 25) := R1.out.grown hg2 (by omega)
  have s2 := G2.out.size
  clear hc2 hg2
  go_wp2_with fail
  refine (l1Once_s B q 14 _ HC2.out.alloc (by omega) (by omega)).mono ?_
  rintro e w3 ⟨b, ⟨rfl, hc3, hg3⟩⟩
  have HC3 : Hid (Cur B w3 q) := hc3
  have hq2 := HC2.out.lt
  have G3 : Hid (w.grownBy w3 (some q)) := grownBy_trans (grown_alloc G2.out _) hg3
  have R3 : Hid (Blk w3 w.heap.size #[.int .i64 0, .bool false] 25) := Blk.grown (Blk.alloc R2.out) hg3 (by omega)
  have X3 : Hid (Blk w3 w2.heap.size #[.int .i64 x, .bool f] 25) := (Blk.new _ _ _).grown hg3 (by omega)
  have s3 := G3.out.size
  have lr := R2.out.lt
  clear hc3 hg3
  cases b
  · have HR := R3.out
    have HX := X3.out
    have c0 := Blk.cellAt (i := 0) HX rfl
    have c1 := Blk.cellAt (i := 1) HX rfl
    have g0 := Blk.freeAt (i := 0) HR
    have g1 := Blk.freeAt (i := 1) HR
    have d0 := Blk.cellAt (i := 0) HR rfl
    have d1 := Blk.cellAt (i := 1) HR rfl
    have l1 := HR.lt
    have l2 := HX.lt
    simp only [List.getElem_toArray, List.getElem_cons_zero, List.getElem_cons_succ] at c0 c1 d0 d1
    clear HR HX
    go_wp2
    have e0 := (R3.out.set (i := 0) (v := .int .i64 x)).cell 0
    have e1 := ((R3.out.set (i := 0) (v := .int .i64 x)).set (i := 1) (v := .bool f)).cell 1
    simp only [List.setIfInBounds_toArray, List.set_cons_zero, List.set_cons_succ, List.getElem?_toArray, List.getElem?_cons_zero, List.getElem?_cons_succ] at e0 e1
    exact bodyPost_ret (v := .agg #[.int .i64 x, .bool f]) (by simp [results, Tryd.results14, go_sem, e0, e1]) rfl ⟨x, f, rfl, Cur.set (Cur.set HC3.out (by dsimp only; omega)) (by dsimp only; omega), grown_setNew (grown_setNew G3.out (by dsimp only; omega) _) (by dsimp only; omega) _⟩
  · go_wp2_with fail
    refine (l1Odd_s B q _ HC3.out).mono ?_
    rintro e w4 ⟨y, ⟨rfl, hc4, hg4⟩⟩
    have HC4 : Hid (Cur B w4 q) := hc4
    have G4 : Hid (w.grownBy w4 (some q)) := grownBy_trans G3.out hg4
    have R4 : Hid (Blk w4 w.heap.size #[.int .i64 0, .bool false] 25) := Blk.grown R3.out hg4 (by omega)
    have X4 : Hid (Blk w4 w2.heap.size #[.int .i64 x, .bool f] 25) := Blk.grown X3.out hg4 (by omega)
    have s4 := G4.out.size
    clear hc4 hg4
    have HR := R4.out
    have HX := X4.out
    have c0 := Blk.cellAt (i := 0) HX rfl
    have c1 := Blk.cellAt (i := 1) HX rfl
    have f0 := Blk.freeAt (i := 0) HX
    have g0 := Blk.freeAt (i := 0) HR
    have g1 := Blk.freeAt (i := 1) HR
    have d0 := Blk.cellAt (i := 0) HR rfl
    have d1 := Blk.cellAt (i := 1) HR rfl
    have l1 := HR.lt
    have l2 := HX.lt
    simp only [List.getElem_toArray, List.getElem_cons_zero, List.getElem_cons_succ] at c0 c1 d0 d1
    clear HR HX
    go_wp2_with fail
    have HW : Hid (Blk (w4.setCell ⟨w2.heap.size, 0, Option.none⟩ (.int .i64 y)) w.heap.size #[.int .i64 0, .bool false] 25) := Blk.other R4.out (by dsimp only; omega)
    have e0 := (HW.out.set (i := 0) (v := .int .i64 y)).cell 0
    have e1 := ((HW.out.set (i := 0) (v := .int .i64 y)).set (i := 1) (v := .bool f)).cell 1
    simp only [List.setIfInBounds_toArray, List.set_cons_zero, List.set_cons_succ, List.getElem?_toArray, List.getElem?_cons_zero, List.getElem?_cons_succ] at e0 e1
    exact bodyPost_ret (v := .agg #[.int .i64 y, .bool f]) (by simp [results, Tryd.results14, go_sem, e0, e1]) rfl ⟨y, f, rfl, Cur.set (Cur.set (Cur.set HC4.out (by dsimp only; omega)) (by dsimp only; omega)) (by dsimp only; omega), grown_setNew (grown_setNew (grown_setNew G4.out (by dsimp only; omega) _) (by dsimp only; omega) _) (by dsimp only; omega) _⟩

/-- What the draw of a symmetry, and of a text of one, gives. -/
structure SymGiven (w : World) (e : Ending) (w' : World) (t : Int) (f : Bool) : Prop where
  ret : e = .returned (.agg #[.int .i64 t, .bool f])
  below : Below w.heap.size w w'
structure TextGiven (w : World) (e : Ending) (w' : World) (s : ByteArray) : Prop where
  ret : e = .returned (.string s)
  below : Below w.heap.size w w'

set_option maxHeartbeats 2000000 in
theorem drawFormatSym_s (a : Option Addr) (len cap : Nat) (bs : List Int) (w : World) (hrow : ByteRow w w.heap.size a len bs) (hlen : len ≤ 4096) :
    Calls Tryd.prog 6 #[.slice a len cap] w fun e w' => ∃ t f, SymGiven w e w' t f := by
  have HR : Hid (ByteRow w w.heap.size a len bs) := hrow
  clear hrow
  go_enter Tryd.func6, Tryd.ntmps6
  go_wp2_with fail
  refine (l1New_s a len cap bs _ ((HR.out.of (by (repeat' (first | (with_reducible exact Below.refl _ _) | (with_reducible assumption) | (with_reducible refine Below.alloc ?_ ?_ _) | (with_reducible refine Below.drew ?_) | (with_reducible refine Below.setCell ?_ ?_ _) | (with_reducible refine Below.trans ?_ (Below.mono (by assumption) ?_)) | (with_reducible exact Nat.le_refl _) | omega | (simp only [World.size_alloc, World.size_setCell, World.size_drew]; omega) | (simp; omega) | (simp; done))))).mono (by simp)) hlen).mono ?_
  rintro e w1 ⟨q, rfl, hql, hcur, hb1⟩
  have hqB := hcur.ge
  have C1 : Hid (Cur (w.alloc (.cells #[.int .i64 0, .bool false] 25)).heap.size w1 q) := hcur
  have s1 := hb1.size
  have R1 : Hid (Blk w1 w.heap.size #[.int .i64 0, .bool false] 25) := Blk.belowAt hb1 (Blk.new _ _ _)
  simp only [World.size_alloc] at s1 hqB
  have b1 : Below w.heap.size w w1 := by (repeat' (first | (with_reducible exact Below.refl _ _) | (with_reducible assumption) | (with_reducible refine Below.alloc ?_ ?_ _) | (with_reducible refine Below.drew ?_) | (with_reducible refine Below.setCell ?_ ?_ _) | (with_reducible refine Below.trans ?_ (Below.mono (by assumption) ?_)) | (with_reducible exact Nat.le_refl _) | omega | (simp only [World.size_alloc, World.size_setCell, World.size_drew]; omega) | (simp; omega) | (simp; done)))
  have B1 : Hid (Below w.heap.size w w1) := b1
  clear hcur hb1 b1
  go_wp2_with fail
  refine (l1Sym_s _ q _ C1.out).mono ?_
  rintro e w2 ⟨t, f, ⟨rfl, hc2, hg2⟩⟩
  have R2 : Hid (Blk w2 w.heap.size #[.int .i64 0, .bool false] 25) := R1.out.grown hg2 (by omega)
  have B2 : Below w.heap.size w w2 := Below.trans B1.out (below_of_grown hg2 (by omega) (by omega))
  have s2 := B2.size
  clear hc2 hg2
  have d0 := Blk.cellAt (i := 0) R2.out rfl
  have d1 := Blk.cellAt (i := 1) R2.out rfl
  have g0 := Blk.freeAt (i := 0) R2.out
  have g1 := Blk.freeAt (i := 1) R2.out
  have l1 := R2.out.lt
  simp only [List.getElem_toArray, List.getElem_cons_zero, List.getElem_cons_succ] at d0 d1
  go_wp2
  have e0 := (R2.out.set (i := 0) (v := .int .i64 t)).cell 0
  have e1 := ((R2.out.set (i := 0) (v := .int .i64 t)).set (i := 1) (v := .bool f)).cell 1
  simp only [List.setIfInBounds_toArray, List.set_cons_zero, List.set_cons_succ, List.getElem?_toArray, List.getElem?_cons_zero, List.getElem?_cons_succ] at e0 e1
  exact bodyPost_ret (v := .agg #[.int .i64 t, .bool f]) (by simp [results, Tryd.results6, go_sem, e0, e1]) rfl ⟨t, f, rfl, by (repeat' (first | (with_reducible exact Below.refl _ _) | (with_reducible assumption) | (with_reducible refine Below.alloc ?_ ?_ _) | (with_reducible refine Below.drew ?_) | (with_reducible refine Below.setCell ?_ ?_ _) | (with_reducible refine Below.trans ?_ (Below.mono (by assumption) ?_)) | (with_reducible exact Nat.le_refl _) | omega | (simp only [World.size_alloc, World.size_setCell, World.size_drew]; omega) | (simp; omega) | (simp; done)))⟩

set_option maxHeartbeats 2000000 in
theorem drawParseSym_s (a : Option Addr) (len cap : Nat) (bs : List Int) (w : World) (hrow : ByteRow w w.heap.size a len bs) (hlen : len ≤ 4096) :
    Calls Tryd.prog 11 #[.slice a len cap] w fun e w' => ∃ s, TextGiven w e w' s := by
  go_enter Tryd.func11, Tryd.ntmps11
  go_wp2_with fail
  refine (l1New_s a len cap bs _ hrow hlen).mono ?_
  rintro e w1 ⟨q, rfl, hql, hcur, hb1⟩
  have hqB := hcur.ge
  have C1 : Hid (Cur w.heap.size w1 q) := hcur
  have B1 : Hid (Below w.heap.size w w1) := hb1
  have s1 := hb1.size
  clear hcur hb1 hrow
  go_wp2_with fail
  refine (l1Once_s w.heap.size q 3 _ C1.out (by omega) (by omega)).mono ?_
  rintro e w2 ⟨t, ⟨rfl, hc2, hg2⟩⟩
  have C2 : Hid (Cur w.heap.size w2 q) := hc2
  have G2 : Hid (w1.grownBy w2 (some q)) := hg2
  have hq2 := hc2.lt
  clear hc2 hg2
  cases t
  · go_wp2_with fail
    refine (l1Sym_s w.heap.size q _ C2.out).mono ?_
    rintro e w3 ⟨t, f, ⟨rfl, hc3, hg3⟩⟩
    have B3 : Hid (Below w.heap.size w w3) := Below.trans B1.out (below_of_grown (grownBy_trans G2.out hg3) hqB s1)
    have K3 : ForS t f (textS t f) := ⟨fun w => formatSym_s t f w⟩
    generalize textS t f = x at K3
    clear hc3 hg3
    go_wp2_with fail
    refine (K3.call _).mono ?_
    rintro e w4 ⟨rfl, hb4⟩
    have s3 := B3.out.size
    have B4 : Hid (Below w.heap.size w w4) := Below.trans B3.out (Below.mono hb4 (by omega))
    clear hb4
    go_wp2
    go_ret
    exact ⟨_, rfl, B4.out⟩
  · go_wp2_with fail
    refine (l1Str_s w.heap.size q _ _ _ _ _ _ _ _ _ _ _ _ C2.out.alloc ?_ (Blk.new _ _ _)).mono ?_
    · omega
    rintro e w3 ⟨s, ⟨rfl, hc3, hg3⟩⟩
    have B3 : Hid (Below w.heap.size w w3) := Below.trans B1.out (below_of_grown (grownBy_trans (grown_alloc G2.out _) hg3) hqB s1)
    clear hc3 hg3
    go_wp2
    go_ret
    exact ⟨_, rfl, B3.out⟩
end Go.Proofs.YticknelhfeeejaaDoor
