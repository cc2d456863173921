/-
  ParseSym of the model.
-/
import Derived.Test.YticknelhfeeejaaDoorTtwo
namespace Go.Proofs.YticknelhfeeejaaDoor
open Go.ChangeShapes Go.WideShapes Go.ChangeAt Go.RowKit Go.Joins 
set_option linter.unusedSimpArgs false
set_option linter.unusedVariables false
set_option maxRecDepth 100000

/-- The eight symmetries, in a row of a block. -/
structure SymList (W : World) (g : Nat) : Prop where
  lt : g < W.heap.size
  at0 : ∀ k, k < 8 → W.cell? ⟨g, k * 2, Option.none⟩ = some (.int .i64 ((k : Int) % 4))
  at1 : ∀ k, k < 8 → W.cell? ⟨g, k * 2 + 1, Option.none⟩ = some (.bool (decide (4 ≤ (k : Int))))
theorem SymList.below {W w1 : World} {g : Nat} (h : SymList W g) (hb : Below W.heap.size W w1) : SymList w1 g :=
  ⟨Nat.lt_of_lt_of_le h.lt hb.size, fun k hk => cBelow hb (h.at0 k hk), fun k hk => cBelow hb (h.at1 k hk)⟩
theorem SymList.alloc {W : World} {g : Nat} {o : Obj} (h : SymList W g) : SymList (W.alloc o) g := h.below (by (repeat' (first | (with_reducible exact Below.refl _ _) | (with_reducible assumption) | (with_reducible refine Below.alloc ?_ ?_ _) | (with_reducible refine Below.drew ?_) | (with_reducible refine Below.setCell ?_ ?_ _) | (with_reducible refine Below.trans ?_ (Below.mono (by assumption) ?_)) | (with_reducible exact Nat.le_refl _) | omega | (simp only [World.size_alloc, World.size_setCell, World.size_drew]; omega) | (simp; omega) | (simp; done))))

theorem list_of {W : World} {base g cap : Nat} (h : W.ownsRow base 25 2 (.slice (some ⟨g, 0, Option.none⟩) 8 cap) 8 (symCells (allTo 8))) : SymList W g := by
  have hg := h.lt g rfl
  refine ⟨hg.2, fun k hk => ?_, fun k hk => ?_⟩
  · rw [h.cellAt _ (by omega)]; exact (symCells_at k hk).1
  · rw [h.cellAt _ (by omega)]; exact (symCells_at k hk).2

set_option maxHeartbeats 1600000 in
theorem parseSym_s (s : ByteArray) (w : World) :
    Calls Tryd.prog 12 #[.string s] w fun e w' => ∃ t f ok, (e = .returned (.tuple #[.agg #[.int .i64 t, .bool f], .bool ok]) ∧ Reads s t f ok) ∧ Below w.heap.size w w' := by
  go_enter Tryd.func12, Tryd.ntmps12
  go_wp2_with fail
  refine (l1All_s _).mono ?_
  rintro e w1 ⟨g, cap, rfl, hlist, hb⟩
  have hL : Hid (SymList w1 g) := list_of hlist
  have hR : Hid (Blk w1 w.heap.size #[.int .i64 0, .bool false] 25) := (Blk.new _ _ _).below hb
  have B1 : Hid (Below w.heap.size w w1) := by
    show Below w.heap.size w w1
    (repeat' (first | (with_reducible exact Below.refl _ _) | (with_reducible assumption) | (with_reducible refine Below.alloc ?_ ?_ _) | (with_reducible refine Below.drew ?_) | (with_reducible refine Below.setCell ?_ ?_ _) | (with_reducible refine Below.trans ?_ (Below.mono (by assumption) ?_)) | (with_reducible exact Nat.le_refl _) | omega | (simp only [World.size_alloc, World.size_setCell, World.size_drew]; omega) | (simp; omega) | (simp; done)))
  clear hlist hb
  go_wp2
  go_loopw [8] (fun i wr => ∃ k : Nat, k ≤ 8 ∧ i = .int .i64 k ∧ NoneTo s k ∧ Blk wr w.heap.size #[.int .i64 0, .bool false] 25 ∧ SymList wr g ∧ Below w.heap.size w wr) (fun i _ => 8 - (intOf i).toNat)
  case atStart => exact ⟨0, by omega, rfl, NoneTo.zero s, hR.out, hL.out, B1.out⟩
  case round =>
    obtain ⟨k, hk, rfl, hno, hblk, hlist, hbel⟩ := hrel
    have HNO : Hid (NoneTo s k) := hno
    have HL : Hid (SymList wr g) := hlist
    clear hno
    have hbase := hbel.size
    have HBK : Hid (Blk wr w.heap.size #[.int .i64 0, .bool false] 25) := hblk
    have hbl := hblk.lt
    by_cases hlt : k < 8
    · have hx0 := hlist.at0 k hlt
      have hx1 := hlist.at1 k hlt
      have hgl := hlist.lt
      clear hblk hlist
      have KF : ForS ((k : Int) % 4) (decide (4 ≤ (k : Int))) (textS ((k : Int) % 4) (decide (4 ≤ (k : Int)))) := ⟨fun w => formatSym_s _ _ w⟩
      cases hh : hit s k with
      | true =>
        have HV : Hid (Reads s ((k : Int) % 4) (decide (4 ≤ (k : Int))) true) := .inr ⟨k, hlt, HNO.out, hh, rfl, rfl, rfl⟩
        have he : ((textS ((k : Int) % 4) (decide (4 ≤ (k : Int)))).toList == s.toList) = true := hh
        clear hh
        generalize textS ((k : Int) % 4) (decide (4 ≤ (k : Int))) = x at KF he
        generalize (k : Int) % 4 = t at KF HV hx0
        generalize decide (4 ≤ (k : Int)) = f at KF HV hx1
        go_wp2_with fail
        refine (KF.call _).mono ?_
        rintro e w2 ⟨rfl, hb2⟩
        have HB2 : Blk w2 w.heap.size #[.int .i64 0, .bool false] 25 := Blk.belowAt hb2 HBK.out.alloc
        have HX2 : Blk w2 wr.heap.size #[.int .i64 t, .bool f] 25 := Blk.belowAt hb2 (Blk.new _ _ _)
        have B2 : Below w.heap.size w w2 := by (repeat' (first | (with_reducible exact Below.refl _ _) | (with_reducible assumption) | (with_reducible refine Below.alloc ?_ ?_ _) | (with_reducible refine Below.drew ?_) | (with_reducible refine Below.setCell ?_ ?_ _) | (with_reducible refine Below.trans ?_ (Below.mono (by assumption) ?_)) | (with_reducible exact Nat.le_refl _) | omega | (simp only [World.size_alloc, World.size_setCell, World.size_drew]; omega) | (simp; omega) | (simp; done)))
        have c0 := Blk.cellAt (i := 0) HB2 rfl
        have c1 := Blk.cellAt (i := 1) HB2 rfl
        have g0 := Blk.freeAt (i := 0) HB2
        have g1 := Blk.freeAt (i := 1) HB2
        have d0 := Blk.cellAt (i := 0) HX2 rfl
        have d1 := Blk.cellAt (i := 1) HX2 rfl
        have l1 := HB2.lt
        have l2 := HX2.lt
        simp only [List.getElem_toArray, List.getElem_cons_zero, List.getElem_cons_succ] at c0 c1 d0 d1
        have HH : Hid (Blk w2 w.heap.size #[.int .i64 0, .bool false] 25) := HB2
        clear HB2 HX2 hb2
        go_wp2
        have e0 := (HH.out.set (i := 0) (v := .int .i64 t)).cell 0
        have e1 := ((HH.out.set (i := 0) (v := .int .i64 t)).set (i := 1) (v := .bool f)).cell 1
        simp only [List.setIfInBounds_toArray, List.set_cons_zero, List.set_cons_succ, List.getElem?_toArray, List.getElem?_cons_zero, List.getElem?_cons_succ] at e0 e1
        exact bodyPost_ret (v := .tuple #[.agg #[.int .i64 t, .bool f], .bool true]) (by simp [results, Tryd.results12, go_sem, e0, e1]) rfl ⟨t, f, true, ⟨rfl, HV.out⟩, by (repeat' (first | (with_reducible exact Below.refl _ _) | (with_reducible assumption) | (with_reducible refine Below.alloc ?_ ?_ _) | (with_reducible refine Below.drew ?_) | (with_reducible refine Below.setCell ?_ ?_ _) | (with_reducible refine Below.trans ?_ (Below.mono (by assumption) ?_)) | (with_reducible exact Nat.le_refl _) | omega | (simp only [World.size_alloc, World.size_setCell, World.size_drew]; omega) | (simp; omega) | (simp; done)))⟩
      | false =>
        have HH : Hid (hit s k = false) := hh
        have he : ((textS ((k : Int) % 4) (decide (4 ≤ (k : Int)))).toList == s.toList) = false := hh
        clear hh
        generalize textS ((k : Int) % 4) (decide (4 ≤ (k : Int))) = x at KF he
        generalize (k : Int) % 4 = t at KF hx0
        generalize decide (4 ≤ (k : Int)) = f at KF hx1
        go_wp2_with fail
        refine (KF.call _).mono ?_
        rintro e w2 ⟨rfl, hb2⟩
        have HB2 : Hid (Blk w2 w.heap.size #[.int .i64 0, .bool false] 25) := Blk.belowAt hb2 HBK.out.alloc
        have HL2 : Hid (SymList w2 g) := SymList.below HL.out.alloc hb2
        have B2 : Below w.heap.size w w2 := by (repeat' (first | (with_reducible exact Below.refl _ _) | (with_reducible assumption) | (with_reducible refine Below.alloc ?_ ?_ _) | (with_reducible refine Below.drew ?_) | (with_reducible refine Below.setCell ?_ ?_ _) | (with_reducible refine Below.trans ?_ (Below.mono (by assumption) ?_)) | (with_reducible exact Nat.le_refl _) | omega | (simp only [World.size_alloc, World.size_setCell, World.size_drew]; omega) | (simp; omega) | (simp; done)))
        clear hb2
        go_wp2
        go_roundw
        case rel => exact ⟨k + 1, by omega, by go_num, HNO.out.succ HH.out, HB2.out, HL2.out, B2⟩
        case measure => simp [intOf]; omega
    · have hk8 : k = 8 := by omega
      subst hk8
      have HV : Hid (Reads s 0 false false) := .inl ⟨HNO.out, rfl, rfl, rfl⟩
      have c0 := Blk.cellAt (i := 0) hblk rfl
      have c1 := Blk.cellAt (i := 1) hblk rfl
      have g0 := Blk.freeAt (i := 0) hblk
      have g1 := Blk.freeAt (i := 1) hblk
      simp only [List.getElem_toArray, List.getElem_cons_zero, List.getElem_cons_succ] at c0 c1
      clear hblk hlist
      go_wp2
      have e0 := (HBK.out.set (i := 0) (v := .int .i64 0)).cell 0
      have e1 := ((HBK.out.set (i := 0) (v := .int .i64 0)).set (i := 1) (v := .bool false)).cell 1
      simp only [List.setIfInBounds_toArray, List.set_cons_zero, List.set_cons_succ, List.getElem?_toArray, List.getElem?_cons_zero, List.getElem?_cons_succ] at e0 e1
      exact bodyPost_ret (v := .tuple #[.agg #[.int .i64 0, .bool false], .bool false]) (by simp [results, Tryd.results12, go_sem, e0, e1]) rfl ⟨0, false, false, ⟨rfl, HV.out⟩, by (repeat' (first | (with_reducible exact Below.refl _ _) | (with_reducible assumption) | (with_reducible refine Below.alloc ?_ ?_ _) | (with_reducible refine Below.drew ?_) | (with_reducible refine Below.setCell ?_ ?_ _) | (with_reducible refine Below.trans ?_ (Below.mono (by assumption) ?_)) | (with_reducible exact Nat.le_refl _) | omega | (simp only [World.size_alloc, World.size_setCell, World.size_drew]; omega) | (simp; omega) | (simp; done)))⟩
end Go.Proofs.YticknelhfeeejaaDoor
