/-
  ParseSym of both: the first of the eight symmetries whose text it is.
-/
import Derived.Test.YticknelhfeeejaaDoorTone
import Derived.Test.YticknelhfeeejaaDoorLall
namespace Go.Proofs.YticknelhfeeejaaDoor
open Go.ChangeShapes Go.WideShapes Go.ChangeAt Go.RowKit Go.Joins 
set_option linter.unusedSimpArgs false
set_option linter.unusedVariables false
set_option maxRecDepth 100000

/-- Is a text the k-th one's? -/
def hit (s : ByteArray) (k : Nat) : Bool := (textS ((k : Int) % 4) (decide (4 ≤ (k : Int)))).toList == s.toList
/-- None of the first k has this text. -/
def NoneTo (s : ByteArray) (k : Nat) : Prop := ∀ j, j < k → hit s j = false
theorem NoneTo.zero (s : ByteArray) : NoneTo s 0 := fun j h => by omega
theorem NoneTo.succ {s : ByteArray} {k : Nat} (h : NoneTo s k) (hk : hit s k = false) : NoneTo s (k + 1) := fun j hj => by
  rcases (by omega : j < k ∨ j = k) with h' | rfl
  · exact h j h'
  · exact hk

/-- What a text is read as: none, or the first whose text it is. -/
def Reads (s : ByteArray) (t : Int) (f ok : Bool) : Prop :=
  (NoneTo s 8 ∧ t = 0 ∧ f = false ∧ ok = false) ∨ ∃ k, k < 8 ∧ NoneTo s k ∧ hit s k = true ∧ t = (k : Int) % 4 ∧ f = decide (4 ≤ (k : Int)) ∧ ok = true

theorem Reads.one {s : ByteArray} {t t2 : Int} {f f2 ok ok2 : Bool} (h : Reads s t f ok) (h2 : Reads s t2 f2 ok2) : t = t2 ∧ f = f2 ∧ ok = ok2 := by
  rcases h with ⟨n, rfl, rfl, rfl⟩ | ⟨k, hk, n, hh, rfl, rfl, rfl⟩
  · rcases h2 with ⟨_, rfl, rfl, rfl⟩ | ⟨k2, hk2, _, hh2, _⟩
    · exact ⟨rfl, rfl, rfl⟩
    · rw [n k2 hk2] at hh2; cases hh2
  · rcases h2 with ⟨n2, _⟩ | ⟨k2, hk2, n2, hh2, rfl, rfl, rfl⟩
    · rw [n2 k hk] at hh; cases hh
    · rcases Nat.lt_trichotomy k k2 with h | h | h
      · rw [n2 k h] at hh; cases hh
      · subst h; exact ⟨rfl, rfl, rfl⟩
      · rw [n k2 h] at hh2; cases hh2

theorem Reads.any (s : ByteArray) : ∃ t f ok, Reads s t f ok := by
  have key : ∀ k, k ≤ 8 → NoneTo s k ∨ ∃ j, j < k ∧ NoneTo s j ∧ hit s j = true := by
    intro k
    induction k with
    | zero => exact fun _ => .inl (NoneTo.zero s)
    | succ k ih =>
      intro hk
      rcases ih (by omega) with h | ⟨j, hj, hn, hh⟩
      · cases hx : hit s k
        · exact .inl (h.succ hx)
        · exact .inr ⟨k, by omega, h, hx⟩
      · exact .inr ⟨j, by omega, hn, hh⟩
  rcases key 8 (Nat.le_refl _) with h | ⟨j, hj, hn, hh⟩
  · exact ⟨0, false, false, .inl ⟨h, rfl, rfl, rfl⟩⟩
  · exact ⟨_, _, _, .inr ⟨j, hj, hn, hh, rfl, rfl, rfl⟩⟩

theorem symAt_i (k : Nat) (w : World) (hk : k < 8) :
    Calls Tryd.prog 16 #[.int .i64 k] w fun e w' => e = .returned (.agg #[.int .i64 ((k : Int) % 4), .bool (decide (4 ≤ (k : Int)))]) ∧ Below w.heap.size w w' := by
  go_enter Tryd.func16, Tryd.ntmps16
  go_wp2
  go_returns; exact ⟨by first | rfl | (simp; omega), by (repeat' (first | (with_reducible exact Below.refl _ _) | (with_reducible assumption) | (with_reducible refine Below.alloc ?_ ?_ _) | (with_reducible refine Below.drew ?_) | (with_reducible refine Below.setCell ?_ ?_ _) | (with_reducible refine Below.trans ?_ (Below.mono (by assumption) ?_)) | (with_reducible exact Nat.le_refl _) | omega | (simp only [World.size_alloc, World.size_setCell, World.size_drew]; omega) | (simp; omega) | (simp; done)))⟩

structure AtI (k : Nat) (t : Int) (f : Bool) : Prop where
  call : ∀ w : World, Calls Tryd.prog 16 #[.int .i64 k] w fun e w' => e = .returned (.agg #[.int .i64 t, .bool f]) ∧ Below w.heap.size w w'
structure ForI (t : Int) (f : Bool) (x : ByteArray) : Prop where
  call : ∀ w : World, Calls Tryd.prog 8 #[.agg #[.int .i64 t, .bool f]] w fun e w' => e = .returned (.string x) ∧ Below w.heap.size w w'
structure ForS (t : Int) (f : Bool) (x : ByteArray) : Prop where
  call : ∀ w : World, Calls Tryd.prog 21 #[.agg #[.int .i64 t, .bool f]] w fun e w' => e = .returned (.string x) ∧ Below w.heap.size w w'


set_option maxHeartbeats 1600000 in
theorem parseSym_i (s : ByteArray) (w : World) :
    Calls Tryd.prog 7 #[.string s] w fun e w' => ∃ t f ok, (e = .returned (.tuple #[.agg #[.int .i64 t, .bool f], .bool ok]) ∧ Reads s t f ok) ∧ Below w.heap.size w w' := by
  go_enter Tryd.func7, Tryd.ntmps7
  go_wp2
  go_loopw [6] (fun i wr => ∃ k : Nat, k ≤ 8 ∧ i = .int .i64 k ∧ NoneTo s k ∧ Blk wr w.heap.size #[.int .i64 0, .bool false] 25 ∧ Below w.heap.size w wr) (fun i _ => 8 - (intOf i).toNat)
  case atStart => exact ⟨0, by omega, rfl, NoneTo.zero s, Blk.new _ _ _, by (repeat' (first | (with_reducible exact Below.refl _ _) | (with_reducible assumption) | (with_reducible refine Below.alloc ?_ ?_ _) | (with_reducible refine Below.drew ?_) | (with_reducible refine Below.setCell ?_ ?_ _) | (with_reducible refine Below.trans ?_ (Below.mono (by assumption) ?_)) | (with_reducible exact Nat.le_refl _) | omega | (simp only [World.size_alloc, World.size_setCell, World.size_drew]; omega) | (simp; omega) | (simp; done)))⟩
  case round =>
    obtain ⟨k, hk, rfl, hno, hblk, hbel⟩ := hrel
    have HNO : Hid (NoneTo s k) := hno
    clear hno
    have hbase := hbel.size
    have HBK : Hid (Blk wr w.heap.size #[.int .i64 0, .bool false] 25) := hblk
    have hbl := hblk.lt
    by_cases hlt : k < 8
    · clear hblk
      have KA : AtI k ((k : Int) % 4) (decide (4 ≤ (k : Int))) := ⟨fun w => symAt_i k w hlt⟩
      have KF : ForI ((k : Int) % 4) (decide (4 ≤ (k : Int))) (textS ((k : Int) % 4) (decide (4 ≤ (k : Int)))) := ⟨fun w => formatSym_i _ _ w⟩
      cases hh : hit s k with
      | true =>
        have HV : Hid (Reads s ((k : Int) % 4) (decide (4 ≤ (k : Int))) true) := .inr ⟨k, hlt, HNO.out, hh, rfl, rfl, rfl⟩
        have he : ((textS ((k : Int) % 4) (decide (4 ≤ (k : Int)))).toList == s.toList) = true := hh
        clear hh
        generalize textS ((k : Int) % 4) (decide (4 ≤ (k : Int))) = x at KF he
        generalize (k : Int) % 4 = t at KA KF HV
        generalize decide (4 ≤ (k : Int)) = f at KA KF HV
        go_wp2_with fail
        refine (KA.call _).mono ?_
        rintro e w1 ⟨rfl, hb⟩
        have HB1 : Hid (Blk w1 w.heap.size #[.int .i64 0, .bool false] 25) := HBK.out.below hb
        have B1 : Below w.heap.size w w1 := by (repeat' (first | (with_reducible exact Below.refl _ _) | (with_reducible assumption) | (with_reducible refine Below.alloc ?_ ?_ _) | (with_reducible refine Below.drew ?_) | (with_reducible refine Below.setCell ?_ ?_ _) | (with_reducible refine Below.trans ?_ (Below.mono (by assumption) ?_)) | (with_reducible exact Nat.le_refl _) | omega | (simp only [World.size_alloc, World.size_setCell, World.size_drew]; omega) | (simp; omega) | (simp; done)))
        have s1 := B1.size
        clear hb
        go_wp2_with fail
        refine (KF.call _).mono ?_
        rintro e w2 ⟨rfl, hb2⟩
        have HB2 : Blk w2 w.heap.size #[.int .i64 0, .bool false] 25 := Blk.belowAt hb2 HB1.out.alloc
        have HX2 : Blk w2 w1.heap.size #[.int .i64 t, .bool f] 25 := Blk.belowAt hb2 (Blk.new _ _ _)
        have B2 : Below w.heap.size w w2 := by (repeat' (first | (with_reducible exact Below.refl _ _) | (with_reducible assumption) | (with_reducible refine Below.alloc ?_ ?_ _) | (with_reducible refine Below.drew ?_) | (with_reducible refine Below.setCell ?_ ?_ _) | (with_reducible refine Below.trans ?_ (Below.mono (by assumption) ?_)) | (with_reducible exact Nat.le_refl _) | omega | (simp only [World.size_alloc, World.size_setCell, World.size_drew]; omega) | (simp; omega) | (simp; done)))
        have c0 := Blk.cellAt (i := 0) HB2 rfl
        have c1 := Blk.cellAt (i := 1) HB2 rfl
        have g0 := Blk.freeAt (i := 0) HB2
        have g1 := Blk.freeAt (i := 1) HB2
        have d0 := Blk.cellAt (i := 0) HX2 rfl
        have d1 := Blk.cellAt (i := 1) HX2 rfl
        have l1 := HB2.lt
        have l2 := HX2.lt
        simp only [List.getElem_toArray, List.getElem_cons_zero, List.getElem_cons_succ] at c0 c1 d0 d1
        have HH : Hid (Blk w2 w.heap.size #[.int .i64 0, .bool false] 25) := HB2
        clear HB2 HX2 hb2
        go_wp2
        have e0 := (HH.out.set (i := 0) (v := .int .i64 t)).cell 0
        have e1 := ((HH.out.set (i := 0) (v := .int .i64 t)).set (i := 1) (v := .bool f)).cell 1
        simp only [List.setIfInBounds_toArray, List.set_cons_zero, List.set_cons_succ, List.getElem?_toArray, List.getElem?_cons_zero, List.getElem?_cons_succ] at e0 e1
        exact bodyPost_ret (v := .tuple #[.agg #[.int .i64 t, .bool f], .bool true]) (by simp [results, Tryd.results7, go_sem, e0, e1]) rfl ⟨t, f, true, ⟨rfl, HV.out⟩, by (repeat' (first | (with_reducible exact Below.refl _ _) | (with_reducible assumption) | (with_reducible refine Below.alloc ?_ ?_ _) | (with_reducible refine Below.drew ?_) | (with_reducible refine Below.setCell ?_ ?_ _) | (with_reducible refine Below.trans ?_ (Below.mono (by assumption) ?_)) | (with_reducible exact Nat.le_refl _) | omega | (simp only [World.size_alloc, World.size_setCell, World.size_drew]; omega) | (simp; omega) | (simp; done)))⟩
      | false =>
        have HH : Hid (hit s k = false) := hh
        have he : ((textS ((k : Int) % 4) (decide (4 ≤ (k : Int)))).toList == s.toList) = false := hh
        clear hh
        generalize textS ((k : Int) % 4) (decide (4 ≤ (k : Int))) = x at KF he
        generalize (k : Int) % 4 = t at KA KF
        generalize decide (4 ≤ (k : Int)) = f at KA KF
        go_wp2_with fail
        refine (KA.call _).mono ?_
        rintro e w1 ⟨rfl, hb⟩
        have HB1 : Hid (Blk w1 w.heap.size #[.int .i64 0, .bool false] 25) := HBK.out.below hb
        have B1 : Below w.heap.size w w1 := by (repeat' (first | (with_reducible exact Below.refl _ _) | (with_reducible assumption) | (with_reducible refine Below.alloc ?_ ?_ _) | (with_reducible refine Below.drew ?_) | (with_reducible refine Below.setCell ?_ ?_ _) | (with_reducible refine Below.trans ?_ (Below.mono (by assumption) ?_)) | (with_reducible exact Nat.le_refl _) | omega | (simp only [World.size_alloc, World.size_setCell, World.size_drew]; omega) | (simp; omega) | (simp; done)))
        have s1 := B1.size
        clear hb
        go_wp2_with fail
        refine (KF.call _).mono ?_
        rintro e w2 ⟨rfl, hb2⟩
        have HB2 : Hid (Blk w2 w.heap.size #[.int .i64 0, .bool false] 25) := Blk.belowAt hb2 HB1.out.alloc
        have B2 : Below w.heap.size w w2 := by (repeat' (first | (with_reducible exact Below.refl _ _) | (with_reducible assumption) | (with_reducible refine Below.alloc ?_ ?_ _) | (with_reducible refine Below.drew ?_) | (with_reducible refine Below.setCell ?_ ?_ _) | (with_reducible refine Below.trans ?_ (Below.mono (by assumption) ?_)) | (with_reducible exact Nat.le_refl _) | omega | (simp only [World.size_alloc, World.size_setCell, World.size_drew]; omega) | (simp; omega) | (simp; done)))
        clear hb2
        go_wp2
        go_roundw
        case rel => exact ⟨k + 1, by omega, by go_num, HNO.out.succ HH.out, HB2.out, B2⟩
        case measure => simp [intOf]; omega
    · have hk8 : k = 8 := by omega
      subst hk8
      have HV : Hid (Reads s 0 false false) := .inl ⟨HNO.out, rfl, rfl, rfl⟩
      have c0 := Blk.cellAt (i := 0) hblk rfl
      have c1 := Blk.cellAt (i := 1) hblk rfl
      have g0 := Blk.freeAt (i := 0) hblk
      have g1 := Blk.freeAt (i := 1) hblk
      simp only [List.getElem_toArray, List.getElem_cons_zero, List.getElem_cons_succ] at c0 c1
      clear hblk
      go_wp2
      have e0 := (HBK.out.set (i := 0) (v := .int .i64 0)).cell 0
      have e1 := ((HBK.out.set (i := 0) (v := .int .i64 0)).set (i := 1) (v := .bool false)).cell 1
      simp only [List.setIfInBounds_toArray, List.set_cons_zero, List.set_cons_succ, List.getElem?_toArray, List.getElem?_cons_zero, List.getElem?_cons_succ] at e0 e1
      exact bodyPost_ret (v := .tuple #[.agg #[.int .i64 0, .bool false], .bool false]) (by simp [results, Tryd.results7, go_sem, e0, e1]) rfl ⟨0, false, false, ⟨rfl, HV.out⟩, by (repeat' (first | (with_reducible exact Below.refl _ _) | (with_reducible assumption) | (with_reducible refine Below.alloc ?_ ?_ _) | (with_reducible refine Below.drew ?_) | (with_reducible refine Below.setCell ?_ ?_ _) | (with_reducible refine Below.trans ?_ (Below.mono (by assumption) ?_)) | (with_reducible exact Nat.le_refl _) | omega | (simp only [World.size_alloc, World.size_setCell, World.size_drew]; omega) | (simp; omega) | (simp; done)))⟩
end Go.Proofs.YticknelhfeeejaaDoor
