/-
  Texts Sao Stwo Aw Iw Sro Sha Oj Ok, joined.
-/
import Derived.Test.YtfdgijmmgllmgaaGreatDoorS01
import Derived.Test.YtfdgijmmgllmgaaGreatDoorS05
import Derived.Test.YtfdgijmmgllmgaaGreatDoorS06
import Derived.Deep.QuietTactic
import Derived.BigQuiet
import Derived.Deep.RegionHeld3
namespace Go.Proofs.YtfdgijmmgllmgaaGreatDoor
open Go.ChangeShapes Go.WideShapes Go.ChangeAt Go.RowKit Go.Joins 
set_option linter.unusedSimpArgs false
set_option linter.unusedVariables false
def ofB (kind t : Int) (f : Bool) : Bool :=
  isSymB t && (if kind = 0 then t == 0 && !f else if kind = 1 then t == 0 else if kind = 2 then t % 2 == 0 else kind == 3)
theorem symAt_i (k : Nat) (w : World) (hk : k < 8) :
    Calls Tryz.prog 23 #[.int .i64 k] w fun e w' => e = .returned (.agg #[.int .i64 ((k : Int) % 4), .bool (decide (4 ≤ (k : Int)))]) ∧ Below w.heap.size w w' := by
  go_enter Tryz.func23, Tryz.ntmps23
  go_wp2
  go_returns; exact ⟨by first | rfl | (simp; omega), by (repeat' (first | (with_reducible exact Below.refl _ _) | (with_reducible assumption) | (with_reducible refine Below.alloc ?_ ?_ _) | (with_reducible refine Below.drew ?_) | (with_reducible refine Below.setCell ?_ ?_ _) | (with_reducible refine Below.trans ?_ (Below.mono (by assumption) ?_)) | (with_reducible exact Nat.le_refl _) | omega | (simp only [World.size_alloc, World.size_setCell, World.size_drew]; omega) | (simp; omega) | (simp; done)))⟩
theorem isSymOf_i (kind t : Int) (f : Bool) (w : World) :
    Calls Tryz.prog 24 #[.int .i64 kind, .agg #[.int .i64 t, .bool f]] w fun e w' => e = .returned (.bool (ofB kind t f)) ∧ Below w.heap.size w w' := by
  by_cases ht : isSymB t = true
  · obtain ⟨h1, h2⟩ := isSymB_iff.1 ht
    by_cases k0 : kind = 0
    · subst k0
      by_cases t0 : t = 0
      · subst t0
        have e : ofB 0 0 f = !f := by simp [ofB, isSymB]
        rw [e]
        cases f
        all_goals
          go_enter Tryz.func24, Tryz.ntmps24
          go_wp2_with (first | (go_at_call 30; refine (isSym_i _ _ _).mono ?_; rintro e w1 ⟨rfl, hb⟩; obtain ⟨hc, hf⟩ := bcell hb; have HL := keepL (by (repeat (first | (with_reducible assumption) | (with_reducible apply AllLt.alloc) | (with_reducible apply AllLt.setCell) | (with_reducible apply AllLt.drew) | (with_reducible exact AllLt.nil _)))) hb; have hq := HL; simp only [AllLt, and_true, World.size_alloc, World.size_setCell, World.size_drew] at hq; have hbs := hb.size; try simp only [World.size_alloc, World.size_setCell, World.size_drew] at hbs))
          go_returns; exact ⟨rfl, by (repeat' (first | (with_reducible exact Below.refl _ _) | (with_reducible assumption) | (with_reducible refine Below.alloc ?_ ?_ _) | (with_reducible refine Below.drew ?_) | (with_reducible refine Below.setCell ?_ ?_ _) | (with_reducible refine Below.trans ?_ (Below.mono (by assumption) ?_)) | (with_reducible exact Nat.le_refl _) | omega | (simp only [World.size_alloc, World.size_setCell, World.size_drew]; omega) | (simp; omega) | (simp; done)))⟩
      · have e : ofB 0 t f = false := by simp [ofB, t0]
        rw [e]
        have t1 : (t == 0) = false := by simpa using t0
        cases f
        all_goals
          go_enter Tryz.func24, Tryz.ntmps24
          go_wp2_with (first | (go_at_call 30; refine (isSym_i _ _ _).mono ?_; rintro e w1 ⟨rfl, hb⟩; obtain ⟨hc, hf⟩ := bcell hb; have HL := keepL (by (repeat (first | (with_reducible assumption) | (with_reducible apply AllLt.alloc) | (with_reducible apply AllLt.setCell) | (with_reducible apply AllLt.drew) | (with_reducible exact AllLt.nil _)))) hb; have hq := HL; simp only [AllLt, and_true, World.size_alloc, World.size_setCell, World.size_drew] at hq; have hbs := hb.size; try simp only [World.size_alloc, World.size_setCell, World.size_drew] at hbs))
          go_returns; exact ⟨rfl, by (repeat' (first | (with_reducible exact Below.refl _ _) | (with_reducible assumption) | (with_reducible refine Below.alloc ?_ ?_ _) | (with_reducible refine Below.drew ?_) | (with_reducible refine Below.setCell ?_ ?_ _) | (with_reducible refine Below.trans ?_ (Below.mono (by assumption) ?_)) | (with_reducible exact Nat.le_refl _) | omega | (simp only [World.size_alloc, World.size_setCell, World.size_drew]; omega) | (simp; omega) | (simp; done)))⟩
    · by_cases k1 : kind = 1
      · subst k1
        have e : ofB 1 t f = (t == 0) := by simp [ofB, ht]
        rw [e]
        go_enter Tryz.func24, Tryz.ntmps24
        go_wp2_with (first | (go_at_call 30; refine (isSym_i _ _ _).mono ?_; rintro e w1 ⟨rfl, hb⟩; obtain ⟨hc, hf⟩ := bcell hb; have HL := keepL (by (repeat (first | (with_reducible assumption) | (with_reducible apply AllLt.alloc) | (with_reducible apply AllLt.setCell) | (with_reducible apply AllLt.drew) | (with_reducible exact AllLt.nil _)))) hb; have hq := HL; simp only [AllLt, and_true, World.size_alloc, World.size_setCell, World.size_drew] at hq; have hbs := hb.size; try simp only [World.size_alloc, World.size_setCell, World.size_drew] at hbs))
        go_returns; exact ⟨rfl, by (repeat' (first | (with_reducible exact Below.refl _ _) | (with_reducible assumption) | (with_reducible refine Below.alloc ?_ ?_ _) | (with_reducible refine Below.drew ?_) | (with_reducible refine Below.setCell ?_ ?_ _) | (with_reducible refine Below.trans ?_ (Below.mono (by assumption) ?_)) | (with_reducible exact Nat.le_refl _) | omega | (simp only [World.size_alloc, World.size_setCell, World.size_drew]; omega) | (simp; omega) | (simp; done)))⟩
      · by_cases k2 : kind = 2
        · subst k2
          have e : ofB 2 t f = (t % 2 == 0) := by simp [ofB, ht]
          rw [e]
          go_enter Tryz.func24, Tryz.ntmps24
          go_wp2_with (first | (go_at_call 30; refine (isSym_i _ _ _).mono ?_; rintro e w1 ⟨rfl, hb⟩; obtain ⟨hc, hf⟩ := bcell hb; have HL := keepL (by (repeat (first | (with_reducible assumption) | (with_reducible apply AllLt.alloc) | (with_reducible apply AllLt.setCell) | (with_reducible apply AllLt.drew) | (with_reducible exact AllLt.nil _)))) hb; have hq := HL; simp only [AllLt, and_true, World.size_alloc, World.size_setCell, World.size_drew] at hq; have hbs := hb.size; try simp only [World.size_alloc, World.size_setCell, World.size_drew] at hbs))
          go_returns; exact ⟨rfl, by (repeat' (first | (with_reducible exact Below.refl _ _) | (with_reducible assumption) | (with_reducible refine Below.alloc ?_ ?_ _) | (with_reducible refine Below.drew ?_) | (with_reducible refine Below.setCell ?_ ?_ _) | (with_reducible refine Below.trans ?_ (Below.mono (by assumption) ?_)) | (with_reducible exact Nat.le_refl _) | omega | (simp only [World.size_alloc, World.size_setCell, World.size_drew]; omega) | (simp; omega) | (simp; done)))⟩
        · by_cases k3 : kind = 3
          · subst k3
            have e : ofB 3 t f = true := by simp [ofB, ht]
            rw [e]
            go_enter Tryz.func24, Tryz.ntmps24
            go_wp2_with (first | (go_at_call 30; refine (isSym_i _ _ _).mono ?_; rintro e w1 ⟨rfl, hb⟩; obtain ⟨hc, hf⟩ := bcell hb; have HL := keepL (by (repeat (first | (with_reducible assumption) | (with_reducible apply AllLt.alloc) | (with_reducible apply AllLt.setCell) | (with_reducible apply AllLt.drew) | (with_reducible exact AllLt.nil _)))) hb; have hq := HL; simp only [AllLt, and_true, World.size_alloc, World.size_setCell, World.size_drew] at hq; have hbs := hb.size; try simp only [World.size_alloc, World.size_setCell, World.size_drew] at hbs))
            go_returns; exact ⟨rfl, by (repeat' (first | (with_reducible exact Below.refl _ _) | (with_reducible assumption) | (with_reducible refine Below.alloc ?_ ?_ _) | (with_reducible refine Below.drew ?_) | (with_reducible refine Below.setCell ?_ ?_ _) | (with_reducible refine Below.trans ?_ (Below.mono (by assumption) ?_)) | (with_reducible exact Nat.le_refl _) | omega | (simp only [World.size_alloc, World.size_setCell, World.size_drew]; omega) | (simp; omega) | (simp; done)))⟩
          · have e : ofB kind t f = false := by simp [ofB, k0, k1, k2, k3]
            rw [e]
            clear e
            have q0 : (kind == 0) = false := by simpa using k0
            have q1 : (kind == 1) = false := by simpa using k1
            have q2 : (kind == 2) = false := by simpa using k2
            have q3 : (kind == 3) = false := by simpa using k3
            clear k0 k1 k2 k3
            go_enter Tryz.func24, Tryz.ntmps24
            go_wp2_with (first | (go_at_call 30; refine (isSym_i _ _ _).mono ?_; rintro e w1 ⟨rfl, hb⟩; obtain ⟨hc, hf⟩ := bcell hb; have HL := keepL (by (repeat (first | (with_reducible assumption) | (with_reducible apply AllLt.alloc) | (with_reducible apply AllLt.setCell) | (with_reducible apply AllLt.drew) | (with_reducible exact AllLt.nil _)))) hb; have hq := HL; simp only [AllLt, and_true, World.size_alloc, World.size_setCell, World.size_drew] at hq; have hbs := hb.size; try simp only [World.size_alloc, World.size_setCell, World.size_drew] at hbs))
            go_returns; exact ⟨rfl, by (repeat' (first | (with_reducible exact Below.refl _ _) | (with_reducible assumption) | (with_reducible refine Below.alloc ?_ ?_ _) | (with_reducible refine Below.drew ?_) | (with_reducible refine Below.setCell ?_ ?_ _) | (with_reducible refine Below.trans ?_ (Below.mono (by assumption) ?_)) | (with_reducible exact Nat.le_refl _) | omega | (simp only [World.size_alloc, World.size_setCell, World.size_drew]; omega) | (simp; omega) | (simp; done)))⟩
  · have e : ofB kind t f = false := by simp [ofB, ht]
    rw [e]
    go_enter Tryz.func24, Tryz.ntmps24
    go_wp2_with (first | (go_at_call 30; refine (isSym_i _ _ _).mono ?_; rintro e w1 ⟨rfl, hb⟩; obtain ⟨hc, hf⟩ := bcell hb; have HL := keepL (by (repeat (first | (with_reducible assumption) | (with_reducible apply AllLt.alloc) | (with_reducible apply AllLt.setCell) | (with_reducible apply AllLt.drew) | (with_reducible exact AllLt.nil _)))) hb; have hq := HL; simp only [AllLt, and_true, World.size_alloc, World.size_setCell, World.size_drew] at hq; have hbs := hb.size; try simp only [World.size_alloc, World.size_setCell, World.size_drew] at hbs))
    go_returns; exact ⟨rfl, by (repeat' (first | (with_reducible exact Below.refl _ _) | (with_reducible assumption) | (with_reducible refine Below.alloc ?_ ?_ _) | (with_reducible refine Below.drew ?_) | (with_reducible refine Below.setCell ?_ ?_ _) | (with_reducible refine Below.trans ?_ (Below.mono (by assumption) ?_)) | (with_reducible exact Nat.le_refl _) | omega | (simp only [World.size_alloc, World.size_setCell, World.size_drew]; omega) | (simp; omega) | (simp; done)))⟩
end Go.Proofs.YtfdgijmmgllmgaaGreatDoor
namespace Go.Proofs.YtfdgijmmgllmgaaGreatDoor
open Go.ChangeShapes Go.WideShapes Go.ChangeAt Go.RowKit Go.Joins 
set_option linter.unusedSimpArgs false
set_option linter.unusedVariables false
def symsTo (kind : Int) (k : Nat) : List (Int × Bool) := ((List.range k).map symK).filter fun p => ofB kind p.1 p.2
theorem symsTo_yes {kind : Int} {k : Nat} (h : ofB kind (symK k).1 (symK k).2 = true) : symsTo kind (k + 1) = symsTo kind k ++ [symK k] := by
  simp [symsTo, List.range_succ, h]
theorem symsTo_no {kind : Int} {k : Nat} (h : ofB kind (symK k).1 (symK k).2 = false) : symsTo kind (k + 1) = symsTo kind k := by
  simp [symsTo, List.range_succ, h]
theorem symsTo_le (kind : Int) (k : Nat) : (symsTo kind k).length ≤ k := by
  have := List.length_filter_le (fun p => ofB kind p.1 p.2) ((List.range k).map symK)
  simpa [symsTo] using this
set_option maxHeartbeats 1600000 in
set_option maxRecDepth 1000000 in
theorem symsOf_i (kind : Int) (w : World) :
    Calls Tryz.prog 9 #[.int .i64 kind] w fun e w' => ∃ g cap, e = .returned (.slice (some ⟨g, 0, Option.none⟩) (symsTo kind 8).length cap) ∧ w'.ownsRow w.heap.size 52 2 (.slice (some ⟨g, 0, Option.none⟩) (symsTo kind 8).length cap) (symsTo kind 8).length (symCells (symsTo kind 8)) ∧ Below w.heap.size w w' := by
  obtain ⟨i0, hi, hz0, hz1, hz2⟩ := info_parts infoSym
  go_enter Tryz.func9, Tryz.ntmps9
  go_wp2
  go_loopw [3, 7] (fun v i wr => ∃ k : Nat, k ≤ 8 ∧ i = .int .i64 k ∧ wr.ownsRow w.heap.size 52 2 v (symsTo kind k).length (symCells (symsTo kind k)) ∧ v ≠ .slice Option.none 0 0 ∧ Below w.heap.size w wr)
    (fun _ i _ => 8 - (intOf i).toNat)
  case atStart => exact ⟨0, by omega, rfl, World.ownsRow_lit _ #[] 0 (by simp) (by unfold maxLen; omega) rfl, by simp, by (repeat' (first | (with_reducible exact Below.refl _ _) | (with_reducible assumption) | (with_reducible refine Below.alloc ?_ ?_ _) | (with_reducible refine Below.drew ?_) | (with_reducible refine Below.setCell ?_ ?_ _) | (with_reducible refine Below.trans ?_ (Below.mono (by assumption) ?_)) | (with_reducible exact Nat.le_refl _) | omega | (simp only [World.size_alloc, World.size_setCell, World.size_drew]; omega) | (simp; omega) | (simp; done)))⟩
  case round =>
    obtain ⟨k, hk, rfl, hown, hnn, hbel⟩ := hrel
    have HNN : Hid (u3 ≠ .slice Option.none 0 0) := hnn
    clear hnn
    have hbase := hbel.size
    by_cases hlt : k < 8
    · have hle := symsTo_le kind k
      cases hB : ofB kind ((k : Int) % 4) (decide (4 ≤ (k : Int))) with
      | true =>
        have hy := symsTo_yes (kind := kind) (k := k) hB
        have HY : Hid (symsTo kind (k + 1) = symsTo kind k ++ [symK k]) := hy
        clear hy
        go_wp2_with (first | (go_at_call 23; refine (symAt_i _ _ hlt).mono ?_; rintro e w1 ⟨rfl, hb⟩; obtain ⟨hc, hf⟩ := bcell hb; have HL := keepL (by (repeat (first | (with_reducible assumption) | (with_reducible apply AllLt.alloc) | (with_reducible apply AllLt.setCell) | (with_reducible apply AllLt.drew) | (with_reducible exact AllLt.nil _)))) hb; have hq := HL; simp only [AllLt, and_true, World.size_alloc, World.size_setCell, World.size_drew] at hq; have hbs := hb.size; try simp only [World.size_alloc, World.size_setCell, World.size_drew] at hbs) | (go_at_call 24; refine (isSymOf_i _ _ _ _).mono ?_; rintro e w1 ⟨rfl, hb⟩; obtain ⟨hc, hf⟩ := bcell hb; have HL := keepL (by (repeat (first | (with_reducible assumption) | (with_reducible apply AllLt.alloc) | (with_reducible apply AllLt.setCell) | (with_reducible apply AllLt.drew) | (with_reducible exact AllLt.nil _)))) hb; have hq := HL; simp only [AllLt, and_true, World.size_alloc, World.size_setCell, World.size_drew] at hq; have hbs := hb.size; try simp only [World.size_alloc, World.size_setCell, World.size_drew] at hbs) | (at_builtin; go_loud (refine wpList_append_own _ rfl _ _ 47 rfl w.heap.size 52 i0 (.agg #[.int .i64 0, .bool false]) 2 16 Tryz.underlying47 hi hz0 hz1 hz2 rfl (by decide) _ (symsTo kind k).length (symCells (symsTo kind k)) rfl ?hown ⟨w1.heap.size, 0, Option.none⟩ 1 1 [.int .i64 (symK k).1, .bool (symK k).2] rfl rfl ?c1 ?c2 ?c3 ?c4 ?c5 ?_)))
        case hown => (change World.ownsRow _ _ _ _ u3 _ _; (repeat (first | (with_reducible assumption) | (with_reducible refine World.ownsRow.alloc ?_ _) | (with_reducible refine World.ownsRow.drew ?_) | (with_reducible refine ownsBelow (by assumption) ?_))))
        case c1 =>
          intro j u hj
          rcases j with _ | _ | j <;> simp [symK] at hj <;> subst hj <;> simp [Addr.add]
        case c2 =>
          intro u hu
          simp at hu
          rcases hu with rfl | rfl <;> rfl
        case c3 => (unfold maxLen; omega)
        case c4 => omega
        case c5 => first | omega | (simp only [World.size_alloc, World.size_setCell, World.size_drew]; omega)
        intro v' w2 hown' hgrow hvn
        have HVN : Hid (v' ≠ .slice Option.none 0 0) := hvn
        clear hvn
        have hb2 : Below w.heap.size w w2 := Below.grown (by (repeat' (first | (with_reducible exact Below.refl _ _) | (with_reducible assumption) | (with_reducible refine Below.alloc ?_ ?_ _) | (with_reducible refine Below.drew ?_) | (with_reducible refine Below.setCell ?_ ?_ _) | (with_reducible refine Below.trans ?_ (Below.mono (by assumption) ?_)) | (with_reducible exact Nat.le_refl _) | omega | (simp only [World.size_alloc, World.size_setCell, World.size_drew]; omega) | (simp; omega) | (simp; done)))) hgrow (by first | omega | (simp only [World.size_alloc, World.size_setCell, World.size_drew]; omega)) (fun q hq => (hown.lt q hq).1)
        clear hgrow
        go_wp2
        go_roundw
        case rel => exact ⟨k + 1, by omega, by go_num, by rw [HY.out, symCells_snoc]; simpa using hown', HVN.out, hb2⟩
        case measure => simp [intOf]; omega
      | false =>
        have hn := symsTo_no (kind := kind) (k := k) hB
        have HN : Hid (symsTo kind (k + 1) = symsTo kind k) := hn
        clear hn
        go_wp2_with (first | (go_at_call 23; refine (symAt_i _ _ hlt).mono ?_; rintro e w1 ⟨rfl, hb⟩; obtain ⟨hc, hf⟩ := bcell hb; have HL := keepL (by (repeat (first | (with_reducible assumption) | (with_reducible apply AllLt.alloc) | (with_reducible apply AllLt.setCell) | (with_reducible apply AllLt.drew) | (with_reducible exact AllLt.nil _)))) hb; have hq := HL; simp only [AllLt, and_true, World.size_alloc, World.size_setCell, World.size_drew] at hq; have hbs := hb.size; try simp only [World.size_alloc, World.size_setCell, World.size_drew] at hbs) | (go_at_call 24; refine (isSymOf_i _ _ _ _).mono ?_; rintro e w1 ⟨rfl, hb⟩; obtain ⟨hc, hf⟩ := bcell hb; have HL := keepL (by (repeat (first | (with_reducible assumption) | (with_reducible apply AllLt.alloc) | (with_reducible apply AllLt.setCell) | (with_reducible apply AllLt.drew) | (with_reducible exact AllLt.nil _)))) hb; have hq := HL; simp only [AllLt, and_true, World.size_alloc, World.size_setCell, World.size_drew] at hq; have hbs := hb.size; try simp only [World.size_alloc, World.size_setCell, World.size_drew] at hbs))
        go_roundw
        case rel => exact ⟨k + 1, by omega, by go_num, by rw [HN.out]; (repeat (first | (with_reducible assumption) | (with_reducible refine World.ownsRow.alloc ?_ _) | (with_reducible refine World.ownsRow.drew ?_) | (with_reducible refine ownsBelow (by assumption) ?_))), HNN.out, by (repeat' (first | (with_reducible exact Below.refl _ _) | (with_reducible assumption) | (with_reducible refine Below.alloc ?_ ?_ _) | (with_reducible refine Below.drew ?_) | (with_reducible refine Below.setCell ?_ ?_ _) | (with_reducible refine Below.trans ?_ (Below.mono (by assumption) ?_)) | (with_reducible exact Nat.le_refl _) | omega | (simp only [World.size_alloc, World.size_setCell, World.size_drew]; omega) | (simp; omega) | (simp; done)))⟩
        case measure => simp [intOf]; omega
    · have hk8 : k = 8 := by omega
      subst hk8
      rcases ownsRow_forms hown with ⟨e, _⟩ | ⟨g, cap, rfl⟩
      · exact absurd e HNN.out
      go_wp2
      go_ret
      exact ⟨_, _, rfl, hown, hbel⟩
end Go.Proofs.YtfdgijmmgllmgaaGreatDoor
namespace Go.Proofs.YtfdgijmmgllmgaaGreatDoor
open Go.ChangeShapes Go.WideShapes Go.ChangeAt Go.RowKit Go.Joins
set_option linter.unusedSimpArgs false
set_option linter.unusedVariables false
set_option maxRecDepth 100000
attribute [local go_sem] store_f
open Ieee Go.Lib
def actP (s : Int × Bool) (p : PtW) : PtW := ⟨actV s.1.toNat s.2 p.1.1 (ngB p.1.1) p.1.2 (ngB p.1.2), act_pt _ _ p.2.1 p.2.2⟩
def ptOf {x y : Nat} (hx : okB x = true) (hy : okB y = true) : PtW := ⟨(cleanB x, cleanB y), pt_clean hx, pt_clean hy⟩
def imgs (l : List (Int × Bool)) (p : PtW) : List PtW := l.map fun s => actP s p
theorem actM_of {x y : Nat} (hx : okB x = true) (hy : okB y = true) {s : Int × Bool} (h : isSymB s.1 = true) : ActM s.1 s.2 x y (actP s (ptOf hx hy)).1.1 (actP s (ptOf hx hy)).1.2 := by
  obtain ⟨h1, h2⟩ := isSymB_iff.1 h
  have := act_of (t := s.1.toNat) s.2 (by omega) hx hy
  rwa [Int.toNat_of_nonneg h1] at this
theorem actM_pt (p : PtW) {s : Int × Bool} (h : isSymB s.1 = true) : ActM s.1 s.2 p.1.1 p.1.2 (actP s p).1.1 (actP s p).1.2 := by
  obtain ⟨h1, h2⟩ := isSymB_iff.1 h
  have := act_of_pt (t := s.1.toNat) s.2 (by omega) p.2.1 p.2.2
  rwa [Int.toNat_of_nonneg h1] at this
structure Acts (l : List (Int × Bool)) (x y : Nat) (p : PtW) : Prop where
  call : ∀ k, k < l.length → ActM (l.getD k (0, false)).1 (l.getD k (0, false)).2 x y (actP (l.getD k (0, false)) p).1.1 (actP (l.getD k (0, false)) p).1.2
theorem getD_memS {l : List (Int × Bool)} {k : Nat} (h : k < l.length) : l.getD k (0, false) ∈ l := by simp [List.getD, h]
theorem acts_of {l : List (Int × Bool)} (hl : ∀ s ∈ l, isSymB s.1 = true) {x y : Nat} (hx : okB x = true) (hy : okB y = true) : Acts l x y (ptOf hx hy) :=
  ⟨fun k hk => actM_of hx hy (hl _ (getD_memS hk))⟩
theorem acts_pt {l : List (Int × Bool)} (hl : ∀ s ∈ l, isSymB s.1 = true) (p : PtW) : Acts l p.1.1 p.1.2 p :=
  ⟨fun k hk => actM_pt p (hl _ (getD_memS hk))⟩
structure PtYes (x y : Nat) : Prop where
  call : ∀ w : World, Calls Tryz.prog 75 #[.complex .f32 x y] w fun e w' => e = .returned (.bool true) ∧ w' = w
structure SymsM (kind : Int) (l : List (Int × Bool)) : Prop where
  call : ∀ w : World, Calls Tryz.prog 9 #[.int .i64 kind] w fun e w' => ∃ g cap, e = .returned (.slice (some ⟨g, 0, Option.none⟩) l.length cap) ∧ w'.ownsRow w.heap.size 52 2 (.slice (some ⟨g, 0, Option.none⟩) l.length cap) l.length (symCells l) ∧ Below w.heap.size w w'
end Go.Proofs.YtfdgijmmgllmgaaGreatDoor
namespace Go.Proofs.YtfdgijmmgllmgaaGreatDoor
open Go.ChangeShapes Go.WideShapes Go.ChangeAt Go.RowKit Go.Joins
set_option linter.unusedSimpArgs false
set_option linter.unusedVariables false
set_option maxRecDepth 100000
attribute [local go_sem] store_f
open Ieee Go.Lib
def actI (s : Int × Bool) (z : Int × Int) : Int × Int :=
  match s.1.toNat, s.2 with
  | 0, false => (z.1, z.2)
  | 0, true => (z.1, -z.2)
  | 1, false => (-z.2, z.1)
  | 1, true => (z.2, z.1)
  | 2, false => (-z.1, -z.2)
  | 2, true => (-z.1, z.2)
  | _, false => (z.2, -z.1)
  | _, true => (-z.2, -z.1)
theorem val_ng {x : Nat} (h : Fin32 x) : valOf F32 (ngB x) = -valOf F32 x := by
  have hr := fin_rung h
  unfold ngB
  by_cases h0 : rungOf F32 x = 0
  · rw [if_pos h0, val_zero, val_eq_zero.2 h0]; rfl
  · rw [if_neg h0]
    unfold valOf
    rw [rungOf_word F32 _ (by rw [F32_sw]; omega), negOf_word F32 _ (by rw [F32_sw]; omega)]
    cases negOf F32 x <;> simp
def vP (p : PtW) : Int × Int := (vX p, vY p)
theorem vP_inj {p q : PtW} (h : vP p = vP q) : p = q := ptW_inj (Prod.mk.inj h).1 (Prod.mk.inj h).2
theorem vP_act (s : Int × Bool) (p : PtW) : vP (actP s p) = actI s (vP p) := by
  have nx := val_ng p.2.1.cl.fin
  have ny := val_ng p.2.2.cl.fin
  obtain ⟨t, f⟩ := s
  unfold vP vX vY actP actI
  dsimp only
  generalize t.toNat = n
  rcases n with _ | _ | _ | n <;> cases f <;> simp [actV, nx, ny]
theorem syms0 : symsTo 0 8 = [(0, false)] := by decide
theorem syms1 : symsTo 1 8 = [(0, false), (0, true)] := by decide
theorem syms2 : symsTo 2 8 = [(0, false), (2, false), (0, true), (2, true)] := by decide
theorem syms3 : symsTo 3 8 = [(0, false), (1, false), (2, false), (3, false), (0, true), (1, true), (2, true), (3, true)] := by decide
end Go.Proofs.YtfdgijmmgllmgaaGreatDoor
namespace Go.Proofs.YtfdgijmmgllmgaaGreatDoor
open Go.ChangeShapes Go.WideShapes Go.ChangeAt Go.RowKit Go.Joins 
set_option linter.unusedSimpArgs false
set_option linter.unusedVariables false
def SymRow (W : World) (g : Nat) (l : List (Int × Bool)) : Prop :=
  ∀ k, k < l.length → W.cell? ⟨g, k * 2, Option.none⟩ = some (.int .i64 (l.getD k (0, false)).1) ∧ W.cell? ⟨g, k * 2 + 1, Option.none⟩ = some (.bool (l.getD k (0, false)).2)
theorem symCells_get : ∀ (l : List (Int × Bool)) (k : Nat), k < l.length → (symCells l)[k * 2]? = some (.int .i64 (l.getD k (0, false)).1) ∧ (symCells l)[k * 2 + 1]? = some (.bool (l.getD k (0, false)).2)
  | p :: l, 0, _ => ⟨rfl, rfl⟩
  | p :: l, k + 1, h => by
    have ih := symCells_get l k (by simpa using h)
    have e : symCells (p :: l) = .int .i64 p.1 :: .bool p.2 :: symCells l := rfl
    rw [e, show (k + 1) * 2 = k * 2 + 1 + 1 by omega]
    simpa using ih
theorem symRow_of {W : World} {base g n cap : Nat} {l : List (Int × Bool)} (h : W.ownsRow base 52 2 (.slice (some ⟨g, 0, Option.none⟩) n cap) n (symCells l)) (hn : l.length = n) : SymRow W g l := fun k hk => by
  have hg := symCells_get l k hk
  rw [h.cellAt _ (by omega), h.cellAt _ (by omega)]
  exact hg
theorem SymRow.below {W w1 : World} {g : Nat} {l : List (Int × Bool)} (h : SymRow W g l) (hb : Below W.heap.size W w1) : SymRow w1 g l :=
  fun k hk => ⟨cBelow hb (h k hk).1, cBelow hb (h k hk).2⟩
theorem SymRow.set {W : World} {g : Nat} {a : Addr} {v : Value} {l : List (Int × Bool)} (h : SymRow W g l) (hne : g ≠ a.block) : SymRow (W.setCell a v) g l :=
  fun k hk => ⟨cSet hne (h k hk).1, cSet hne (h k hk).2⟩
theorem SymRow.alloc {W : World} {g : Nat} {o : Obj} {l : List (Int × Bool)} (h : SymRow W g l) : SymRow (W.alloc o) g l :=
  fun k hk => ⟨cAlloc (h k hk).1, cAlloc (h k hk).2⟩
end Go.Proofs.YtfdgijmmgllmgaaGreatDoor
namespace Go.Proofs.YtfdgijmmgllmgaaGreatDoor
open Go.ChangeShapes Go.WideShapes Go.ChangeAt Go.RowKit Go.Joins 
set_option linter.unusedSimpArgs false
set_option linter.unusedVariables false
set_option maxHeartbeats 4000000 in
set_option maxRecDepth 1000000 in
theorem has_yes (l : List (Int × Bool)) (g n cap : Nat) (t : Int) (f : Bool) (w : World) (hn : l.length = n) (hsm : n ≤ 1000000) (hl : SymRow w g l) (hmem : (t, f) ∈ l) :
    Calls Tryz.prog 10 #[.slice (some ⟨g, 0, Option.none⟩) n cap, .agg #[.int .i64 t, .bool f]] w fun e w' => e = .returned (.bool true) ∧ Below w.heap.size w w' := by
  have HR : Hid (SymRow w g l) := hl
  have HL : Hid (l.length = n) := hn
  have HM : Hid ((t, f) ∈ l) := hmem
  clear hl hn hmem
  go_enter Tryz.func10, Tryz.ntmps10
  go_wp2
  go_loopw [5] (fun i wr => ∃ k : Nat, k ≤ n ∧ i = .int .i64 k ∧ (t, f) ∈ l.drop k ∧ Below w.heap.size w wr ∧ Blk wr w.heap.size #[.int .i64 t, .bool f] 52) (fun i _ => n - (intOf i).toNat)
  case atStart => exact ⟨0, by omega, rfl, HM.out, by (repeat' (first | (with_reducible exact Below.refl _ _) | (with_reducible assumption) | (with_reducible refine Below.alloc ?_ ?_ _) | (with_reducible refine Below.drew ?_) | (with_reducible refine Below.setCell ?_ ?_ _) | (with_reducible refine Below.trans ?_ (Below.mono (by assumption) ?_)) | (with_reducible exact Nat.le_refl _) | omega | (simp only [World.size_alloc, World.size_setCell, World.size_drew]; omega) | (simp; omega) | (simp; done))), Blk.new _ _ _⟩
  case round =>
    obtain ⟨k, hk, rfl, hin, hbel, hblk⟩ := hrel
    have HIN : Hid ((t, f) ∈ l.drop k) := hin
    have hlt : k < n := by
      have h1 := List.length_pos_of_mem hin
      have h2 := HL.out
      simp at h1
      omega
    clear hin
    have b0 : wr.cell? ⟨w.heap.size, 0, Option.none⟩ = some (.int .i64 t) := hblk.cell 0
    have b1 : wr.cell? ⟨w.heap.size, 1, Option.none⟩ = some (.bool f) := hblk.cell 1
    have HBK : Hid (Blk wr w.heap.size #[.int .i64 t, .bool f] 52) := hblk
    clear hblk
    have hA := (HR.out).below hbel k (by have := HL.out; omega)
    have hd : l.drop k = l.getD k (0, false) :: l.drop (k + 1) := by
      have h2 := HL.out
      rw [List.drop_eq_getElem_cons (by omega)]
      simp [List.getD, show k < l.length by omega]
    generalize l.getD k (0, false) = p at hA hd
    obtain ⟨t2, f2⟩ := p
    obtain ⟨a0, a1⟩ := hA
    simp only [] at a0 a1
    have HD : Hid (l.drop k = (t2, f2) :: l.drop (k + 1)) := hd
    clear hd
    by_cases ht : t2 = t
    · subst ht
      by_cases hf : f2 = f
      · subst hf
        go_wp2_with fail
        go_quiet (fail)
        go_wp2
        go_ret
        exact ⟨rfl, hbel.trans (below_draws _ _ _)⟩
      · have hf2 : (f2 == f) = false := by simpa using hf
        go_wp2_with fail
        go_quiet (fail)
        go_wp2
        have hds := hbel.size
        go_roundw
        case rel =>
          refine ⟨k + 1, by omega, by go_num, ?_, hbel.trans (below_draws _ _ _), HBK.out⟩
          have h3 := HIN.out
          rw [HD.out] at h3
          rcases List.mem_cons.1 h3 with e | h3
          · exact absurd (Prod.mk.inj e).2.symm hf
          · exact h3
        case measure => simp [intOf]; omega
    · have ht2 : (t2 == t) = false := by simpa using ht
      go_wp2_with fail
      go_quiet (fail)
      go_wp2
      have hds := hbel.size
      go_roundw
      case rel =>
        refine ⟨k + 1, by omega, by go_num, ?_, hbel.trans (below_draws _ _ _), HBK.out⟩
        have h3 := HIN.out
        rw [HD.out] at h3
        rcases List.mem_cons.1 h3 with e | h3
        · exact absurd (Prod.mk.inj e).1.symm ht
        · exact h3
      case measure => simp [intOf]; omega
theorem syms_back (kind : Int) (h0 : 0 ≤ kind) (h3 : kind ≤ 3) : ∀ p ∈ symsTo kind 8, (backT p.1 p.2, backF p.1 p.2) ∈ symsTo kind 8 := by
  rcases (by omega : kind = 0 ∨ kind = 1 ∨ kind = 2 ∨ kind = 3) with rfl | rfl | rfl | rfl <;> decide
theorem syms_range (kind : Int) (h0 : 0 ≤ kind) (h3 : kind ≤ 3) : ∀ p ∈ symsTo kind 8, isSymB p.1 = true := by
  rcases (by omega : kind = 0 ∨ kind = 1 ∨ kind = 2 ∨ kind = 3) with rfl | rfl | rfl | rfl <;> decide
end Go.Proofs.YtfdgijmmgllmgaaGreatDoor
namespace Go.Proofs.YtfdgijmmgllmgaaGreatDoor
open Go.ChangeShapes Go.WideShapes Go.ChangeAt Go.RowKit Go.Joins
set_option linter.unusedSimpArgs false
set_option linter.unusedVariables false
set_option maxRecDepth 100000
attribute [local go_sem] store_f
open Ieee Go.Lib
def wedI (kind : Int) (z : Int × Int) : Bool :=
  if kind = 0 then true else if kind = 1 then decide (0 ≤ z.2) else if kind = 2 then decide (0 ≤ z.1) && decide (0 ≤ z.2) else decide (0 ≤ z.2) && decide (z.2 ≤ z.1)
def wed (kind : Int) (p : PtW) : Bool := wedI kind (vP p)
theorem wed_some_I (kind X Y : Int) (h0 : 0 ≤ kind) (h3 : kind ≤ 3) : ∃ s ∈ symsTo kind 8, wedI kind (actI s (X, Y)) = true := by
  rcases (by omega : kind = 0 ∨ kind = 1 ∨ kind = 2 ∨ kind = 3) with rfl | rfl | rfl | rfl
  · rw [syms0]; simp [wedI]
  · rw [syms1]; simp [wedI, actI]; omega
  · rw [syms2]; simp [wedI, actI]; omega
  · rw [syms3]; simp [wedI, actI]; omega
theorem wed_one_I (kind X Y : Int) (h0 : 0 ≤ kind) (h3 : kind ≤ 3) : ∀ s ∈ symsTo kind 8, ∀ r ∈ symsTo kind 8, wedI kind (actI s (X, Y)) = true → wedI kind (actI r (X, Y)) = true → actI s (X, Y) = actI r (X, Y) := by
  intro s hs r hr h1 h2
  rcases (by omega : kind = 0 ∨ kind = 1 ∨ kind = 2 ∨ kind = 3) with rfl | rfl | rfl | rfl
  · rw [syms0] at hs hr
    simp at hs hr
    subst hs hr; rfl
  · rw [syms1] at hs hr
    simp at hs hr
    rcases hs with rfl | rfl <;> rcases hr with rfl | rfl <;> simp [wedI, actI] at h1 h2 ⊢ <;> omega
  · rw [syms2] at hs hr
    simp at hs hr
    rcases hs with rfl | rfl | rfl | rfl <;> rcases hr with rfl | rfl | rfl | rfl <;> simp [wedI, actI] at h1 h2 ⊢ <;> omega
  · rw [syms3] at hs hr
    simp at hs hr
    rcases hs with rfl | rfl | rfl | rfl | rfl | rfl | rfl | rfl <;> rcases hr with rfl | rfl | rfl | rfl | rfl | rfl | rfl | rfl <;> simp [wedI, actI] at h1 h2 ⊢ <;> omega
theorem wed_some {kind : Int} (h0 : 0 ≤ kind) (h3 : kind ≤ 3) (p : PtW) : ∃ s ∈ symsTo kind 8, wed kind (actP s p) = true := by
  obtain ⟨s, hs, h⟩ := wed_some_I kind (vX p) (vY p) h0 h3
  exact ⟨s, hs, by unfold wed; rw [vP_act]; exact h⟩
theorem wed_one {kind : Int} (h0 : 0 ≤ kind) (h3 : kind ≤ 3) (p : PtW) {s r : Int × Bool} (hs : s ∈ symsTo kind 8) (hr : r ∈ symsTo kind 8) (h1 : wed kind (actP s p) = true) (h2 : wed kind (actP r p) = true) : actP s p = actP r p := by
  apply vP_inj
  unfold wed at h1 h2
  rw [vP_act] at *
  rw [vP_act]
  exact wed_one_I kind _ _ h0 h3 s hs r hr h1 h2
theorem syms_then {kind : Int} (h0 : 0 ≤ kind) (h3 : kind ≤ 3) : ∀ s ∈ symsTo kind 8, ∀ r ∈ symsTo kind 8, (thenT s.1 r.1 r.2, thenF s.1 r.1 s.2 r.2) ∈ symsTo kind 8 := by
  rcases (by omega : kind = 0 ∨ kind = 1 ∨ kind = 2 ∨ kind = 3) with rfl | rfl | rfl | rfl <;> decide
theorem actP_then {s r : Int × Bool} (hs : isSymB s.1 = true) (hr : isSymB r.1 = true) (p : PtW) : actP r (actP s p) = actP (thenT s.1 r.1 r.2, thenF s.1 r.1 s.2 r.2) p := by
  obtain ⟨a1, a2⟩ := isSymB_iff.1 hs
  obtain ⟨b1, b2⟩ := isSymB_iff.1 hr
  apply Subtype.ext
  have h := act_then s.1.toNat r.1.toNat s.2 r.2 (by omega) (by omega) p.2.1.cl p.2.2.cl
  rw [Int.toNat_of_nonneg a1, Int.toNat_of_nonneg b1] at h
  exact h
theorem fold_same {kind : Int} (h0 : 0 ≤ kind) (h3 : kind ≤ 3) (p q : PtW) (hq : q ∈ imgs (symsTo kind 8) p) {s r : Int × Bool} (hs : s ∈ symsTo kind 8) (hr : r ∈ symsTo kind 8) (h1 : wed kind (actP s p) = true) (h2 : wed kind (actP r q) = true) : actP r q = actP s p := by
  obtain ⟨t, ht, rfl⟩ := List.mem_map.1 hq
  have hrg := syms_range kind h0 h3
  rw [actP_then (hrg t ht) (hrg r hr)] at h2 ⊢
  exact wed_one h0 h3 p (syms_then h0 h3 t ht r hr) hs h2 h1
theorem le_zero {y : Nat} (h : Fin32 y) : (FloatKind.f32.format.order y 0 == some .gt || FloatKind.f32.format.order y 0 == some .eq) = decide (0 ≤ valOf F32 y) := by
  show (F32.order y 0 == some .gt || F32.order y 0 == some .eq) = _
  rw [order_zero h, cmp_eq, cmp_gt, ← Bool.decide_or]
  apply decide_eq_decide.2
  omega
theorem zero_le {y : Nat} (h : Fin32 y) : (FloatKind.f32.format.order 0 y == some .lt || FloatKind.f32.format.order 0 y == some .eq) = decide (0 ≤ valOf F32 y) := by
  show (F32.order 0 y == some .lt || F32.order 0 y == some .eq) = _
  rw [order_fin F32 (fin_of_lt (by omega)) h, val_zero, cmp_eq, cmp_lt, ← Bool.decide_or]
  apply decide_eq_decide.2
  omega
theorem le_le {x y : Nat} (hx : Fin32 x) (hy : Fin32 y) : (FloatKind.f32.format.order y x == some .lt || FloatKind.f32.format.order y x == some .eq) = decide (valOf F32 y ≤ valOf F32 x) := by
  show (F32.order y x == some .lt || F32.order y x == some .eq) = _
  rw [order_fin F32 hy hx, cmp_eq, cmp_lt, ← Bool.decide_or]
  apply decide_eq_decide.2
  omega
structure WedM (kind : Int) (x y : Nat) (b : Bool) : Prop where
  call : ∀ w : World, Calls Tryz.prog 76 #[.int .i64 kind, .complex .f32 x y] w fun e w' => e = .returned (.bool b) ∧ w' = w
set_option maxHeartbeats 2000000 in
theorem inWedge_of {kind : Int} {x y : Nat} (h0 : 0 ≤ kind) (h3 : kind ≤ 3) (PY : PtYes x y) {b1 b2 b4 : Bool}
    (e1 : (FloatKind.f32.format.order x 0 == some .gt || FloatKind.f32.format.order x 0 == some .eq) = b1)
    (e2 : (FloatKind.f32.format.order y 0 == some .gt || FloatKind.f32.format.order y 0 == some .eq) = b2)
    (e3 : (FloatKind.f32.format.order 0 y == some .lt || FloatKind.f32.format.order 0 y == some .eq) = b2)
    (e4 : (FloatKind.f32.format.order y x == some .lt || FloatKind.f32.format.order y x == some .eq) = b4) :
    WedM kind x y (if kind = 0 then true else if kind = 1 then b2 else if kind = 2 then b1 && b2 else b2 && b4) := by
  refine ⟨fun w => ?_⟩
  rcases (by omega : kind = 0 ∨ kind = 1 ∨ kind = 2 ∨ kind = 3) with rfl | rfl | rfl | rfl <;> cases b1 <;> cases b2 <;> cases b4
  all_goals
    go_enter Tryz.func76, Tryz.ntmps76
    go_wp2_with fail
    refine (PY.call _).mono ?_
    rintro e w1 ⟨rfl, rfl⟩
    go_wp2
    all_goals (go_ret; exact ⟨by simp_all, rfl⟩)
theorem inWedge_p {kind : Int} (h0 : 0 ≤ kind) (h3 : kind ≤ 3) (p : PtW) : WedM kind p.1.1 p.1.2 (wed kind p) := by
  have h := inWedge_of h0 h3 (x := p.1.1) (y := p.1.2) ⟨fun w => isPoint_yes _ _ w (ok_in p.2.1.ok) (ok_in p.2.2.ok)⟩ (le_zero p.2.1.cl.fin) (le_zero p.2.2.cl.fin) (zero_le p.2.2.cl.fin) (le_le p.2.1.cl.fin p.2.2.cl.fin)
  exact h
end Go.Proofs.YtfdgijmmgllmgaaGreatDoor
namespace Go.Proofs.YtfdgijmmgllmgaaGreatDoor
open Go.ChangeShapes Go.WideShapes Go.ChangeAt Go.RowKit Go.Joins
set_option linter.unusedSimpArgs false
set_option linter.unusedVariables false
set_option maxRecDepth 100000
attribute [local go_sem] store_f
open Ieee Go.Lib
structure FoldM (kind : Int) (x y a b : Nat) (t : Int) (f : Bool) : Prop where
  call : ∀ w : World, Calls Tryz.prog 62 #[.int .i64 kind, .complex .f32 x y] w fun e w' => e = .returned (.tuple #[.complex .f32 a b, .agg #[.int .i64 t, .bool f], .bool true]) ∧ Below w.heap.size w w'
structure First (kind : Int) (l : List (Int × Bool)) (p : PtW) (n : Nat) : Prop where
  lt : n < l.length
  yes : wed kind (actP (l.getD n (0, false)) p) = true
  no : ∀ j, j < n → wed kind (actP (l.getD j (0, false)) p) = false
structure Weds (kind : Int) (l : List (Int × Bool)) (p : PtW) : Prop where
  call : ∀ k, k < l.length → WedM kind (actP (l.getD k (0, false)) p).1.1 (actP (l.getD k (0, false)) p).1.2 (wed kind (actP (l.getD k (0, false)) p))
set_option maxHeartbeats 4000000 in
set_option maxRecDepth 1000000 in
theorem foldPoint_i {kind : Int} {l : List (Int × Bool)} {x y : Nat} {p : PtW} {n : Nat} (SM : SymsM kind l) (hlen : l.length ≤ 8) (PY : PtYes x y) (A : Acts l x y p) (W : Weds kind l p) (F : First kind l p n) :
    FoldM kind x y (actP (l.getD n (0, false)) p).1.1 (actP (l.getD n (0, false)) p).1.2 (l.getD n (0, false)).1 (l.getD n (0, false)).2 := by
  refine ⟨fun w => ?_⟩
  have hnl := F.lt
  go_enter Tryz.func62, Tryz.ntmps62
  go_wp2_with fail
  refine (PY.call _).mono ?_
  rintro e w0 ⟨rfl, rfl⟩
  go_wp2_with fail
  refine (SM.call _).mono ?_
  rintro e w1 ⟨gs, cs, rfl, own, hb1⟩
  have HS : Hid (SymRow w1 gs l) := symRow_of own rfl
  have HB : Hid (Below w.heap.size w w1) := by show Below _ _ _; (repeat' (first | (with_reducible exact Below.refl _ _) | (with_reducible assumption) | (with_reducible refine Below.alloc ?_ ?_ _) | (with_reducible refine Below.drew ?_) | (with_reducible refine Below.setCell ?_ ?_ _) | (with_reducible refine Below.trans ?_ (Below.mono (by assumption) ?_)) | (with_reducible exact Nat.le_refl _) | omega | (simp only [World.size_alloc, World.size_setCell, World.size_drew]; omega) | (simp; omega) | (simp; done)))
  have HK : Hid (Blk w1 w.heap.size #[.int .i64 0, .bool false] 52) := Blk.belowAt hb1 (Blk.new _ _ _)
  clear own hb1
  go_wp2_with fail
  go_loopw [17] (fun i wr => ∃ k : Nat, k ≤ n ∧ i = .int .i64 k ∧ SymRow wr gs l ∧ Blk wr w.heap.size #[.int .i64 0, .bool false] 52 ∧ Below w.heap.size w wr)
    (fun i _ => l.length - (intOf i).toNat)
  case atStart => exact ⟨0, by omega, rfl, HS.out, HK.out, HB.out⟩
  case round =>
    obtain ⟨k, hk, rfl, hS, hK, hbel⟩ := hrel
    have HR : Hid (SymRow wr gs l) := hS
    have HKR : Hid (Blk wr w.heap.size #[.int .i64 0, .bool false] 52) := hK
    have HBR : Hid (Below w.heap.size w wr) := hbel
    have hbs := hbel.size
    have hkl := hK.lt
    have hlt : k < l.length := by omega
    have HA := A.call k hlt
    have HW := W.call k hlt
    have HNO : Hid (k < n → wed kind (actP (l.getD k (0, false)) p) = false) := F.no k
    have HYES : Hid (k = n → wed kind (actP (l.getD k (0, false)) p) = true) := fun e => by rw [e]; exact F.yes
    obtain ⟨c0, c1⟩ := hS k hlt
    have HE : Hid (k = n → l.getD n (0, false) = l.getD k (0, false)) := fun e => by rw [e]
    clear hS hK hbel
    generalize wed kind (actP (l.getD k (0, false)) p) = b at HW HNO HYES
    have HP : Hid (k = n → (actP (l.getD n (0, false)) p).1.1 = (actP (l.getD k (0, false)) p).1.1 ∧ (actP (l.getD n (0, false)) p).1.2 = (actP (l.getD k (0, false)) p).1.2) := fun e => by rw [e]; exact ⟨rfl, rfl⟩
    generalize (actP (l.getD k (0, false)) p).1.1 = a1 at HA HW HP
    generalize (actP (l.getD k (0, false)) p).1.2 = a2 at HA HW HP
    generalize l.getD k (0, false) = s at HA c0 c1 HE
    obtain ⟨t, f⟩ := s
    simp only [] at c0 c1
    go_wp2_with fail
    refine (HA.call _).mono ?_
    rintro e w2 ⟨rfl, hb2⟩
    have hs2 := hb2.size
    simp only [World.size_alloc] at hs2
    have HB2 : Hid (Below w.heap.size w w2) := (HBR.out.alloc (by omega) _).trans (hb2.mono (by simp; omega))
    have HR2 : Hid (SymRow w2 gs l) := HR.out.alloc.below hb2
    have HK2 : Hid (Blk w2 w.heap.size #[.int .i64 0, .bool false] 52) := HKR.out.alloc.below hb2
    have hc : Blk w2 wr.heap.size #[.int .i64 t, .bool f] 52 := Blk.belowAt hb2 (Blk.new _ _ _)
    have d0 := Blk.cellAt (i := 0) hc rfl
    have d1 := Blk.cellAt (i := 1) hc rfl
    simp only [List.getElem_toArray, List.getElem_cons_zero, List.getElem_cons_succ] at d0 d1
    clear c0 c1 hb2 HR HKR HBR hc
    go_wp2_with fail
    refine (HW.call _).mono ?_
    rintro e w3 ⟨rfl, rfl⟩
    by_cases hkn : k = n
    · have hb : b = true := HYES.out hkn
      subst hb
      have z0 : w3.cell? ⟨w.heap.size, 0, Option.none⟩ = some (.int .i64 0) := HK2.out.cell 0
      have z1 : w3.cell? ⟨w.heap.size, 1, Option.none⟩ = some (.bool false) := HK2.out.cell 1
      have y0 : w3.frozen? ⟨w.heap.size, 0, Option.none⟩ = false := HK2.out.free 0
      have y1 : w3.frozen? ⟨w.heap.size, 1, Option.none⟩ = false := HK2.out.free 1
      have HEE : Hid (l.getD n (0, false) = (t, f)) := HE.out hkn
      have HPP : Hid ((actP (l.getD n (0, false)) p).1.1 = a1 ∧ (actP (l.getD n (0, false)) p).1.2 = a2) := HP.out hkn
      clear hkn HE HP HYES HNO
      go_wp2_with fail
      go_region_held3 (fun wx => wx.cell? ⟨wr.heap.size, 0, Option.none⟩ = some (.int .i64 t) ∧ wx.cell? ⟨wr.heap.size, 1, Option.none⟩ = some (.bool f))
        (((repeat' apply And.intro) <;> first | (with_reducible assumption) | (((repeat (first | (with_reducible assumption) | (with_reducible exact cNewAt (by first | rfl | (simp only [World.size_alloc, World.size_setCell, World.size_drew]; done) | omega) rfl) | (with_reducible exact sNewAt (by first | rfl | (simp only [World.size_alloc, World.size_setCell, World.size_drew]; done) | omega) rfl) | (simp; done) | (with_reducible apply cAlloc) | (with_reducible apply cDrew) | (with_reducible refine cSet (by dsimp only; omega) ?_) | (with_reducible refine cSetOff (by dsimp only; omega) ?_) | (with_reducible apply cSame) | (with_reducible refine cBelow (by assumption) ?_) | (with_reducible apply sAlloc) | (with_reducible apply sDrew) | (with_reducible refine sBelow (by assumption) ?_) | (with_reducible refine sSet (by dsimp only; omega) ?_))); first | done | (simp [*]; done)); done) | (simp only [World.size_alloc, World.size_setCell, World.size_drew]; omega) | omega | (go_keep; done) | ((repeat' (first | (with_reducible exact Below.refl _ _) | (with_reducible assumption) | (with_reducible refine Below.alloc ?_ ?_ _) | (with_reducible refine Below.drew ?_) | (with_reducible refine Below.setCell ?_ ?_ _) | (with_reducible refine Below.trans ?_ (Below.mono (by assumption) ?_)) | (with_reducible exact Nat.le_refl _) | omega | (simp only [World.size_alloc, World.size_setCell, World.size_drew]; omega) | (simp; omega) | (simp; done))); done)))
        (first | fail)
      all_goals
        rename_i hHeld
        clear hHeld d0 d1 z0 z1 y0 y1
        generalize hX : ((w3.setCell ⟨w.heap.size, 0, Option.none⟩ (.int .i64 t)).setCell ⟨w.heap.size, 1, Option.none⟩ (.bool f)).drew = X
        have D : Blk X w.heap.size #[.int .i64 t, .bool f] 52 := by
          rw [← hX]
          exact (Blk.setAt (b := w.heap.size) rfl (Blk.setAt (b := w.heap.size) rfl HK2.out rfl) rfl).drew
        have HX : Hid (Below w.heap.size w X) := by
          rw [← hX]
          exact ((HB2.out.setCell (Nat.le_refl _) _).setCell (Nat.le_refl _) _).drew
        clear hX
        have e0 := Blk.cellAt (i := 0) D rfl
        have e1 := Blk.cellAt (i := 1) D rfl
        simp only [List.getElem_toArray, List.getElem_cons_zero, List.getElem_cons_succ] at e0 e1
        clear D
        go_wp2
        exact bodyPost_ret (v := .tuple #[.complex .f32 a1 a2, .agg #[.int .i64 t, .bool f], .bool true]) (by simp [results, Tryz.results62, go_sem, e0, e1]) rfl ⟨by rw [HPP.out.1, HPP.out.2, HEE.out], HX.out⟩
    · have hb : b = false := HNO.out (by omega)
      subst hb
      go_wp2
      go_roundw
      case rel => exact ⟨k + 1, by omega, by go_num, HR2.out, HK2.out, HB2.out⟩
      case measure => simp [intOf]; omega
end Go.Proofs.YtfdgijmmgllmgaaGreatDoor
