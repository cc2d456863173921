/-
  Texts of this proof, joined: Sao, Stwo, Sro, Hd, He, Hg.
-/
import Derived.Test.YtlnikapkheldeaaK02
import Derived.Test.YtlnikapkheldeaaK08
import Derived.Test.YtlnikapkheldeaaK07
import Derived.Test.YtlnikapkheldeaaK10
import Derived.WalkLawsBesides
import Derived.Test.YtlnikapkheldeaaK09
import Derived.Test.YtlnikapkheldeaaK11
import Derived.Deep.RegionHeld3
/-
  Contracts of the program on the symmetries of mirrors.
-/
namespace Go.Proofs.Ytlnikapkheldeaa
open Go.ChangeShapes Go.WideShapes Go.ChangeAt Go.RowKit Go.Joins 
set_option linter.unusedSimpArgs false
set_option linter.unusedVariables false
/-- Is a symmetry one of mirrors of a kind? -/
def ofB (kind t : Int) (f : Bool) : Bool :=
  isSymB t && (if kind = 0 then t == 0 && !f else if kind = 1 then t == 0 else if kind = 2 then t % 2 == 0 else kind == 3)

theorem symAt_i (k : Nat) (w : World) (hk : k < 8) :
    Calls Try.prog 87 #[.int .i64 k] w fun e w' => e = .returned (.agg #[.int .i64 ((k : Int) % 4), .bool (decide (4 ≤ (k : Int)))]) ∧ Below w.heap.size w w' := by
  go_enter Try.func87, Try.ntmps87
  go_wp2
  go_returns; exact ⟨by first | rfl | (simp; omega), by (repeat' (first | (with_reducible exact Below.refl _ _) | (with_reducible assumption) | (with_reducible refine Below.alloc ?_ ?_ _) | (with_reducible refine Below.drew ?_) | (with_reducible refine Below.setCell ?_ ?_ _) | (with_reducible refine Below.trans ?_ (Below.mono (by assumption) ?_)) | (with_reducible exact Nat.le_refl _) | omega | (simp only [World.size_alloc, World.size_setCell, World.size_drew]; omega) | (simp; omega) | (simp; done)))⟩

theorem isSymOf_i (kind t : Int) (f : Bool) (w : World) :
    Calls Try.prog 88 #[.int .i64 kind, .agg #[.int .i64 t, .bool f]] w fun e w' => e = .returned (.bool (ofB kind t f)) ∧ Below w.heap.size w w' := by
  by_cases ht : isSymB t = true
  · obtain ⟨h1, h2⟩ := isSymB_iff.1 ht
    by_cases k0 : kind = 0
    · subst k0
      by_cases t0 : t = 0
      · subst t0
        have e : ofB 0 0 f = !f := by simp [ofB, isSymB]
        rw [e]
        cases f
        all_goals
          go_enter Try.func88, Try.ntmps88
          go_wp2_with (first | (go_at_call 75; refine (isSym_i _ _ _).mono ?_; rintro e w1 ⟨rfl, hb⟩; obtain ⟨hc, hf⟩ := bcell hb; have HL := keepL (by (repeat (first | (with_reducible assumption) | (with_reducible apply AllLt.alloc) | (with_reducible apply AllLt.setCell) | (with_reducible apply AllLt.drew) | (with_reducible exact AllLt.nil _)))) hb; have hq := HL; simp only [AllLt, and_true, World.size_alloc, World.size_setCell, World.size_drew] at hq; have hbs := hb.size; try simp only [World.size_alloc, World.size_setCell, World.size_drew] at hbs))
          go_returns; exact ⟨rfl, by (repeat' (first | (with_reducible exact Below.refl _ _) | (with_reducible assumption) | (with_reducible refine Below.alloc ?_ ?_ _) | (with_reducible refine Below.drew ?_) | (with_reducible refine Below.setCell ?_ ?_ _) | (with_reducible refine Below.trans ?_ (Below.mono (by assumption) ?_)) | (with_reducible exact Nat.le_refl _) | omega | (simp only [World.size_alloc, World.size_setCell, World.size_drew]; omega) | (simp; omega) | (simp; done)))⟩
      · have e : ofB 0 t f = false := by simp [ofB, t0]
        rw [e]
        have t1 : (t == 0) = false := by simpa using t0
        cases f
        all_goals
          go_enter Try.func88, Try.ntmps88
          go_wp2_with (first | (go_at_call 75; refine (isSym_i _ _ _).mono ?_; rintro e w1 ⟨rfl, hb⟩; obtain ⟨hc, hf⟩ := bcell hb; have HL := keepL (by (repeat (first | (with_reducible assumption) | (with_reducible apply AllLt.alloc) | (with_reducible apply AllLt.setCell) | (with_reducible apply AllLt.drew) | (with_reducible exact AllLt.nil _)))) hb; have hq := HL; simp only [AllLt, and_true, World.size_alloc, World.size_setCell, World.size_drew] at hq; have hbs := hb.size; try simp only [World.size_alloc, World.size_setCell, World.size_drew] at hbs))
          go_returns; exact ⟨rfl, by (repeat' (first | (with_reducible exact Below.refl _ _) | (with_reducible assumption) | (with_reducible refine Below.alloc ?_ ?_ _) | (with_reducible refine Below.drew ?_) | (with_reducible refine Below.setCell ?_ ?_ _) | (with_reducible refine Below.trans ?_ (Below.mono (by assumption) ?_)) | (with_reducible exact Nat.le_refl _) | omega | (simp only [World.size_alloc, World.size_setCell, World.size_drew]; omega) | (simp; omega) | (simp; done)))⟩
    · by_cases k1 : kind = 1
      · subst k1
        have e : ofB 1 t f = (t == 0) := by simp [ofB, ht]
        rw [e]
        go_enter Try.func88, Try.ntmps88
        go_wp2_with (first | (go_at_call 75; refine (isSym_i _ _ _).mono ?_; rintro e w1 ⟨rfl, hb⟩; obtain ⟨hc, hf⟩ := bcell hb; have HL := keepL (by (repeat (first | (with_reducible assumption) | (with_reducible apply AllLt.alloc) | (with_reducible apply AllLt.setCell) | (with_reducible apply AllLt.drew) | (with_reducible exact AllLt.nil _)))) hb; have hq := HL; simp only [AllLt, and_true, World.size_alloc, World.size_setCell, World.size_drew] at hq; have hbs := hb.size; try simp only [World.size_alloc, World.size_setCell, World.size_drew] at hbs))
        go_returns; exact ⟨rfl, by (repeat' (first | (with_reducible exact Below.refl _ _) | (with_reducible assumption) | (with_reducible refine Below.alloc ?_ ?_ _) | (with_reducible refine Below.drew ?_) | (with_reducible refine Below.setCell ?_ ?_ _) | (with_reducible refine Below.trans ?_ (Below.mono (by assumption) ?_)) | (with_reducible exact Nat.le_refl _) | omega | (simp only [World.size_alloc, World.size_setCell, World.size_drew]; omega) | (simp; omega) | (simp; done)))⟩
      · by_cases k2 : kind = 2
        · subst k2
          have e : ofB 2 t f = (t % 2 == 0) := by simp [ofB, ht]
          rw [e]
          go_enter Try.func88, Try.ntmps88
          go_wp2_with (first | (go_at_call 75; refine (isSym_i _ _ _).mono ?_; rintro e w1 ⟨rfl, hb⟩; obtain ⟨hc, hf⟩ := bcell hb; have HL := keepL (by (repeat (first | (with_reducible assumption) | (with_reducible apply AllLt.alloc) | (with_reducible apply AllLt.setCell) | (with_reducible apply AllLt.drew) | (with_reducible exact AllLt.nil _)))) hb; have hq := HL; simp only [AllLt, and_true, World.size_alloc, World.size_setCell, World.size_drew] at hq; have hbs := hb.size; try simp only [World.size_alloc, World.size_setCell, World.size_drew] at hbs))
          go_returns; exact ⟨rfl, by (repeat' (first | (with_reducible exact Below.refl _ _) | (with_reducible assumption) | (with_reducible refine Below.alloc ?_ ?_ _) | (with_reducible refine Below.drew ?_) | (with_reducible refine Below.setCell ?_ ?_ _) | (with_reducible refine Below.trans ?_ (Below.mono (by assumption) ?_)) | (with_reducible exact Nat.le_refl _) | omega | (simp only [World.size_alloc, World.size_setCell, World.size_drew]; omega) | (simp; omega) | (simp; done)))⟩
        · by_cases k3 : kind = 3
          · subst k3
            have e : ofB 3 t f = true := by simp [ofB, ht]
            rw [e]
            go_enter Try.func88, Try.ntmps88
            go_wp2_with (first | (go_at_call 75; refine (isSym_i _ _ _).mono ?_; rintro e w1 ⟨rfl, hb⟩; obtain ⟨hc, hf⟩ := bcell hb; have HL := keepL (by (repeat (first | (with_reducible assumption) | (with_reducible apply AllLt.alloc) | (with_reducible apply AllLt.setCell) | (with_reducible apply AllLt.drew) | (with_reducible exact AllLt.nil _)))) hb; have hq := HL; simp only [AllLt, and_true, World.size_alloc, World.size_setCell, World.size_drew] at hq; have hbs := hb.size; try simp only [World.size_alloc, World.size_setCell, World.size_drew] at hbs))
            go_returns; exact ⟨rfl, by (repeat' (first | (with_reducible exact Below.refl _ _) | (with_reducible assumption) | (with_reducible refine Below.alloc ?_ ?_ _) | (with_reducible refine Below.drew ?_) | (with_reducible refine Below.setCell ?_ ?_ _) | (with_reducible refine Below.trans ?_ (Below.mono (by assumption) ?_)) | (with_reducible exact Nat.le_refl _) | omega | (simp only [World.size_alloc, World.size_setCell, World.size_drew]; omega) | (simp; omega) | (simp; done)))⟩
          · have e : ofB kind t f = false := by simp [ofB, k0, k1, k2, k3]
            rw [e]
            clear e
            have q0 : (kind == 0) = false := by simpa using k0
            have q1 : (kind == 1) = false := by simpa using k1
            have q2 : (kind == 2) = false := by simpa using k2
            have q3 : (kind == 3) = false := by simpa using k3
            clear k0 k1 k2 k3
            go_enter Try.func88, Try.ntmps88
            go_wp2_with (first | (go_at_call 75; refine (isSym_i _ _ _).mono ?_; rintro e w1 ⟨rfl, hb⟩; obtain ⟨hc, hf⟩ := bcell hb; have HL := keepL (by (repeat (first | (with_reducible assumption) | (with_reducible apply AllLt.alloc) | (with_reducible apply AllLt.setCell) | (with_reducible apply AllLt.drew) | (with_reducible exact AllLt.nil _)))) hb; have hq := HL; simp only [AllLt, and_true, World.size_alloc, World.size_setCell, World.size_drew] at hq; have hbs := hb.size; try simp only [World.size_alloc, World.size_setCell, World.size_drew] at hbs))
            go_returns; exact ⟨rfl, by (repeat' (first | (with_reducible exact Below.refl _ _) | (with_reducible assumption) | (with_reducible refine Below.alloc ?_ ?_ _) | (with_reducible refine Below.drew ?_) | (with_reducible refine Below.setCell ?_ ?_ _) | (with_reducible refine Below.trans ?_ (Below.mono (by assumption) ?_)) | (with_reducible exact Nat.le_refl _) | omega | (simp only [World.size_alloc, World.size_setCell, World.size_drew]; omega) | (simp; omega) | (simp; done)))⟩
  · have e : ofB kind t f = false := by simp [ofB, ht]
    rw [e]
    go_enter Try.func88, Try.ntmps88
    go_wp2_with (first | (go_at_call 75; refine (isSym_i _ _ _).mono ?_; rintro e w1 ⟨rfl, hb⟩; obtain ⟨hc, hf⟩ := bcell hb; have HL := keepL (by (repeat (first | (with_reducible assumption) | (with_reducible apply AllLt.alloc) | (with_reducible apply AllLt.setCell) | (with_reducible apply AllLt.drew) | (with_reducible exact AllLt.nil _)))) hb; have hq := HL; simp only [AllLt, and_true, World.size_alloc, World.size_setCell, World.size_drew] at hq; have hbs := hb.size; try simp only [World.size_alloc, World.size_setCell, World.size_drew] at hbs))
    go_returns; exact ⟨rfl, by (repeat' (first | (with_reducible exact Below.refl _ _) | (with_reducible assumption) | (with_reducible refine Below.alloc ?_ ?_ _) | (with_reducible refine Below.drew ?_) | (with_reducible refine Below.setCell ?_ ?_ _) | (with_reducible refine Below.trans ?_ (Below.mono (by assumption) ?_)) | (with_reducible exact Nat.le_refl _) | omega | (simp only [World.size_alloc, World.size_setCell, World.size_drew]; omega) | (simp; omega) | (simp; done)))⟩
end Go.Proofs.Ytlnikapkheldeaa

/-
  The symmetries of mirrors of a kind, as the program lists them.
-/
namespace Go.Proofs.Ytlnikapkheldeaa
open Go.ChangeShapes Go.WideShapes Go.ChangeAt Go.RowKit Go.Joins 
set_option linter.unusedSimpArgs false
set_option linter.unusedVariables false
/-- Of the first k symmetries those of mirrors of a kind. -/
def symsTo (kind : Int) (k : Nat) : List (Int × Bool) := ((List.range k).map symK).filter fun p => ofB kind p.1 p.2
theorem symsTo_yes {kind : Int} {k : Nat} (h : ofB kind (symK k).1 (symK k).2 = true) : symsTo kind (k + 1) = symsTo kind k ++ [symK k] := by
  simp [symsTo, List.range_succ, h]
theorem symsTo_no {kind : Int} {k : Nat} (h : ofB kind (symK k).1 (symK k).2 = false) : symsTo kind (k + 1) = symsTo kind k := by
  simp [symsTo, List.range_succ, h]
theorem symsTo_le (kind : Int) (k : Nat) : (symsTo kind k).length ≤ k := by
  have := List.length_filter_le (fun p => ofB kind p.1 p.2) ((List.range k).map symK)
  simpa [symsTo] using this

set_option maxHeartbeats 1600000 in
set_option maxRecDepth 1000000 in
theorem symsOf_i (kind : Int) (w : World) :
    Calls Try.prog 33 #[.int .i64 kind] w fun e w' => ∃ g cap, e = .returned (.slice (some ⟨g, 0, Option.none⟩) (symsTo kind 8).length cap) ∧ w'.ownsRow w.heap.size 25 2 (.slice (some ⟨g, 0, Option.none⟩) (symsTo kind 8).length cap) (symsTo kind 8).length (symCells (symsTo kind 8)) ∧ Below w.heap.size w w' := by
  obtain ⟨i0, hi, hz0, hz1, hz2⟩ := info_parts infoSym
  go_enter Try.func33, Try.ntmps33
  go_wp2
  go_loopw [3, 7] (fun v i wr => ∃ k : Nat, k ≤ 8 ∧ i = .int .i64 k ∧ wr.ownsRow w.heap.size 25 2 v (symsTo kind k).length (symCells (symsTo kind k)) ∧ v ≠ .slice Option.none 0 0 ∧ Below w.heap.size w wr)
    (fun _ i _ => 8 - (intOf i).toNat)
  case atStart => exact ⟨0, by omega, rfl, World.ownsRow_lit _ #[] 0 (by simp) (by unfold maxLen; omega) rfl, by simp, by (repeat' (first | (with_reducible exact Below.refl _ _) | (with_reducible assumption) | (with_reducible refine Below.alloc ?_ ?_ _) | (with_reducible refine Below.drew ?_) | (with_reducible refine Below.setCell ?_ ?_ _) | (with_reducible refine Below.trans ?_ (Below.mono (by assumption) ?_)) | (with_reducible exact Nat.le_refl _) | omega | (simp only [World.size_alloc, World.size_setCell, World.size_drew]; omega) | (simp; omega) | (simp; done)))⟩
  case round =>
    obtain ⟨k, hk, rfl, hown, hnn, hbel⟩ := hrel
    have HNN : Hid (u3 ≠ .slice Option.none 0 0) := hnn
    clear hnn
    have hbase := hbel.size
    by_cases hlt : k < 8
    · have hle := symsTo_le kind k
      cases hB : ofB kind ((k : Int) % 4) (decide (4 ≤ (k : Int))) with
      | true =>
        have hy := symsTo_yes (kind := kind) (k := k) hB
        have HY : Hid (symsTo kind (k + 1) = symsTo kind k ++ [symK k]) := hy
        clear hy
        go_wp2_with (first | (go_at_call 87; refine (symAt_i _ _ hlt).mono ?_; rintro e w1 ⟨rfl, hb⟩; obtain ⟨hc, hf⟩ := bcell hb; have HL := keepL (by (repeat (first | (with_reducible assumption) | (with_reducible apply AllLt.alloc) | (with_reducible apply AllLt.setCell) | (with_reducible apply AllLt.drew) | (with_reducible exact AllLt.nil _)))) hb; have hq := HL; simp only [AllLt, and_true, World.size_alloc, World.size_setCell, World.size_drew] at hq; have hbs := hb.size; try simp only [World.size_alloc, World.size_setCell, World.size_drew] at hbs) | (go_at_call 88; refine (isSymOf_i _ _ _ _).mono ?_; rintro e w1 ⟨rfl, hb⟩; obtain ⟨hc, hf⟩ := bcell hb; have HL := keepL (by (repeat (first | (with_reducible assumption) | (with_reducible apply AllLt.alloc) | (with_reducible apply AllLt.setCell) | (with_reducible apply AllLt.drew) | (with_reducible exact AllLt.nil _)))) hb; have hq := HL; simp only [AllLt, and_true, World.size_alloc, World.size_setCell, World.size_drew] at hq; have hbs := hb.size; try simp only [World.size_alloc, World.size_setCell, World.size_drew] at hbs) | (at_builtin; go_loud (refine wpList_append_own _ rfl _ _ 41 rfl w.heap.size 25 i0 (.agg #[.int .i64 0, .bool false]) 2 16 Try.underlying41 hi hz0 hz1 hz2 rfl (by decide) _ (symsTo kind k).length (symCells (symsTo kind k)) rfl ?hown ⟨w1.heap.size, 0, Option.none⟩ 1 1 [.int .i64 (symK k).1, .bool (symK k).2] rfl rfl ?c1 ?c2 ?c3 ?c4 ?c5 ?_)))
        case hown => (change World.ownsRow _ _ _ _ u3 _ _; (repeat (first | (with_reducible assumption) | (with_reducible refine World.ownsRow.alloc ?_ _) | (with_reducible refine World.ownsRow.drew ?_) | (with_reducible refine ownsBelow (by assumption) ?_))))
        case c1 =>
          intro j u hj
          rcases j with _ | _ | j <;> simp [symK] at hj <;> subst hj <;> simp [Addr.add]
        case c2 =>
          intro u hu
          simp at hu
          rcases hu with rfl | rfl <;> rfl
        case c3 => (unfold maxLen; omega)
        case c4 => omega
        case c5 => first | omega | (simp only [World.size_alloc, World.size_setCell, World.size_drew]; omega)
        intro v' w2 hown' hgrow hvn
        have HVN : Hid (v' ≠ .slice Option.none 0 0) := hvn
        clear hvn
        have hb2 : Below w.heap.size w w2 := Below.grown (by (repeat' (first | (with_reducible exact Below.refl _ _) | (with_reducible assumption) | (with_reducible refine Below.alloc ?_ ?_ _) | (with_reducible refine Below.drew ?_) | (with_reducible refine Below.setCell ?_ ?_ _) | (with_reducible refine Below.trans ?_ (Below.mono (by assumption) ?_)) | (with_reducible exact Nat.le_refl _) | omega | (simp only [World.size_alloc, World.size_setCell, World.size_drew]; omega) | (simp; omega) | (simp; done)))) hgrow (by first | omega | (simp only [World.size_alloc, World.size_setCell, World.size_drew]; omega)) (fun q hq => (hown.lt q hq).1)
        clear hgrow
        go_wp2
        go_roundw
        case rel => exact ⟨k + 1, by omega, by go_num, by rw [HY.out, symCells_snoc]; simpa using hown', HVN.out, hb2⟩
        case measure => simp [intOf]; omega
      | false =>
        have hn := symsTo_no (kind := kind) (k := k) hB
        have HN : Hid (symsTo kind (k + 1) = symsTo kind k) := hn
        clear hn
        go_wp2_with (first | (go_at_call 87; refine (symAt_i _ _ hlt).mono ?_; rintro e w1 ⟨rfl, hb⟩; obtain ⟨hc, hf⟩ := bcell hb; have HL := keepL (by (repeat (first | (with_reducible assumption) | (with_reducible apply AllLt.alloc) | (with_reducible apply AllLt.setCell) | (with_reducible apply AllLt.drew) | (with_reducible exact AllLt.nil _)))) hb; have hq := HL; simp only [AllLt, and_true, World.size_alloc, World.size_setCell, World.size_drew] at hq; have hbs := hb.size; try simp only [World.size_alloc, World.size_setCell, World.size_drew] at hbs) | (go_at_call 88; refine (isSymOf_i _ _ _ _).mono ?_; rintro e w1 ⟨rfl, hb⟩; obtain ⟨hc, hf⟩ := bcell hb; have HL := keepL (by (repeat (first | (with_reducible assumption) | (with_reducible apply AllLt.alloc) | (with_reducible apply AllLt.setCell) | (with_reducible apply AllLt.drew) | (with_reducible exact AllLt.nil _)))) hb; have hq := HL; simp only [AllLt, and_true, World.size_alloc, World.size_setCell, World.size_drew] at hq; have hbs := hb.size; try simp only [World.size_alloc, World.size_setCell, World.size_drew] at hbs))
        go_roundw
        case rel => exact ⟨k + 1, by omega, by go_num, by rw [HN.out]; (repeat (first | (with_reducible assumption) | (with_reducible refine World.ownsRow.alloc ?_ _) | (with_reducible refine World.ownsRow.drew ?_) | (with_reducible refine ownsBelow (by assumption) ?_))), HNN.out, by (repeat' (first | (with_reducible exact Below.refl _ _) | (with_reducible assumption) | (with_reducible refine Below.alloc ?_ ?_ _) | (with_reducible refine Below.drew ?_) | (with_reducible refine Below.setCell ?_ ?_ _) | (with_reducible refine Below.trans ?_ (Below.mono (by assumption) ?_)) | (with_reducible exact Nat.le_refl _) | omega | (simp only [World.size_alloc, World.size_setCell, World.size_drew]; omega) | (simp; omega) | (simp; done)))⟩
        case measure => simp [intOf]; omega
    · have hk8 : k = 8 := by omega
      subst hk8
      rcases ownsRow_forms hown with ⟨e, _⟩ | ⟨g, cap, rfl⟩
      · exact absurd e HNN.out
      go_wp2
      go_ret
      exact ⟨_, _, rfl, hown, hbel⟩
end Go.Proofs.Ytlnikapkheldeaa

/-
  A list of symmetries as it lies in memory.
-/
namespace Go.Proofs.Ytlnikapkheldeaa
open Go.ChangeShapes Go.WideShapes Go.ChangeAt Go.RowKit Go.Joins 
set_option linter.unusedSimpArgs false
set_option linter.unusedVariables false
/-- The cells of a list of symmetries, from a block's head on. -/
def SymRow (W : World) (g : Nat) (l : List (Int × Bool)) : Prop :=
  ∀ k, k < l.length → W.cell? ⟨g, k * 2, Option.none⟩ = some (.int .i64 (l.getD k (0, false)).1) ∧ W.cell? ⟨g, k * 2 + 1, Option.none⟩ = some (.bool (l.getD k (0, false)).2)

theorem symCells_get : ∀ (l : List (Int × Bool)) (k : Nat), k < l.length → (symCells l)[k * 2]? = some (.int .i64 (l.getD k (0, false)).1) ∧ (symCells l)[k * 2 + 1]? = some (.bool (l.getD k (0, false)).2)
  | p :: l, 0, _ => ⟨rfl, rfl⟩
  | p :: l, k + 1, h => by
    have ih := symCells_get l k (by simpa using h)
    have e : symCells (p :: l) = .int .i64 p.1 :: .bool p.2 :: symCells l := rfl
    rw [e, show (k + 1) * 2 = k * 2 + 1 + 1 by omega]
    simpa using ih

theorem symRow_of {W : World} {base g n cap : Nat} {l : List (Int × Bool)} (h : W.ownsRow base 25 2 (.slice (some ⟨g, 0, Option.none⟩) n cap) n (symCells l)) (hn : l.length = n) : SymRow W g l := fun k hk => by
  have hg := symCells_get l k hk
  rw [h.cellAt _ (by omega), h.cellAt _ (by omega)]
  exact hg

theorem SymRow.below {W w1 : World} {g : Nat} {l : List (Int × Bool)} (h : SymRow W g l) (hb : Below W.heap.size W w1) : SymRow w1 g l :=
  fun k hk => ⟨cBelow hb (h k hk).1, cBelow hb (h k hk).2⟩

theorem SymRow.set {W : World} {g : Nat} {a : Addr} {v : Value} {l : List (Int × Bool)} (h : SymRow W g l) (hne : g ≠ a.block) : SymRow (W.setCell a v) g l :=
  fun k hk => ⟨cSet hne (h k hk).1, cSet hne (h k hk).2⟩
theorem SymRow.alloc {W : World} {g : Nat} {o : Obj} {l : List (Int × Bool)} (h : SymRow W g l) : SymRow (W.alloc o) g l :=
  fun k hk => ⟨cAlloc (h k hk).1, cAlloc (h k hk).2⟩

end Go.Proofs.Ytlnikapkheldeaa

/-
  leastCell of the program.
-/
namespace Go.Proofs.Ytlnikapkheldeaa
open Go.ChangeShapes Go.WideShapes Go.ChangeAt Go.RowKit Go.Joins
set_option linter.unusedSimpArgs false
set_option linter.unusedVariables false
set_option maxRecDepth 100000
attribute [local go_sem] store_f
open Ieee

/-- The least of a number and of what symmetries make of a cell. -/
def leastL (n k : Nat) (l : List (Int × Bool)) : Nat := l.foldl (fun m p => min m (cellN n p.1.toNat p.2 k)) k
theorem leastL_snoc (n k : Nat) {l : List (Int × Bool)} {j : Nat} (h : j < l.length) : leastL n k (l.take (j + 1)) = min (leastL n k (l.take j)) (cellN n (l.getD j (0, false)).1.toNat (l.getD j (0, false)).2 k) := by
  have e : l.getD j (0, false) = l[j] := by simp [List.getD, h]
  unfold leastL
  rw [List.take_succ_eq_append_getElem h, List.foldl_append, e]; rfl
theorem leastL_le (n k : Nat) (l : List (Int × Bool)) : leastL n k l ≤ k := by
  unfold leastL
  have key : ∀ (l : List (Int × Bool)) (m : Nat), l.foldl (fun m p => min m (cellN n p.1.toNat p.2 k)) m ≤ m := by
    intro l
    induction l with
    | nil => intro m; exact Nat.le_refl _
    | cons p l ih => intro m; exact Nat.le_trans (ih _) (Nat.min_le_left _ _)
  exact key l k
/-- The least cell to which symmetries of mirrors lead. -/
def leastN (kind : Int) (n k : Nat) : Nat := leastL n k (symsTo kind 8)
theorem symsTo_in (kind : Int) : ∀ p ∈ symsTo kind 8, ∃ t : Nat, p.1 = t ∧ t < 4 := by
  intro p hp
  unfold symsTo at hp
  obtain ⟨h1, _⟩ := List.mem_filter.1 hp
  obtain ⟨i, hi, rfl⟩ := List.mem_map.1 h1
  exact ⟨i % 4, rfl, by omega⟩

structure LeastM (kind n k : Int) (c : Nat) : Prop where
  call : ∀ w : World, Calls Try.prog 100 #[.int .i64 kind, .int .i64 n, .int .i64 k] w fun e w' => e = .returned (.int .i64 c) ∧ Below w.heap.size w w'
set_option maxHeartbeats 4000000 in
theorem leastM {n k : Nat} (kind : Int) (h1 : 1 ≤ n) (h8 : n ≤ 8) (hk : k < n * n) : LeastM kind n k (leastN kind n k) := ⟨fun w => by
  have hk64 : k < 64 := Nat.lt_of_lt_of_le hk (Nat.mul_le_mul h8 h8)
  have hl8 := symsTo_le kind 8
  have HM : Hid (∀ j, j < (symsTo kind 8).length → CellM n k ((symsTo kind 8).getD j (0, false)).1 ((symsTo kind 8).getD j (0, false)).2 (cellN n ((symsTo kind 8).getD j (0, false)).1.toNat ((symsTo kind 8).getD j (0, false)).2 k : Nat)) := fun j hj => by
    obtain ⟨t, ht, h4⟩ := symsTo_in kind ((symsTo kind 8).getD j (0, false)) (by simp [List.getD, hj])
    rw [ht]
    exact cellM_yes _ h1 h8 hk h4
  have HS : Hid (∀ j, j < (symsTo kind 8).length → leastL n k ((symsTo kind 8).take (j + 1)) = min (leastL n k ((symsTo kind 8).take j)) (cellN n ((symsTo kind 8).getD j (0, false)).1.toNat ((symsTo kind 8).getD j (0, false)).2 k)) := fun j hj => leastL_snoc n k hj
  have HE : Hid (leastL n k ((symsTo kind 8).take (symsTo kind 8).length) = leastN kind n k) := by rw [List.take_length]; rfl
  have H0 : Hid (leastL n k ((symsTo kind 8).take 0) = k) := rfl
  have SY := fun w => symsOf_i kind w
  generalize leastN kind n k = z at HE ⊢
  generalize symsTo kind 8 = l at *
  generalize hL : (fun j : Nat => leastL n k (l.take j)) = L
  have HS' : Hid (∀ j, j < l.length → L (j + 1) = min (L j) (cellN n (l.getD j (0, false)).1.toNat (l.getD j (0, false)).2 k)) := by rw [← hL]; exact HS.out
  have HE' : L l.length = z := by rw [← hL]; exact HE.out
  have H0' : L 0 = k := by rw [← hL]; exact H0.out
  clear HS HE H0 hL hk
  subst HE'
  go_enter Try.func100, Try.ntmps100
  go_wp2_with fail
  have HL0 : Hid (L 0 = k) := H0'
  clear H0'
  refine (SY _).mono ?_
  rintro e w1 ⟨gs, cs, rfl, own, hb1⟩
  have HR : Hid (SymRow w1 gs l) := symRow_of own rfl
  have HB : Hid (Below w.heap.size w w1) := hb1
  clear own hb1 SY
  go_wp2_with fail
  go_loopw [7, 14] (fun v i wr => ∃ j : Nat, j ≤ l.length ∧ i = .int .i64 j ∧ v = .int .i64 (L j : Nat) ∧ Below w1.heap.size w1 wr) (fun _ i _ => l.length - (intOf i).toNat)
  case atStart => exact ⟨0, by omega, rfl, by rw [HL0.out], Below.refl _ _⟩
  case round =>
    obtain ⟨j, hj, rfl, rfl, hbel⟩ := hrel
    have HBL : Hid (Below w1.heap.size w1 wr) := hbel
    have hbs := hbel.size
    by_cases hlt : j < l.length
    · have K := HM.out j hlt
      have HY0 : Hid (L (j + 1) = min (L j) (cellN n (l.getD j (0, false)).1.toNat (l.getD j (0, false)).2 k)) := HS'.out j hlt
      obtain ⟨c0, c1⟩ := HR.out.below hbel j hlt
      generalize cellN n (l.getD j (0, false)).1.toNat (l.getD j (0, false)).2 k = c at K HY0
      have HY : Hid (L (j + 1) = min (L j) c) := HY0
      clear HY0
      generalize l.getD j (0, false) = s at K c0 c1
      obtain ⟨t, f⟩ := s
      simp only [] at c0 c1 K
      clear hbel
      go_wp2_with fail
      refine (K.call _).mono ?_
      rintro e w2 ⟨rfl, hb⟩
      have HB2 : Hid (Below w1.heap.size w1 w2) := (HBL.out.alloc (by omega) _).trans (hb.mono (by simp; omega))
      clear hb c0 c1
      go_wp2
      go_roundw
      case rel => exact ⟨j + 1, by omega, by go_num, by (rw [HY.out]; congr 1; split <;> omega), HB2.out⟩
      case measure => simp [intOf]; omega
    · have hjm : j = l.length := by omega
      subst hjm
      have HZ : Hid (Below w.heap.size w wr) := HB.out.trans (hbel.mono HB.out.size)
      clear hbel
      go_wp2
      go_ret
      exact ⟨rfl, HZ.out⟩⟩
end Go.Proofs.Ytlnikapkheldeaa

/-
  Pictures that a call makes, cell by cell.
-/
namespace Go.Proofs.Ytlnikapkheldeaa
open Go.ChangeShapes Go.WideShapes Go.ChangeAt Go.RowKit Go.Joins
set_option linter.unusedSimpArgs false
set_option linter.unusedVariables false
set_option maxRecDepth 100000
attribute [local go_sem] store_f
open Ieee

/-- What a closure gives for a cell, wherever what it has captured lies as it lay. -/
structure CloM (F : FuncId) (W : World) (args : Array Value) (c : Lit) : Prop where
  call : ∀ w : World, Below W.heap.size W w → Calls Try.prog F args w fun e w' => e = .returned (.agg #[.float .f32 c.r, .float .f32 c.g, .float .f32 c.b]) ∧ Below w.heap.size w w'
/-- A picture that a call has made. -/
structure PicMade (B : Nat) (e : Ending) (w' : World) (n : Nat) (l : List Lit) (g cap : Nat) : Prop where
  ret : e = .returned (.agg #[.int .i64 n, .slice (some ⟨g, 0, Option.none⟩) l.length cap])
  own : w'.ownsRow B 49 3 (.slice (some ⟨g, 0, Option.none⟩) l.length cap) l.length (litCells l)

/-- A row is owned still where a block below its base is written. -/
theorem ownsSet {W : World} {base : Nat} {e : TypeId} {size : Nat} {v : Value} {n : Nat} {xs : List Value} {p : Addr} {u : Value} (h : W.ownsRow base e size v n xs) (hp : p.block < base) : (W.setCell p u).ownsRow base e size v n xs := by
  obtain ⟨h1, h2⟩ := h
  refine ⟨h1, ?_⟩
  rcases h2 with h2 | ⟨g, cap, cur, e1, e2, e3, e4⟩
  · exact .inl h2
  · refine .inr ⟨g, cap, cur, e1, e2, ?_, e4⟩
    rw [Below.heap_setCell _ _ _ _ (by omega)]
    exact e3
theorem ownsLess {W : World} {base base' : Nat} {e : TypeId} {size : Nat} {v : Value} {n : Nat} {xs : List Value} (h : W.ownsRow base e size v n xs) (hp : base' ≤ base) : W.ownsRow base' e size v n xs := by
  obtain ⟨h1, h2⟩ := h
  refine ⟨h1, ?_⟩
  rcases h2 with h2 | ⟨g, cap, cur, e1, e2, e3, e4⟩
  · exact .inl h2
  · exact .inr ⟨g, cap, cur, e1, Nat.le_trans hp e2, e3, e4⟩

/-- The colours of the first cells. -/
def colsTo (col : Nat → Lit) (j : Nat) : List Lit := (List.range j).map col
theorem colsTo_snoc (col : Nat → Lit) (j : Nat) : colsTo col (j + 1) = colsTo col j ++ [col j] := by simp [colsTo, List.range_succ]
theorem colsTo_len (col : Nat → Lit) (j : Nat) : (colsTo col j).length = j := by simp [colsTo]

end Go.Proofs.Ytlnikapkheldeaa

/-
  The closures of ActPicture and SpreadPicture.
-/
namespace Go.Proofs.Ytlnikapkheldeaa
open Go.ChangeShapes Go.WideShapes Go.ChangeAt Go.RowKit Go.Joins
set_option linter.unusedSimpArgs false
set_option linter.unusedVariables false
set_option maxRecDepth 100000
attribute [local go_sem] store_f
open Ieee

/-- A picture as a box shows it. -/
structure PicBox (W : World) (b : Nat) (n : Int) (a : Option Addr) (cap : Nat) (l : List Lit) : Prop where
  blk : Blk W b #[.int .i64 n, .slice a l.length cap] 37
  row : LitsAt W a l
theorem PicBox.below {W w1 : World} {b : Nat} {n : Int} {a : Option Addr} {cap : Nat} {l : List Lit} (h : PicBox W b n a cap l) (hb : Below W.heap.size W w1) : PicBox w1 b n a cap l := ⟨h.blk.below hb, h.row.below hb⟩

set_option maxHeartbeats 4000000 in
theorem act_clo {n k t : Nat} {f : Bool} {a : Option Addr} {cap bp bs : Nat} {l : List Lit} {W : World} (h1 : 1 ≤ n) (h8 : n ≤ 8) (hk : k < n * n) (ht : t < 4) (hl : l.length = n * n)
    (P : PicBox W bp n a cap l) (S : Blk W bs #[.int .i64 t, .bool f] 25) :
    CloM 85 W #[.int .i64 k, .pointer (some ⟨bp, 0, Option.none⟩), .pointer (some ⟨bs, 0, Option.none⟩)] (l.getD (cellN n t f k) default) := ⟨fun w hw => by
  have K := cellM_yes f h1 h8 hk ht
  have hc := cell_lt' (f := f) h8 hk ht
  rw [← hl] at hc
  rcases (P.below hw).row with hnil | ⟨b, off, rfl, hR⟩
  · exfalso; rw [hnil] at hc; simp at hc
  have hrow := hR _ hc
  have p0 := Blk.cellAt (i := 0) (P.below hw).blk rfl
  have p1 := Blk.cellAt (i := 1) (P.below hw).blk rfl
  have s0 := Blk.cellAt (i := 0) (S.below hw) rfl
  have s1 := Blk.cellAt (i := 1) (S.below hw) rfl
  simp only [List.getElem_toArray, List.getElem_cons_zero, List.getElem_cons_succ] at p0 p1 s0 s1
  have lp := cell_lt p0
  have ls := cell_lt s0
  have lb := cell_lt hrow.1
  generalize cellN n t f k = c at *
  generalize l.getD c default = s at *
  have hc0 : (0 : Int) ≤ (c : Int) := by omega
  have hc1 : (c : Int) < (l.length : Int) := by omega
  clear hR P S hw hk ht hl
  obtain ⟨d0, d1, d2⟩ := hrow
  go_enter Try.func85, Try.ntmps85
  go_wp2_with fail
  generalize hW : w.alloc (.cells #[.float .f32 0, .float .f32 0, .float .f32 0] 49) = X
  have R0 : Hid (Blk X w.heap.size #[.float .f32 0, .float .f32 0, .float .f32 0] 49) := by rw [← hW]; exact Blk.new _ _ _
  have HB : Hid (Below w.heap.size w X) := by rw [← hW]; show Below w.heap.size w _; (repeat' (first | (with_reducible exact Below.refl _ _) | (with_reducible assumption) | (with_reducible refine Below.alloc ?_ ?_ _) | (with_reducible refine Below.drew ?_) | (with_reducible refine Below.setCell ?_ ?_ _) | (with_reducible refine Below.trans ?_ (Below.mono (by assumption) ?_)) | (with_reducible exact Nat.le_refl _) | omega | (simp only [World.size_alloc, World.size_setCell, World.size_drew]; omega) | (simp; omega) | (simp; done)))
  have hs : X.heap.size = w.heap.size + 1 := by rw [← hW]; simp
  have q0 : X.cell? ⟨bp, 0, Option.none⟩ = some (.int .i64 n) := by rw [← hW]; exact cAlloc p0
  have q1 : X.cell? ⟨bp, 1, Option.none⟩ = some (.slice (some ⟨b, off, Option.none⟩) l.length cap) := by rw [← hW]; exact cAlloc p1
  have u0 : X.cell? ⟨bs, 0, Option.none⟩ = some (.int .i64 t) := by rw [← hW]; exact cAlloc s0
  have u1 : X.cell? ⟨bs, 1, Option.none⟩ = some (.bool f) := by rw [← hW]; exact cAlloc s1
  have v0 : X.cell? ⟨b, (off + c * 3), Option.none⟩ = some (.float .f32 s.r) ∧ X.cell? ⟨b, (off + c * 3) + 1, Option.none⟩ = some (.float .f32 s.g) ∧ X.cell? ⟨b, (off + c * 3) + 2, Option.none⟩ = some (.float .f32 s.b) := by rw [← hW]; exact ⟨cAlloc d0, cAlloc d1, cAlloc d2⟩
  obtain ⟨e0, e1, e2⟩ := v0
  clear hW p0 p1 s0 s1 d0 d1 d2
  go_region_held3 (fun wx => wx.cell? ⟨bp, 0, Option.none⟩ = some (.int .i64 n) ∧ wx.cell? ⟨bp, 1, Option.none⟩ = some (.slice (some ⟨b, off, Option.none⟩) l.length cap) ∧ wx.cell? ⟨bs, 0, Option.none⟩ = some (.int .i64 (t)) ∧ wx.cell? ⟨bs, 1, Option.none⟩ = some (.bool (f)) ∧ wx.cell? ⟨b, (off + c * 3), Option.none⟩ = some (.float .f32 s.r) ∧ wx.cell? ⟨b, (off + c * 3) + 1, Option.none⟩ = some (.float .f32 s.g) ∧ wx.cell? ⟨b, (off + c * 3) + 2, Option.none⟩ = some (.float .f32 s.b))
    (((repeat' apply And.intro) <;> first | (with_reducible assumption) | (((repeat (first | (with_reducible assumption) | (with_reducible exact cNewAt (by first | rfl | (simp only [World.size_alloc, World.size_setCell, World.size_drew]; done) | omega) rfl) | (with_reducible exact sNewAt (by first | rfl | (simp only [World.size_alloc, World.size_setCell, World.size_drew]; done) | omega) rfl) | (simp; done) | (with_reducible apply cAlloc) | (with_reducible apply cDrew) | (with_reducible refine cSet (by dsimp only; omega) ?_) | (with_reducible refine cSetOff (by dsimp only; omega) ?_) | (with_reducible apply cSame) | (with_reducible refine cBelow (by assumption) ?_) | (with_reducible apply sAlloc) | (with_reducible apply sDrew) | (with_reducible refine sBelow (by assumption) ?_) | (with_reducible refine sSet (by dsimp only; omega) ?_))); first | done | (simp [*]; done)); done) | (simp only [World.size_alloc, World.size_setCell, World.size_drew]; omega) | omega | (go_keep; done) | ((repeat' (first | (with_reducible exact Below.refl _ _) | (with_reducible assumption) | (with_reducible refine Below.alloc ?_ ?_ _) | (with_reducible refine Below.drew ?_) | (with_reducible refine Below.setCell ?_ ?_ _) | (with_reducible refine Below.trans ?_ (Below.mono (by assumption) ?_)) | (with_reducible exact Nat.le_refl _) | omega | (simp only [World.size_alloc, World.size_setCell, World.size_drew]; omega) | (simp; omega) | (simp; done))); done)))
    (first | (go_at_call 23; (with_reducible refine (K.call _).mono ?_); rintro e w2 ⟨rfl, hb⟩; have R2 : Hid (Blk w2 w.heap.size #[.float .f32 0, .float .f32 0, .float .f32 0] 49) := Blk.below (Blk.drew R0.out) hb; have B2 : Hid (Below w.heap.size w w2) := HB.out.drew.trans (hb.mono (by simp; omega)); have o0 := Blk.cellAt (i := 0) R2.out rfl; have o1 := Blk.cellAt (i := 1) R2.out rfl; have o2 := Blk.cellAt (i := 2) R2.out rfl; have f0 := R2.out.free 0; have f1 := R2.out.free 1; have f2 := R2.out.free 2; have lr := R2.out.lt; (simp only [List.getElem_toArray, List.getElem_cons_zero, List.getElem_cons_succ] at o0 o1 o2)))
  all_goals
    rename_i hHeld
    clear hHeld
    go_wp2
    have hbb := B2.out
    (have d0 := (R2.out.set (i := 0) (v := .float .f32 s.r)).cell 0; have d1 := ((R2.out.set (i := 0) (v := .float .f32 s.r)).set (i := 1) (v := .float .f32 s.g)).cell 1; have d2 := (((R2.out.set (i := 0) (v := .float .f32 s.r)).set (i := 1) (v := .float .f32 s.g)).set (i := 2) (v := .float .f32 s.b)).cell 2; simp only [List.setIfInBounds_toArray, List.set_cons_zero, List.set_cons_succ, List.getElem?_toArray, List.getElem?_cons_zero, List.getElem?_cons_succ] at d0 d1 d2; exact bodyPost_ret (v := .agg #[.float .f32 s.r, .float .f32 s.g, .float .f32 s.b]) (by simp [results, Try.results85, go_sem, d0, d1, d2]) rfl ⟨rfl, by (repeat' (first | (with_reducible exact Below.refl _ _) | (with_reducible assumption) | (with_reducible refine Below.alloc ?_ ?_ _) | (with_reducible refine Below.drew ?_) | (with_reducible refine Below.setCell ?_ ?_ _) | (with_reducible refine Below.trans ?_ (Below.mono (by assumption) ?_)) | (with_reducible exact Nat.le_refl _) | omega | (simp only [World.size_alloc, World.size_setCell, World.size_drew]; omega) | (simp; omega) | (simp; done)))⟩)⟩
set_option maxHeartbeats 4000000 in
theorem spread_clo {n k : Nat} {kind : Int} {a : Option Addr} {cap bp bs : Nat} {l : List Lit} {W : World} (h1 : 1 ≤ n) (h8 : n ≤ 8) (hk : k < n * n) (hl : l.length = n * n)
    (P : PicBox W bp n a cap l) (S : Blk W bs #[.int .i64 kind] 3) :
    CloM 99 W #[.int .i64 k, .pointer (some ⟨bp, 0, Option.none⟩), .pointer (some ⟨bs, 0, Option.none⟩)] (l.getD (leastN kind n k) default) := ⟨fun w hw => by
  have K := leastM kind h1 h8 hk
  have hc : leastN kind n k < n * n := Nat.lt_of_le_of_lt (leastL_le _ _ _) hk
  rw [← hl] at hc
  rcases (P.below hw).row with hnil | ⟨b, off, rfl, hR⟩
  · exfalso; rw [hnil] at hc; simp at hc
  have hrow := hR _ hc
  have p0 := Blk.cellAt (i := 0) (P.below hw).blk rfl
  have p1 := Blk.cellAt (i := 1) (P.below hw).blk rfl
  have s0 := Blk.cellAt (i := 0) (S.below hw) rfl
  simp only [List.getElem_toArray, List.getElem_cons_zero, List.getElem_cons_succ] at p0 p1 s0
  have lp := cell_lt p0
  have ls := cell_lt s0
  have lb := cell_lt hrow.1
  generalize leastN kind n k = c at *
  generalize l.getD c default = s at *
  have hc0 : (0 : Int) ≤ (c : Int) := by omega
  have hc1 : (c : Int) < (l.length : Int) := by omega
  clear hR P S hw hk hl
  obtain ⟨d0, d1, d2⟩ := hrow
  go_enter Try.func99, Try.ntmps99
  go_wp2_with fail
  generalize hW : w.alloc (.cells #[.float .f32 0, .float .f32 0, .float .f32 0] 49) = X
  have R0 : Hid (Blk X w.heap.size #[.float .f32 0, .float .f32 0, .float .f32 0] 49) := by rw [← hW]; exact Blk.new _ _ _
  have HB : Hid (Below w.heap.size w X) := by rw [← hW]; show Below w.heap.size w _; (repeat' (first | (with_reducible exact Below.refl _ _) | (with_reducible assumption) | (with_reducible refine Below.alloc ?_ ?_ _) | (with_reducible refine Below.drew ?_) | (with_reducible refine Below.setCell ?_ ?_ _) | (with_reducible refine Below.trans ?_ (Below.mono (by assumption) ?_)) | (with_reducible exact Nat.le_refl _) | omega | (simp only [World.size_alloc, World.size_setCell, World.size_drew]; omega) | (simp; omega) | (simp; done)))
  have hs : X.heap.size = w.heap.size + 1 := by rw [← hW]; simp
  have q0 : X.cell? ⟨bp, 0, Option.none⟩ = some (.int .i64 n) := by rw [← hW]; exact cAlloc p0
  have q1 : X.cell? ⟨bp, 1, Option.none⟩ = some (.slice (some ⟨b, off, Option.none⟩) l.length cap) := by rw [← hW]; exact cAlloc p1
  have u0 : X.cell? ⟨bs, 0, Option.none⟩ = some (.int .i64 kind) := by rw [← hW]; exact cAlloc s0
  have v0 : X.cell? ⟨b, (off + c * 3), Option.none⟩ = some (.float .f32 s.r) ∧ X.cell? ⟨b, (off + c * 3) + 1, Option.none⟩ = some (.float .f32 s.g) ∧ X.cell? ⟨b, (off + c * 3) + 2, Option.none⟩ = some (.float .f32 s.b) := by rw [← hW]; exact ⟨cAlloc d0, cAlloc d1, cAlloc d2⟩
  obtain ⟨e0, e1, e2⟩ := v0
  clear hW p0 p1 s0 d0 d1 d2
  go_region_held3 (fun wx => wx.cell? ⟨bp, 0, Option.none⟩ = some (.int .i64 n) ∧ wx.cell? ⟨bp, 1, Option.none⟩ = some (.slice (some ⟨b, off, Option.none⟩) l.length cap) ∧ wx.cell? ⟨bs, 0, Option.none⟩ = some (.int .i64 kind) ∧ wx.cell? ⟨b, (off + c * 3), Option.none⟩ = some (.float .f32 s.r) ∧ wx.cell? ⟨b, (off + c * 3) + 1, Option.none⟩ = some (.float .f32 s.g) ∧ wx.cell? ⟨b, (off + c * 3) + 2, Option.none⟩ = some (.float .f32 s.b))
    (((repeat' apply And.intro) <;> first | (with_reducible assumption) | (((repeat (first | (with_reducible assumption) | (with_reducible exact cNewAt (by first | rfl | (simp only [World.size_alloc, World.size_setCell, World.size_drew]; done) | omega) rfl) | (with_reducible exact sNewAt (by first | rfl | (simp only [World.size_alloc, World.size_setCell, World.size_drew]; done) | omega) rfl) | (simp; done) | (with_reducible apply cAlloc) | (with_reducible apply cDrew) | (with_reducible refine cSet (by dsimp only; omega) ?_) | (with_reducible refine cSetOff (by dsimp only; omega) ?_) | (with_reducible apply cSame) | (with_reducible refine cBelow (by assumption) ?_) | (with_reducible apply sAlloc) | (with_reducible apply sDrew) | (with_reducible refine sBelow (by assumption) ?_) | (with_reducible refine sSet (by dsimp only; omega) ?_))); first | done | (simp [*]; done)); done) | (simp only [World.size_alloc, World.size_setCell, World.size_drew]; omega) | omega | (go_keep; done) | ((repeat' (first | (with_reducible exact Below.refl _ _) | (with_reducible assumption) | (with_reducible refine Below.alloc ?_ ?_ _) | (with_reducible refine Below.drew ?_) | (with_reducible refine Below.setCell ?_ ?_ _) | (with_reducible refine Below.trans ?_ (Below.mono (by assumption) ?_)) | (with_reducible exact Nat.le_refl _) | omega | (simp only [World.size_alloc, World.size_setCell, World.size_drew]; omega) | (simp; omega) | (simp; done))); done)))
    (first | (go_at_call 100; (with_reducible refine (K.call _).mono ?_); rintro e w2 ⟨rfl, hb⟩; have R2 : Hid (Blk w2 w.heap.size #[.float .f32 0, .float .f32 0, .float .f32 0] 49) := Blk.below (Blk.drew R0.out) hb; have B2 : Hid (Below w.heap.size w w2) := HB.out.drew.trans (hb.mono (by simp; omega)); have o0 := Blk.cellAt (i := 0) R2.out rfl; have o1 := Blk.cellAt (i := 1) R2.out rfl; have o2 := Blk.cellAt (i := 2) R2.out rfl; have f0 := R2.out.free 0; have f1 := R2.out.free 1; have f2 := R2.out.free 2; have lr := R2.out.lt; (simp only [List.getElem_toArray, List.getElem_cons_zero, List.getElem_cons_succ] at o0 o1 o2)))
  all_goals
    rename_i hHeld
    clear hHeld
    go_wp2
    have hbb := B2.out
    (have d0 := (R2.out.set (i := 0) (v := .float .f32 s.r)).cell 0; have d1 := ((R2.out.set (i := 0) (v := .float .f32 s.r)).set (i := 1) (v := .float .f32 s.g)).cell 1; have d2 := (((R2.out.set (i := 0) (v := .float .f32 s.r)).set (i := 1) (v := .float .f32 s.g)).set (i := 2) (v := .float .f32 s.b)).cell 2; simp only [List.setIfInBounds_toArray, List.set_cons_zero, List.set_cons_succ, List.getElem?_toArray, List.getElem?_cons_zero, List.getElem?_cons_succ] at d0 d1 d2; exact bodyPost_ret (v := .agg #[.float .f32 s.r, .float .f32 s.g, .float .f32 s.b]) (by simp [results, Try.results99, go_sem, d0, d1, d2]) rfl ⟨rfl, by (repeat' (first | (with_reducible exact Below.refl _ _) | (with_reducible assumption) | (with_reducible refine Below.alloc ?_ ?_ _) | (with_reducible refine Below.drew ?_) | (with_reducible refine Below.setCell ?_ ?_ _) | (with_reducible refine Below.trans ?_ (Below.mono (by assumption) ?_)) | (with_reducible exact Nat.le_refl _) | omega | (simp only [World.size_alloc, World.size_setCell, World.size_drew]; omega) | (simp; omega) | (simp; done)))⟩)⟩
end Go.Proofs.Ytlnikapkheldeaa
