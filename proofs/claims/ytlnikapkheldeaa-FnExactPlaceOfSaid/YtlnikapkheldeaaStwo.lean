/-
  The symmetries of mirrors of a kind, as the program lists them.
-/
import Derived.Test.YtlnikapkheldeaaSao
import Derived.Test.YtlnikapkheldeaaLall
namespace Go.Proofs.Ytlnikapkheldeaa
open Go.ChangeShapes Go.WideShapes Go.ChangeAt Go.RowKit Go.Joins 
set_option linter.unusedSimpArgs false
set_option linter.unusedVariables false
/-- Of the first k symmetries those of mirrors of a kind. -/
def symsTo (kind : Int) (k : Nat) : List (Int × Bool) := ((List.range k).map symK).filter fun p => ofB kind p.1 p.2
theorem symsTo_yes {kind : Int} {k : Nat} (h : ofB kind (symK k).1 (symK k).2 = true) : symsTo kind (k + 1) = symsTo kind k ++ [symK k] := by
  simp [symsTo, List.range_succ, h]
theorem symsTo_no {kind : Int} {k : Nat} (h : ofB kind (symK k).1 (symK k).2 = false) : symsTo kind (k + 1) = symsTo kind k := by
  simp [symsTo, List.range_succ, h]
theorem symsTo_le (kind : Int) (k : Nat) : (symsTo kind k).length ≤ k := by
  have := List.length_filter_le (fun p => ofB kind p.1 p.2) ((List.range k).map symK)
  simpa [symsTo] using this

set_option maxHeartbeats 1600000 in
set_option maxRecDepth 1000000 in
theorem symsOf_i (kind : Int) (w : World) :
    Calls Try.prog 33 #[.int .i64 kind] w fun e w' => ∃ g cap, e = .returned (.slice (some ⟨g, 0, Option.none⟩) (symsTo kind 8).length cap) ∧ w'.ownsRow w.heap.size 25 2 (.slice (some ⟨g, 0, Option.none⟩) (symsTo kind 8).length cap) (symsTo kind 8).length (symCells (symsTo kind 8)) ∧ Below w.heap.size w w' := by
  obtain ⟨i0, hi, hz0, hz1, hz2⟩ := info_parts infoSym
  go_enter Try.func33, Try.ntmps33
  go_wp2
  go_loopw [3, 7] (fun v i wr => ∃ k : Nat, k ≤ 8 ∧ i = .int .i64 k ∧ wr.ownsRow w.heap.size 25 2 v (symsTo kind k).length (symCells (symsTo kind k)) ∧ v ≠ .slice Option.none 0 0 ∧ Below w.heap.size w wr)
    (fun _ i _ => 8 - (intOf i).toNat)
  case atStart => exact ⟨0, by omega, rfl, World.ownsRow_lit _ #[] 0 (by simp) (by unfold maxLen; omega) rfl, by simp, by (repeat' (first | (with_reducible exact Below.refl _ _) | (with_reducible assumption) | (with_reducible refine Below.alloc ?_ ?_ _) | (with_reducible refine Below.drew ?_) | (with_reducible refine Below.setCell ?_ ?_ _) | (with_reducible refine Below.trans ?_ (Below.mono (by assumption) ?_)) | (with_reducible exact Nat.le_refl _) | omega | (simp only [World.size_alloc, World.size_setCell, World.size_drew]; omega) | (simp; omega) | (simp; done)))⟩
  case round =>
    obtain ⟨k, hk, rfl, hown, hnn, hbel⟩ := hrel
    have HNN : Hid (u3 ≠ .slice Option.none 0 0) := hnn
    clear hnn
    have hbase := hbel.size
    by_cases hlt : k < 8
    · have hle := symsTo_le kind k
      cases hB : ofB kind ((k : Int) % 4) (decide (4 ≤ (k : Int))) with
      | true =>
        have hy := symsTo_yes (kind := kind) (k := k) hB
        have HY : Hid (symsTo kind (k + 1) = symsTo kind k ++ [symK k]) := hy
        clear hy
        go_wp2_with (first | (go_at_call 87; refine (symAt_i _ _ hlt).mono ?_; rintro e w1 ⟨rfl, hb⟩; obtain ⟨hc, hf⟩ := bcell hb; have HL := keepL (by (repeat (first | (with_reducible assumption) | (with_reducible apply AllLt.alloc) | (with_reducible apply AllLt.setCell) | (with_reducible apply AllLt.drew) | (with_reducible exact AllLt.nil _)))) hb; have hq := HL; simp only [AllLt, and_true, World.size_alloc, World.size_setCell, World.size_drew] at hq; have hbs := hb.size; try simp only [World.size_alloc, World.size_setCell, World.size_drew] at hbs) | (go_at_call 88; refine (isSymOf_i _ _ _ _).mono ?_; rintro e w1 ⟨rfl, hb⟩; obtain ⟨hc, hf⟩ := bcell hb; have HL := keepL (by (repeat (first | (with_reducible assumption) | (with_reducible apply AllLt.alloc) | (with_reducible apply AllLt.setCell) | (with_reducible apply AllLt.drew) | (with_reducible exact AllLt.nil _)))) hb; have hq := HL; simp only [AllLt, and_true, World.size_alloc, World.size_setCell, World.size_drew] at hq; have hbs := hb.size; try simp only [World.size_alloc, World.size_setCell, World.size_drew] at hbs) | (at_builtin; go_loud (refine wpList_append_own _ rfl _ _ 41 rfl w.heap.size 25 i0 (.agg #[.int .i64 0, .bool false]) 2 16 Try.underlying41 hi hz0 hz1 hz2 rfl (by decide) _ (symsTo kind k).length (symCells (symsTo kind k)) rfl ?hown ⟨w1.heap.size, 0, Option.none⟩ 1 1 [.int .i64 (symK k).1, .bool (symK k).2] rfl rfl ?c1 ?c2 ?c3 ?c4 ?c5 ?_)))
        case hown => (change World.ownsRow _ _ _ _ u3 _ _; (repeat (first | (with_reducible assumption) | (with_reducible refine World.ownsRow.alloc ?_ _) | (with_reducible refine World.ownsRow.drew ?_) | (with_reducible refine ownsBelow (by assumption) ?_))))
        case c1 =>
          intro j u hj
          rcases j with _ | _ | j <;> simp [symK] at hj <;> subst hj <;> simp [Addr.add]
        case c2 =>
          intro u hu
          simp at hu
          rcases hu with rfl | rfl <;> rfl
        case c3 => (unfold maxLen; omega)
        case c4 => omega
        case c5 => first | omega | (simp only [World.size_alloc, World.size_setCell, World.size_drew]; omega)
        intro v' w2 hown' hgrow hvn
        have HVN : Hid (v' ≠ .slice Option.none 0 0) := hvn
        clear hvn
        have hb2 : Below w.heap.size w w2 := Below.grown (by (repeat' (first | (with_reducible exact Below.refl _ _) | (with_reducible assumption) | (with_reducible refine Below.alloc ?_ ?_ _) | (with_reducible refine Below.drew ?_) | (with_reducible refine Below.setCell ?_ ?_ _) | (with_reducible refine Below.trans ?_ (Below.mono (by assumption) ?_)) | (with_reducible exact Nat.le_refl _) | omega | (simp only [World.size_alloc, World.size_setCell, World.size_drew]; omega) | (simp; omega) | (simp; done)))) hgrow (by first | omega | (simp only [World.size_alloc, World.size_setCell, World.size_drew]; omega)) (fun q hq => (hown.lt q hq).1)
        clear hgrow
        go_wp2
        go_roundw
        case rel => exact ⟨k + 1, by omega, by go_num, by rw [HY.out, symCells_snoc]; simpa using hown', HVN.out, hb2⟩
        case measure => simp [intOf]; omega
      | false =>
        have hn := symsTo_no (kind := kind) (k := k) hB
        have HN : Hid (symsTo kind (k + 1) = symsTo kind k) := hn
        clear hn
        go_wp2_with (first | (go_at_call 87; refine (symAt_i _ _ hlt).mono ?_; rintro e w1 ⟨rfl, hb⟩; obtain ⟨hc, hf⟩ := bcell hb; have HL := keepL (by (repeat (first | (with_reducible assumption) | (with_reducible apply AllLt.alloc) | (with_reducible apply AllLt.setCell) | (with_reducible apply AllLt.drew) | (with_reducible exact AllLt.nil _)))) hb; have hq := HL; simp only [AllLt, and_true, World.size_alloc, World.size_setCell, World.size_drew] at hq; have hbs := hb.size; try simp only [World.size_alloc, World.size_setCell, World.size_drew] at hbs) | (go_at_call 88; refine (isSymOf_i _ _ _ _).mono ?_; rintro e w1 ⟨rfl, hb⟩; obtain ⟨hc, hf⟩ := bcell hb; have HL := keepL (by (repeat (first | (with_reducible assumption) | (with_reducible apply AllLt.alloc) | (with_reducible apply AllLt.setCell) | (with_reducible apply AllLt.drew) | (with_reducible exact AllLt.nil _)))) hb; have hq := HL; simp only [AllLt, and_true, World.size_alloc, World.size_setCell, World.size_drew] at hq; have hbs := hb.size; try simp only [World.size_alloc, World.size_setCell, World.size_drew] at hbs))
        go_roundw
        case rel => exact ⟨k + 1, by omega, by go_num, by rw [HN.out]; (repeat (first | (with_reducible assumption) | (with_reducible refine World.ownsRow.alloc ?_ _) | (with_reducible refine World.ownsRow.drew ?_) | (with_reducible refine ownsBelow (by assumption) ?_))), HNN.out, by (repeat' (first | (with_reducible exact Below.refl _ _) | (with_reducible assumption) | (with_reducible refine Below.alloc ?_ ?_ _) | (with_reducible refine Below.drew ?_) | (with_reducible refine Below.setCell ?_ ?_ _) | (with_reducible refine Below.trans ?_ (Below.mono (by assumption) ?_)) | (with_reducible exact Nat.le_refl _) | omega | (simp only [World.size_alloc, World.size_setCell, World.size_drew]; omega) | (simp; omega) | (simp; done)))⟩
        case measure => simp [intOf]; omega
    · have hk8 : k = 8 := by omega
      subst hk8
      rcases ownsRow_forms hown with ⟨e, _⟩ | ⟨g, cap, rfl⟩
      · exact absurd e HNN.out
      go_wp2
      go_ret
      exact ⟨_, _, rfl, hown, hbel⟩
end Go.Proofs.Ytlnikapkheldeaa
