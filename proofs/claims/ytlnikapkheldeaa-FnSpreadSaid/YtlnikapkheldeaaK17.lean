/-
  Texts of this proof, joined: Sfour.
-/
import Derived.Test.YtlnikapkheldeaaK16
/-
  The symmetries of mirrors of a kind, as the model lists them.
-/
namespace Go.Proofs.Ytlnikapkheldeaa
open Go.ChangeShapes Go.WideShapes Go.ChangeAt Go.RowKit Go.Joins 
set_option linter.unusedSimpArgs false
set_option linter.unusedVariables false
theorem symsTo_none {kind : Int} (h : ¬ (0 ≤ kind ∧ kind ≤ 3)) (k : Nat) : symsTo kind k = [] := by
  have h0 : ∀ t f, ofB kind t f = false := by
    intro t f
    have h1 : kind ≠ 0 := by omega
    have h2 : kind ≠ 1 := by omega
    have h3 : kind ≠ 2 := by omega
    have h4 : kind ≠ 3 := by omega
    simp [ofB, h1, h2, h3, h4]
  simp [symsTo, h0]

set_option maxHeartbeats 1600000 in
set_option maxRecDepth 1000000 in
theorem symsOf_s (kind : Int) (w : World) :
    Calls Try.prog 123 #[.int .i64 kind] w fun e w' => ∃ g cap, e = .returned (.slice (some ⟨g, 0, Option.none⟩) (symsTo kind 8).length cap) ∧ w'.ownsRow w.heap.size 25 2 (.slice (some ⟨g, 0, Option.none⟩) (symsTo kind 8).length cap) (symsTo kind 8).length (symCells (symsTo kind 8)) ∧ Below w.heap.size w w' := by
  obtain ⟨i0, hi, hz0, hz1, hz2⟩ := info_parts infoSym
  go_enter Try.func123, Try.ntmps123
  go_wp2_with (go_at_call 72; refine (l1All_s _).mono ?_; rintro e w1 ⟨g, cap, rfl, hlist, hb⟩; obtain ⟨hc, hf⟩ := bcell hb; have HL := keepL (by (repeat (first | (with_reducible assumption) | (with_reducible apply AllLt.alloc) | (with_reducible apply AllLt.setCell) | (with_reducible apply AllLt.drew) | (with_reducible exact AllLt.nil _)))) hb; have hq := HL; simp only [AllLt, and_true, World.size_alloc, World.size_setCell, World.size_drew] at hq; have hbs := hb.size; try simp only [World.size_alloc, World.size_setCell, World.size_drew] at hbs)
  have hg := (hlist.lt g rfl)
  simp only [World.size_alloc] at hg
  go_loopw [3, 9] (fun v i wr => ∃ k : Nat, k ≤ 8 ∧ i = .int .i64 k ∧ wr.ownsRow w.heap.size 25 2 v (symsTo kind k).length (symCells (symsTo kind k)) ∧ wr.ownsRow w.heap.size 25 2 (.slice (some ⟨g, 0, Option.none⟩) 8 cap) 8 (symCells (allTo 8)) ∧ v.ownBlock ≠ some g ∧ g < wr.heap.size ∧ v ≠ .slice Option.none 0 0 ∧ Below w.heap.size w wr)
    (fun _ i _ => 8 - (intOf i).toNat)
  case atStart =>
    refine ⟨0, by omega, rfl, ?_, ownsRow_le hlist (by simp), ?_, hg.2, by simp, by (repeat' (first | (with_reducible exact Below.refl _ _) | (with_reducible assumption) | (with_reducible refine Below.alloc ?_ ?_ _) | (with_reducible refine Below.drew ?_) | (with_reducible refine Below.setCell ?_ ?_ _) | (with_reducible refine Below.trans ?_ (Below.mono (by assumption) ?_)) | (with_reducible exact Nat.le_refl _) | omega | (simp only [World.size_alloc, World.size_setCell, World.size_drew]; omega) | (simp; omega) | (simp; done)))⟩
    · exact ownsBelow hb (World.ownsRow_lit _ #[] 0 (by simp) (by unfold maxLen; omega) rfl)
    · simp [Value.ownBlock]
      omega
  case round =>
    obtain ⟨k, hk, rfl, hown, hli, hne, hgl, hnn, hbel⟩ := hrel
    have HNN : Hid (u3 ≠ .slice Option.none 0 0) := hnn
    clear hnn
    have hbase := hbel.size
    by_cases hlt : k < 8
    · have hle := symsTo_le kind k
      have hs := symCells_at k hlt
      have hx0 : wr.cell? ⟨g, k * 2, Option.none⟩ = some (.int .i64 ((k : Int) % 4)) := by rw [hli.cellAt _ (by omega)]; exact hs.1
      have hx1 : wr.cell? ⟨g, k * 2 + 1, Option.none⟩ = some (.bool (decide (4 ≤ (k : Int)))) := by rw [hli.cellAt _ (by omega)]; exact hs.2
      clear hs
      by_cases hin : 0 ≤ kind ∧ kind ≤ 3
      · obtain ⟨hin0, hin3⟩ := hin
        have hI := lieB_yes hin0 hin3
        cases hB : ofB kind ((k : Int) % 4) (decide (4 ≤ (k : Int))) with
        | true =>
          have HY : Hid (symsTo kind (k + 1) = symsTo kind k ++ [symK k]) := symsTo_yes (kind := kind) (k := k) hB
          go_wp2_with (first | (go_at_call 112; refine (l1In_s _ _ _ _).mono ?_; rintro e w1 ⟨rfl, hb⟩; obtain ⟨hc, hf⟩ := bcell hb; have HL := keepL (by (repeat (first | (with_reducible assumption) | (with_reducible apply AllLt.alloc) | (with_reducible apply AllLt.setCell) | (with_reducible apply AllLt.drew) | (with_reducible exact AllLt.nil _)))) hb; have hq := HL; simp only [AllLt, and_true, World.size_alloc, World.size_setCell, World.size_drew] at hq; have hbs := hb.size; try simp only [World.size_alloc, World.size_setCell, World.size_drew] at hbs) | (go_at_call 164; refine (l1Of_s _ _ _ _ (by omega) (by omega) hin0 hin3).mono ?_; rintro e w1 ⟨rfl, hb⟩; obtain ⟨hc, hf⟩ := bcell hb; have HL := keepL (by (repeat (first | (with_reducible assumption) | (with_reducible apply AllLt.alloc) | (with_reducible apply AllLt.setCell) | (with_reducible apply AllLt.drew) | (with_reducible exact AllLt.nil _)))) hb; have hq := HL; simp only [AllLt, and_true, World.size_alloc, World.size_setCell, World.size_drew] at hq; have hbs := hb.size; try simp only [World.size_alloc, World.size_setCell, World.size_drew] at hbs) | (at_builtin; refine wpList_append_own_at _ rfl _ _ 41 rfl w.heap.size 25 i0 (.agg #[.int .i64 0, .bool false]) 2 16 Try.underlying41 hi hz0 hz1 hz2 rfl (by decide) _ (symsTo kind k).length (symCells (symsTo kind k)) rfl ?hown ⟨w1.heap.size, 0, Option.none⟩ 1 1 [.int .i64 (symK k).1, .bool (symK k).2] rfl rfl ?c1 ?c2 ?c3 ?c4 ?c5 ?_))
          case hown => (change World.ownsRow _ _ _ _ u3 _ _; (repeat (first | (with_reducible assumption) | (with_reducible refine World.ownsRow.alloc ?_ _) | (with_reducible refine World.ownsRow.drew ?_) | (with_reducible refine ownsBelow (by assumption) ?_))))
          case c1 =>
            intro j u hj
            rcases j with _ | _ | j <;> simp [symK] at hj <;> subst hj <;> simp [Addr.add]
          case c2 =>
            intro u hu
            simp at hu
            rcases hu with rfl | rfl <;> rfl
          case c3 => (unfold maxLen; omega)
          case c4 => omega
          case c5 => first | omega | (simp only [World.size_alloc, World.size_setCell, World.size_drew]; omega)
          intro v' w2 hown' hgrow hvn hat
          have HVN : Hid (v' ≠ .slice Option.none 0 0) := hvn
          clear hvn
          have hb2 : Below w.heap.size w w2 := Below.grown (by (repeat' (first | (with_reducible exact Below.refl _ _) | (with_reducible assumption) | (with_reducible refine Below.alloc ?_ ?_ _) | (with_reducible refine Below.drew ?_) | (with_reducible refine Below.setCell ?_ ?_ _) | (with_reducible refine Below.trans ?_ (Below.mono (by assumption) ?_)) | (with_reducible exact Nat.le_refl _) | omega | (simp only [World.size_alloc, World.size_setCell, World.size_drew]; omega) | (simp; omega) | (simp; done)))) hgrow (by first | omega | (simp only [World.size_alloc, World.size_setCell, World.size_drew]; omega)) (fun q hq => (hown.lt q hq).1)
          have hli2 : w2.ownsRow w.heap.size 25 2 (.slice (some ⟨g, 0, Option.none⟩) 8 cap) 8 (symCells (allTo 8)) := World.ownsRow.kept (by (repeat (first | (with_reducible assumption) | (with_reducible refine World.ownsRow.alloc ?_ _) | (with_reducible refine World.ownsRow.drew ?_) | (with_reducible refine ownsBelow (by assumption) ?_)))) hgrow (.inr fun e => hne e.symm)
          have hgl2 := (hli2.lt g rfl).2
          have hne2 : v'.ownBlock ≠ some g := by
            rcases hat with e | e
            · rw [e]; exact hne
            · rw [e]
              intro e2
              have e3 := Option.some.inj e2
              try simp only [World.size_alloc] at e3
              omega
          clear hgrow hat
          go_wp2
          go_roundw
          case rel => exact ⟨k + 1, by omega, by go_num, by rw [HY.out, symCells_snoc]; simpa using hown', hli2, hne2, hgl2, HVN.out, hb2⟩
          case measure => simp [intOf]; omega
        | false =>
          have HN : Hid (symsTo kind (k + 1) = symsTo kind k) := symsTo_no (kind := kind) (k := k) hB
          go_wp2_with (first | (go_at_call 112; refine (l1In_s _ _ _ _).mono ?_; rintro e w1 ⟨rfl, hb⟩; obtain ⟨hc, hf⟩ := bcell hb; have HL := keepL (by (repeat (first | (with_reducible assumption) | (with_reducible apply AllLt.alloc) | (with_reducible apply AllLt.setCell) | (with_reducible apply AllLt.drew) | (with_reducible exact AllLt.nil _)))) hb; have hq := HL; simp only [AllLt, and_true, World.size_alloc, World.size_setCell, World.size_drew] at hq; have hbs := hb.size; try simp only [World.size_alloc, World.size_setCell, World.size_drew] at hbs) | (go_at_call 164; refine (l1Of_s _ _ _ _ (by omega) (by omega) hin0 hin3).mono ?_; rintro e w1 ⟨rfl, hb⟩; obtain ⟨hc, hf⟩ := bcell hb; have HL := keepL (by (repeat (first | (with_reducible assumption) | (with_reducible apply AllLt.alloc) | (with_reducible apply AllLt.setCell) | (with_reducible apply AllLt.drew) | (with_reducible exact AllLt.nil _)))) hb; have hq := HL; simp only [AllLt, and_true, World.size_alloc, World.size_setCell, World.size_drew] at hq; have hbs := hb.size; try simp only [World.size_alloc, World.size_setCell, World.size_drew] at hbs))
          go_roundw
          case rel => exact ⟨k + 1, by omega, by go_num, by rw [HN.out]; (repeat (first | (with_reducible assumption) | (with_reducible refine World.ownsRow.alloc ?_ _) | (with_reducible refine World.ownsRow.drew ?_) | (with_reducible refine ownsBelow (by assumption) ?_))), by (repeat (first | (with_reducible assumption) | (with_reducible refine World.ownsRow.alloc ?_ _) | (with_reducible refine World.ownsRow.drew ?_) | (with_reducible refine ownsBelow (by assumption) ?_))), hne, by first | omega | (simp only [World.size_alloc, World.size_setCell, World.size_drew]; omega), HNN.out, by (repeat' (first | (with_reducible exact Below.refl _ _) | (with_reducible assumption) | (with_reducible refine Below.alloc ?_ ?_ _) | (with_reducible refine Below.drew ?_) | (with_reducible refine Below.setCell ?_ ?_ _) | (with_reducible refine Below.trans ?_ (Below.mono (by assumption) ?_)) | (with_reducible exact Nat.le_refl _) | omega | (simp only [World.size_alloc, World.size_setCell, World.size_drew]; omega) | (simp; omega) | (simp; done)))⟩
          case measure => simp [intOf]; omega
      · have hI := lieB_no hin
        have HN : Hid (symsTo kind (k + 1) = symsTo kind k) := by rw [symsTo_none hin, symsTo_none hin]; exact rfl
        go_wp2_with (first | (go_at_call 112; refine (l1In_s _ _ _ _).mono ?_; rintro e w1 ⟨rfl, hb⟩; obtain ⟨hc, hf⟩ := bcell hb; have HL := keepL (by (repeat (first | (with_reducible assumption) | (with_reducible apply AllLt.alloc) | (with_reducible apply AllLt.setCell) | (with_reducible apply AllLt.drew) | (with_reducible exact AllLt.nil _)))) hb; have hq := HL; simp only [AllLt, and_true, World.size_alloc, World.size_setCell, World.size_drew] at hq; have hbs := hb.size; try simp only [World.size_alloc, World.size_setCell, World.size_drew] at hbs))
        go_roundw
        case rel => exact ⟨k + 1, by omega, by go_num, by rw [HN.out]; (repeat (first | (with_reducible assumption) | (with_reducible refine World.ownsRow.alloc ?_ _) | (with_reducible refine World.ownsRow.drew ?_) | (with_reducible refine ownsBelow (by assumption) ?_))), by (repeat (first | (with_reducible assumption) | (with_reducible refine World.ownsRow.alloc ?_ _) | (with_reducible refine World.ownsRow.drew ?_) | (with_reducible refine ownsBelow (by assumption) ?_))), hne, by first | omega | (simp only [World.size_alloc, World.size_setCell, World.size_drew]; omega), HNN.out, by (repeat' (first | (with_reducible exact Below.refl _ _) | (with_reducible assumption) | (with_reducible refine Below.alloc ?_ ?_ _) | (with_reducible refine Below.drew ?_) | (with_reducible refine Below.setCell ?_ ?_ _) | (with_reducible refine Below.trans ?_ (Below.mono (by assumption) ?_)) | (with_reducible exact Nat.le_refl _) | omega | (simp only [World.size_alloc, World.size_setCell, World.size_drew]; omega) | (simp; omega) | (simp; done)))⟩
        case measure => simp [intOf]; omega
    · have hk8 : k = 8 := by omega
      subst hk8
      rcases ownsRow_forms hown with ⟨e, _⟩ | ⟨g2, cap2, rfl⟩
      · exact absurd e HNN.out
      go_wp2
      go_ret
      exact ⟨_, _, rfl, hown, hbel⟩
end Go.Proofs.Ytlnikapkheldeaa
