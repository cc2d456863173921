/-
  The call of FnExactSymsOf returns true and writes nothing that was there.
-/
import Derived.Test.YtbeefbmgbmgbfaaSfive
namespace Go.Proofs.Ytbeefbmgbmgbfaa.wFnExactSymsOf
open Go.ChangeShapes Go.WideShapes Go.ChangeAt Go.RowKit Go.Joins 
set_option linter.unusedSimpArgs false
set_option linter.unusedVariables false

theorem part_of {W : World} {base g n cap : Nat} {l : List (Int × Bool)} (h : W.ownsRow base 25 2 (.slice (some ⟨g, 0, Option.none⟩) n cap) n (symCells l)) (m : Int) : SymPart W g n 0 m := by
  obtain ⟨_, h2⟩ := h
  rcases h2 with ⟨e, _⟩ | ⟨g', cap', cur, e, _, hb, hn, _, hs, _⟩
  · simp at e
  · simp only [Value.slice.injEq, Option.some.injEq, Addr.mk.injEq] at e
    obtain ⟨⟨rfl, _⟩, _, rfl⟩ := e
    exact ⟨cur, hb, by omega, fun j hj => by omega⟩

theorem SymRow.other {W w1 : World} {g g2 : Nat} {l : List (Int × Bool)} (h : SymRow W g l) (hg : W.grownBy w1 (some g2)) (hne : g ≠ g2) : SymRow w1 g l := by
  intro k hk
  obtain ⟨h0, h1⟩ := h k hk
  have e : w1.heap[g]? = W.heap[g]? := hg.block g (cell_lt h0) (fun q => hne (Option.some.inj q))
  exact ⟨(World.cell?_of_block (a := ⟨g, k * 2, Option.none⟩) e).trans h0, (World.cell?_of_block (a := ⟨g, k * 2 + 1, Option.none⟩) e).trans h1⟩

set_option maxHeartbeats 1600000 in
set_option maxRecDepth 1000000 in
theorem walk (kind : Int) (w : World) (_ : -9223372036854775808 ≤ kind) (_ : kind ≤ 9223372036854775807) :
    Calls Try.prog 11 #[.int .i64 kind] w fun e w' => e = .returned (.bool true) ∧ Below w.heap.size w w' := by
  have hlen := symsTo_le kind 8
  generalize hl : symsTo kind 8 = l at hlen
  have C1 : ∀ W, Calls Try.prog 35 #[.int .i64 kind] W fun e w' => ∃ g cap, e = .returned (.slice (some ⟨g, 0, Option.none⟩) l.length cap) ∧ w'.ownsRow W.heap.size 25 2 (.slice (some ⟨g, 0, Option.none⟩) l.length cap) l.length (symCells l) ∧ Below W.heap.size W w' := fun W => by
    have := symsOf_s kind W
    rw [hl] at this
    exact this
  have C2 : ∀ W, Calls Try.prog 21 #[.int .i64 kind] W fun e w' => ∃ g cap, e = .returned (.slice (some ⟨g, 0, Option.none⟩) l.length cap) ∧ w'.ownsRow W.heap.size 25 2 (.slice (some ⟨g, 0, Option.none⟩) l.length cap) l.length (symCells l) ∧ Below W.heap.size W w' := fun W => by
    have := symsOf_i kind W
    rw [hl] at this
    exact this
  clear hl
  go_enter Try.func11, Try.ntmps11
  go_wp2_with fail
  refine (C1 _).mono ?_
  rintro e w1 ⟨g1, c1, rfl, own1, hb1⟩
  have r1 := symRow_of own1 rfl
  have k1 := own1.lt g1 rfl
  clear own1
  go_wp2_with fail
  refine (C2 _).mono ?_
  rintro e w2 ⟨g2, c2, rfl, own2, hb2⟩
  have k2 := own2.lt g2 rfl
  have s2 := hb2.size
  have s1 := hb1.size
  have r1' := r1.below hb2
  have r2 := symRow_of own2 rfl
  clear r1
  go_wp2_with fail
  refine (eqSymS_same l _ _ _ _ _ _ rfl (by omega) r2 r1').mono ?_
  rintro e w3 ⟨rfl, hb3⟩
  have s3 := hb3.size
  have p3 := part_of (ownsBelow hb3 own2) 1
  have r13 := r1'.below hb3
  clear r1' r2 own2
  go_wp2_with fail
  refine (markSymS_any _ _ _ 1 _ (by omega) (by omega) (by omega) p3).mono ?_
  rintro e w4 ⟨rfl, p4, gr4⟩
  have b3 : Below w.heap.size w w3 := by (repeat' (first | (with_reducible exact Below.refl _ _) | (with_reducible assumption) | (with_reducible refine Below.alloc ?_ ?_ _) | (with_reducible refine Below.drew ?_) | (with_reducible refine Below.setCell ?_ ?_ _) | (with_reducible refine Below.trans ?_ (Below.mono (by assumption) ?_)) | (with_reducible exact Nat.le_refl _) | omega | (simp only [World.size_alloc, World.size_setCell, World.size_drew]; omega) | (simp; omega) | (simp; done)))
  have b4 : Below w.heap.size w w4 := Below.grown b3 gr4 (by omega) (fun q hq => by cases hq; omega)
  have m4 := p4.marks
  have r14 := SymRow.other r13 gr4 (by omega)
  have s4 := gr4.size
  clear p3 p4 r13 hb3 hb2 hb1 b3 gr4
  go_wp2_with fail
  refine (heldSymS_any _ _ _ 1 _ (by omega) (by omega) (by omega) m4).mono ?_
  rintro e w5 ⟨rfl, hb5⟩
  have m5 := m4.below hb5
  have r15 := r14.below hb5
  have s5 := hb5.size
  clear m4 r14
  go_wp2_with fail
  refine (C2 _).mono ?_
  rintro e w6 ⟨g6, c6, rfl, own6, hb6⟩
  have m6 := m5.below hb6
  have r16 := r15.below hb6
  have r6 := symRow_of own6 rfl
  have s6 := hb6.size
  clear m5 r15 own6
  go_wp2_with fail
  refine (eqSymS_same l _ _ _ _ _ _ rfl (by omega) r6 r16).mono ?_
  rintro e w7 ⟨rfl, hb7⟩
  have m7 := m6.below hb7
  have s7 := hb7.size
  clear m6 r16 r6
  go_wp2_with fail
  refine (heldSymS_any _ _ _ 1 _ (by omega) (by omega) (by omega) m7).mono ?_
  rintro e w8 ⟨rfl, hb8⟩
  clear m7
  go_wp2
  go_returns; exact ⟨rfl, by (repeat' (first | (with_reducible exact Below.refl _ _) | (with_reducible assumption) | (with_reducible refine Below.alloc ?_ ?_ _) | (with_reducible refine Below.drew ?_) | (with_reducible refine Below.setCell ?_ ?_ _) | (with_reducible refine Below.trans ?_ (Below.mono (by assumption) ?_)) | (with_reducible exact Nat.le_refl _) | omega | (simp only [World.size_alloc, World.size_setCell, World.size_drew]; omega) | (simp; omega) | (simp; done)))⟩
end Go.Proofs.Ytbeefbmgbmgbfaa.wFnExactSymsOf
