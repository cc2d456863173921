/-
  The model's PlaceOf, and its CellTo where there is no answer.
-/
import Derived.Test.YtlnikapkheldeaaMb
namespace Go.Proofs.Ytlnikapkheldeaa
open Go.ChangeShapes Go.WideShapes Go.ChangeAt Go.RowKit Go.Joins
set_option linter.unusedSimpArgs false
set_option linter.unusedVariables false
set_option maxRecDepth 100000
attribute [local go_sem] store_f
open Ieee
attribute [local go_sem] store_c

set_option maxHeartbeats 4000000 in
theorem cellS_no {n k t : Int} (f : Bool) (h : cellB n k = false ∨ isSymB t = false) : CellS n k t f (-1) := ⟨fun w => by
  by_cases hn : 1 ≤ n ∧ n ≤ 8
  · have L1 : LieM n 1 8 true := lieM_yes hn.1 hn.2
    obtain ⟨m, rfl, h1, h8⟩ := size_cases (n := n) (by unfold sizeB; simp; omega)
    obtain ⟨N, hN⟩ : ∃ N : Nat, N = m * m := ⟨_, rfl⟩
    have hN64 : N ≤ 64 := by rw [hN]; exact Nat.le_trans (Nat.mul_le_mul h8 h8) (by omega)
    have hNN : (m : Int) * (m : Int) = (N : Int) := by rw [hN]; simp
    by_cases hk : 0 ≤ k ∧ k ≤ (N : Int) - 1
    · have L2 : LieM k 0 ((N : Int) - 1) true := lieM_yes hk.1 hk.2
      have hc : cellB (m : Int) k = true := by
        unfold cellB sizeB
        rw [hNN]
        simp
        omega
      have hi := h.resolve_left (by rw [hc]; decide)
      have Y := isSymS t f
      rw [hi] at Y
      clear hc hi h hN
      go_enter Try.func49, Try.ntmps49
      go_wp2_with (first | (go_at_call 112; (first | (with_reducible refine (L1.call _).mono ?_) | (with_reducible refine (L2.call _).mono ?_)); rintro e w1 ⟨rfl, hb⟩; obtain ⟨hc, hf⟩ := bcell hb; have HL := keepL (by (repeat (first | (with_reducible assumption) | (with_reducible apply AllLt.alloc) | (with_reducible apply AllLt.setCell) | (with_reducible apply AllLt.drew) | (with_reducible exact AllLt.nil _)))) hb; have hq := HL; simp only [AllLt, and_true, World.size_alloc, World.size_setCell, World.size_drew] at hq; have hbs := hb.size; try simp only [World.size_alloc, World.size_setCell, World.size_drew] at hbs) | (go_at_call 117; refine (Y.call _).mono ?_; rintro e w1 ⟨rfl, hb⟩; obtain ⟨hc, hf⟩ := bcell hb; have HL := keepL (by (repeat (first | (with_reducible assumption) | (with_reducible apply AllLt.alloc) | (with_reducible apply AllLt.setCell) | (with_reducible apply AllLt.drew) | (with_reducible exact AllLt.nil _)))) hb; have hq := HL; simp only [AllLt, and_true, World.size_alloc, World.size_setCell, World.size_drew] at hq; have hbs := hb.size; try simp only [World.size_alloc, World.size_setCell, World.size_drew] at hbs))
      go_ret
      exact ⟨rfl, by (repeat' (first | (with_reducible exact Below.refl _ _) | (with_reducible assumption) | (with_reducible refine Below.alloc ?_ ?_ _) | (with_reducible refine Below.drew ?_) | (with_reducible refine Below.setCell ?_ ?_ _) | (with_reducible refine Below.trans ?_ (Below.mono (by assumption) ?_)) | (with_reducible exact Nat.le_refl _) | omega | (simp only [World.size_alloc, World.size_setCell, World.size_drew]; omega) | (simp; omega) | (simp; done)))⟩
    · have L2 : LieM k 0 ((N : Int) - 1) false := lieM_no hk
      clear h hN hk
      go_enter Try.func49, Try.ntmps49
      go_wp2_with (first | (go_at_call 112; (first | (with_reducible refine (L1.call _).mono ?_) | (with_reducible refine (L2.call _).mono ?_)); rintro e w1 ⟨rfl, hb⟩; obtain ⟨hc, hf⟩ := bcell hb; have HL := keepL (by (repeat (first | (with_reducible assumption) | (with_reducible apply AllLt.alloc) | (with_reducible apply AllLt.setCell) | (with_reducible apply AllLt.drew) | (with_reducible exact AllLt.nil _)))) hb; have hq := HL; simp only [AllLt, and_true, World.size_alloc, World.size_setCell, World.size_drew] at hq; have hbs := hb.size; try simp only [World.size_alloc, World.size_setCell, World.size_drew] at hbs))
      go_ret
      exact ⟨rfl, by (repeat' (first | (with_reducible exact Below.refl _ _) | (with_reducible assumption) | (with_reducible refine Below.alloc ?_ ?_ _) | (with_reducible refine Below.drew ?_) | (with_reducible refine Below.setCell ?_ ?_ _) | (with_reducible refine Below.trans ?_ (Below.mono (by assumption) ?_)) | (with_reducible exact Nat.le_refl _) | omega | (simp only [World.size_alloc, World.size_setCell, World.size_drew]; omega) | (simp; omega) | (simp; done)))⟩
  · have L1 : LieM n 1 8 false := lieM_no hn
    clear h hn
    go_enter Try.func49, Try.ntmps49
    go_wp2_with (first | (go_at_call 112; refine (L1.call _).mono ?_; rintro e w1 ⟨rfl, hb⟩; obtain ⟨hc, hf⟩ := bcell hb; have HL := keepL (by (repeat (first | (with_reducible assumption) | (with_reducible apply AllLt.alloc) | (with_reducible apply AllLt.setCell) | (with_reducible apply AllLt.drew) | (with_reducible exact AllLt.nil _)))) hb; have hq := HL; simp only [AllLt, and_true, World.size_alloc, World.size_setCell, World.size_drew] at hq; have hbs := hb.size; try simp only [World.size_alloc, World.size_setCell, World.size_drew] at hbs))
    go_ret
    exact ⟨rfl, by (repeat' (first | (with_reducible exact Below.refl _ _) | (with_reducible assumption) | (with_reducible refine Below.alloc ?_ ?_ _) | (with_reducible refine Below.drew ?_) | (with_reducible refine Below.setCell ?_ ?_ _) | (with_reducible refine Below.trans ?_ (Below.mono (by assumption) ?_)) | (with_reducible exact Nat.le_refl _) | omega | (simp only [World.size_alloc, World.size_setCell, World.size_drew]; omega) | (simp; omega) | (simp; done)))⟩⟩

structure PlS (n k : Int) (x y : Nat) (b : Bool) : Prop where
  call : ∀ w : World, Calls Try.prog 47 #[.int .i64 n, .int .i64 k] w fun e w' => e = .returned (.tuple #[.complex .f32 x y, .bool b]) ∧ Below w.heap.size w w'
set_option maxHeartbeats 4000000 in
theorem plS_yes {n k : Nat} (h1 : 1 ≤ n) (h8 : n ≤ 8) (hk : k < n * n) : PlS n k (iw (plX n k)) (iw (plY n k)) true := ⟨fun w => by
  have P := placeS h1 h8 hk
  have L1 : LieM n 1 8 true := lieM_yes (by omega) (by omega)
  obtain ⟨N, hN⟩ : ∃ N : Nat, N = n * n := ⟨_, rfl⟩
  have hN64 : N ≤ 64 := by rw [hN]; exact Nat.le_trans (Nat.mul_le_mul h8 h8) (by omega)
  have hNN : (n : Int) * (n : Int) = (N : Int) := by rw [hN]; simp
  have L2 : LieM k 0 ((N : Int) - 1) true := lieM_yes (by omega) (by omega)
  generalize iw (plX n k) = x at P ⊢
  generalize iw (plY n k) = y at P ⊢
  clear hN hk
  go_enter Try.func47, Try.ntmps47
  go_wp2_with (first | (go_at_call 112; (first | (with_reducible refine (L1.call _).mono ?_) | (with_reducible refine (L2.call _).mono ?_)); rintro e w1 ⟨rfl, hb⟩; obtain ⟨hc, hf⟩ := bcell hb; have HL := keepL (by (repeat (first | (with_reducible assumption) | (with_reducible apply AllLt.alloc) | (with_reducible apply AllLt.setCell) | (with_reducible apply AllLt.drew) | (with_reducible exact AllLt.nil _)))) hb; have hq := HL; simp only [AllLt, and_true, World.size_alloc, World.size_setCell, World.size_drew] at hq; have hbs := hb.size; try simp only [World.size_alloc, World.size_setCell, World.size_drew] at hbs) | (go_at_call 116; refine (P.call _).mono ?_; rintro e w1 ⟨rfl, hb⟩; obtain ⟨hc, hf⟩ := bcell hb; have HL := keepL (by (repeat (first | (with_reducible assumption) | (with_reducible apply AllLt.alloc) | (with_reducible apply AllLt.setCell) | (with_reducible apply AllLt.drew) | (with_reducible exact AllLt.nil _)))) hb; have hq := HL; simp only [AllLt, and_true, World.size_alloc, World.size_setCell, World.size_drew] at hq; have hbs := hb.size; try simp only [World.size_alloc, World.size_setCell, World.size_drew] at hbs))
  go_ret2
  exact ⟨rfl, by (repeat' (first | (with_reducible exact Below.refl _ _) | (with_reducible assumption) | (with_reducible refine Below.alloc ?_ ?_ _) | (with_reducible refine Below.drew ?_) | (with_reducible refine Below.setCell ?_ ?_ _) | (with_reducible refine Below.trans ?_ (Below.mono (by assumption) ?_)) | (with_reducible exact Nat.le_refl _) | omega | (simp only [World.size_alloc, World.size_setCell, World.size_drew]; omega) | (simp; omega) | (simp; done)))⟩⟩
set_option maxHeartbeats 4000000 in
theorem plS_no {n k : Int} (h : cellB n k = false) : PlS n k 0 0 false := ⟨fun w => by
  by_cases hn : 1 ≤ n ∧ n ≤ 8
  · have L1 : LieM n 1 8 true := lieM_yes hn.1 hn.2
    obtain ⟨m, rfl, h1, h8⟩ := size_cases (n := n) (by unfold sizeB; simp; omega)
    obtain ⟨N, hN⟩ : ∃ N : Nat, N = m * m := ⟨_, rfl⟩
    have hN64 : N ≤ 64 := by rw [hN]; exact Nat.le_trans (Nat.mul_le_mul h8 h8) (by omega)
    have hNN : (m : Int) * (m : Int) = (N : Int) := by rw [hN]; simp
    have L2 : LieM k 0 ((N : Int) - 1) false := lieM_no (fun hk => by
      have hc : cellB (m : Int) k = true := by
        unfold cellB sizeB
        rw [hNN]
        simp
        omega
      rw [hc] at h
      exact absurd h (by decide))
    clear h hN
    go_enter Try.func47, Try.ntmps47
    go_wp2_with (first | (go_at_call 112; (first | (with_reducible refine (L1.call _).mono ?_) | (with_reducible refine (L2.call _).mono ?_)); rintro e w1 ⟨rfl, hb⟩; obtain ⟨hc, hf⟩ := bcell hb; have HL := keepL (by (repeat (first | (with_reducible assumption) | (with_reducible apply AllLt.alloc) | (with_reducible apply AllLt.setCell) | (with_reducible apply AllLt.drew) | (with_reducible exact AllLt.nil _)))) hb; have hq := HL; simp only [AllLt, and_true, World.size_alloc, World.size_setCell, World.size_drew] at hq; have hbs := hb.size; try simp only [World.size_alloc, World.size_setCell, World.size_drew] at hbs))
    go_ret2
    exact ⟨rfl, by (repeat' (first | (with_reducible exact Below.refl _ _) | (with_reducible assumption) | (with_reducible refine Below.alloc ?_ ?_ _) | (with_reducible refine Below.drew ?_) | (with_reducible refine Below.setCell ?_ ?_ _) | (with_reducible refine Below.trans ?_ (Below.mono (by assumption) ?_)) | (with_reducible exact Nat.le_refl _) | omega | (simp only [World.size_alloc, World.size_setCell, World.size_drew]; omega) | (simp; omega) | (simp; done)))⟩
  · have L1 : LieM n 1 8 false := lieM_no hn
    clear h hn
    go_enter Try.func47, Try.ntmps47
    go_wp2_with (first | (go_at_call 112; refine (L1.call _).mono ?_; rintro e w1 ⟨rfl, hb⟩; obtain ⟨hc, hf⟩ := bcell hb; have HL := keepL (by (repeat (first | (with_reducible assumption) | (with_reducible apply AllLt.alloc) | (with_reducible apply AllLt.setCell) | (with_reducible apply AllLt.drew) | (with_reducible exact AllLt.nil _)))) hb; have hq := HL; simp only [AllLt, and_true, World.size_alloc, World.size_setCell, World.size_drew] at hq; have hbs := hb.size; try simp only [World.size_alloc, World.size_setCell, World.size_drew] at hbs))
    go_ret2
    exact ⟨rfl, by (repeat' (first | (with_reducible exact Below.refl _ _) | (with_reducible assumption) | (with_reducible refine Below.alloc ?_ ?_ _) | (with_reducible refine Below.drew ?_) | (with_reducible refine Below.setCell ?_ ?_ _) | (with_reducible refine Below.trans ?_ (Below.mono (by assumption) ?_)) | (with_reducible exact Nat.le_refl _) | omega | (simp only [World.size_alloc, World.size_setCell, World.size_drew]; omega) | (simp; omega) | (simp; done)))⟩⟩
end Go.Proofs.Ytlnikapkheldeaa
