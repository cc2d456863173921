/-
  Contracts on the symmetries of mirrors.
-/
import Derived.Test.YtlnikapkheldeaaCtwo
import Derived.Test.YtlnikapkheldeaaSao
namespace Go.Proofs.Ytlnikapkheldeaa
open Go.ChangeShapes Go.WideShapes Go.ChangeAt Go.RowKit Go.Joins 
set_option linter.unusedSimpArgs false
set_option linter.unusedVariables false
theorem l1Of_s (kind t : Int) (f : Bool) (w : World) (h1 : 0 ≤ t) (h2 : t < 4) (hk : 0 ≤ kind) (hk3 : kind ≤ 3) :
    Calls Try.prog 164 #[.int .i64 kind, .agg #[.int .i64 t, .bool f]] w fun e w' => e = .returned (.bool (ofB kind t f)) ∧ Below w.heap.size w w' := by
  have ht := isSymB_yes h1 h2
  rcases (by omega : kind = 0 ∨ kind = 1 ∨ kind = 2 ∨ kind = 3) with rfl | rfl | rfl | rfl
  · by_cases t0 : t = 0
    · subst t0
      have e : ofB 0 0 f = !f := by simp [ofB, isSymB]
      rw [e]
      cases f
      all_goals
        go_enter Try.func164, Try.ntmps164
        go_wp2
        go_returns; exact ⟨rfl, by (repeat' (first | (with_reducible exact Below.refl _ _) | (with_reducible assumption) | (with_reducible refine Below.alloc ?_ ?_ _) | (with_reducible refine Below.drew ?_) | (with_reducible refine Below.setCell ?_ ?_ _) | (with_reducible refine Below.trans ?_ (Below.mono (by assumption) ?_)) | (with_reducible exact Nat.le_refl _) | omega | (simp only [World.size_alloc, World.size_setCell, World.size_drew]; omega) | (simp; omega) | (simp; done)))⟩
    · have e : ofB 0 t f = false := by simp [ofB, t0]
      rw [e]
      have t1 : (t == 0) = false := by simpa using t0
      cases f
      all_goals
        go_enter Try.func164, Try.ntmps164
        go_wp2
        go_returns; exact ⟨rfl, by (repeat' (first | (with_reducible exact Below.refl _ _) | (with_reducible assumption) | (with_reducible refine Below.alloc ?_ ?_ _) | (with_reducible refine Below.drew ?_) | (with_reducible refine Below.setCell ?_ ?_ _) | (with_reducible refine Below.trans ?_ (Below.mono (by assumption) ?_)) | (with_reducible exact Nat.le_refl _) | omega | (simp only [World.size_alloc, World.size_setCell, World.size_drew]; omega) | (simp; omega) | (simp; done)))⟩
  · have e : ofB 1 t f = (t == 0) := by simp [ofB, ht]
    rw [e]
    go_enter Try.func164, Try.ntmps164
    go_wp2
    go_returns; exact ⟨rfl, by (repeat' (first | (with_reducible exact Below.refl _ _) | (with_reducible assumption) | (with_reducible refine Below.alloc ?_ ?_ _) | (with_reducible refine Below.drew ?_) | (with_reducible refine Below.setCell ?_ ?_ _) | (with_reducible refine Below.trans ?_ (Below.mono (by assumption) ?_)) | (with_reducible exact Nat.le_refl _) | omega | (simp only [World.size_alloc, World.size_setCell, World.size_drew]; omega) | (simp; omega) | (simp; done)))⟩
  · have e : ofB 2 t f = (t % 2 == 0) := by simp [ofB, ht]
    rw [e]
    go_enter Try.func164, Try.ntmps164
    go_wp2
    go_returns; exact ⟨rfl, by (repeat' (first | (with_reducible exact Below.refl _ _) | (with_reducible assumption) | (with_reducible refine Below.alloc ?_ ?_ _) | (with_reducible refine Below.drew ?_) | (with_reducible refine Below.setCell ?_ ?_ _) | (with_reducible refine Below.trans ?_ (Below.mono (by assumption) ?_)) | (with_reducible exact Nat.le_refl _) | omega | (simp only [World.size_alloc, World.size_setCell, World.size_drew]; omega) | (simp; omega) | (simp; done)))⟩
  · have e : ofB 3 t f = true := by simp [ofB, ht]
    rw [e]
    go_enter Try.func164, Try.ntmps164
    go_wp2
    go_returns; exact ⟨rfl, by (repeat' (first | (with_reducible exact Below.refl _ _) | (with_reducible assumption) | (with_reducible refine Below.alloc ?_ ?_ _) | (with_reducible refine Below.drew ?_) | (with_reducible refine Below.setCell ?_ ?_ _) | (with_reducible refine Below.trans ?_ (Below.mono (by assumption) ?_)) | (with_reducible exact Nat.le_refl _) | omega | (simp only [World.size_alloc, World.size_setCell, World.size_drew]; omega) | (simp; omega) | (simp; done)))⟩
end Go.Proofs.Ytlnikapkheldeaa
