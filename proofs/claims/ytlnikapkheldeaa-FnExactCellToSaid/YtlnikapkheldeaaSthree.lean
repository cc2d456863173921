/-
  The symmetries of mirrors of a kind, as the model lists them.
-/
import Derived.Test.YtlnikapkheldeaaStwo
import Derived.Test.YtlnikapkheldeaaSone
import Derived.Maps.AppendAt
namespace Go.Proofs.Ytlnikapkheldeaa
open Go.ChangeShapes Go.WideShapes Go.ChangeAt Go.RowKit Go.Joins 
set_option linter.unusedSimpArgs false
set_option linter.unusedVariables false
/-- Does a number lie in a range? -/
def lieB (x lo hi : Int) : Bool := decide (lo ≤ x) && decide (x ≤ hi)
theorem lieB_yes {x lo hi : Int} (h : lo ≤ x) (h' : x ≤ hi) : lieB x lo hi = true := by simp [lieB, h, h']
theorem lieB_no {x lo hi : Int} (h : ¬ (lo ≤ x ∧ x ≤ hi)) : lieB x lo hi = false := by
  simp [lieB]
  omega

theorem l1In_s (x lo hi : Int) (w : World) :
    Calls Try.prog 112 #[.int .i64 x, .int .i64 lo, .int .i64 hi] w fun e w' => e = .returned (.bool (lieB x lo hi)) ∧ Below w.heap.size w w' := by
  by_cases h : lo ≤ x
  · by_cases h' : x ≤ hi
    · rw [lieB_yes h h']
      go_enter Try.func112, Try.ntmps112
      go_wp2
      go_returns; exact ⟨rfl, by (repeat' (first | (with_reducible exact Below.refl _ _) | (with_reducible assumption) | (with_reducible refine Below.alloc ?_ ?_ _) | (with_reducible refine Below.drew ?_) | (with_reducible refine Below.setCell ?_ ?_ _) | (with_reducible refine Below.trans ?_ (Below.mono (by assumption) ?_)) | (with_reducible exact Nat.le_refl _) | omega | (simp only [World.size_alloc, World.size_setCell, World.size_drew]; omega) | (simp; omega) | (simp; done)))⟩
    · rw [lieB_no (fun q => h' q.2)]
      go_enter Try.func112, Try.ntmps112
      go_wp2
      go_returns; exact ⟨rfl, by (repeat' (first | (with_reducible exact Below.refl _ _) | (with_reducible assumption) | (with_reducible refine Below.alloc ?_ ?_ _) | (with_reducible refine Below.drew ?_) | (with_reducible refine Below.setCell ?_ ?_ _) | (with_reducible refine Below.trans ?_ (Below.mono (by assumption) ?_)) | (with_reducible exact Nat.le_refl _) | omega | (simp only [World.size_alloc, World.size_setCell, World.size_drew]; omega) | (simp; omega) | (simp; done)))⟩
  · rw [lieB_no (fun q => h q.1)]
    go_enter Try.func112, Try.ntmps112
    go_wp2
    go_returns; exact ⟨rfl, by (repeat' (first | (with_reducible exact Below.refl _ _) | (with_reducible assumption) | (with_reducible refine Below.alloc ?_ ?_ _) | (with_reducible refine Below.drew ?_) | (with_reducible refine Below.setCell ?_ ?_ _) | (with_reducible refine Below.trans ?_ (Below.mono (by assumption) ?_)) | (with_reducible exact Nat.le_refl _) | omega | (simp only [World.size_alloc, World.size_setCell, World.size_drew]; omega) | (simp; omega) | (simp; done)))⟩

end Go.Proofs.Ytlnikapkheldeaa
