/-
  Is it a symmetry? The program's answer.
-/
import Derived.Test.YtfdgijmmgllmgaaKit
namespace Go.Proofs.Ytfdgijmmgllmgaa
open Go.ChangeShapes Go.WideShapes Go.ChangeAt Go.RowKit Go.Joins 
set_option linter.unusedSimpArgs false
set_option linter.unusedVariables false

/-- A symmetry as a value. -/
def symV (t : Int) (f : Bool) : Value := .agg #[.int .i64 t, .bool f]

/-- Is the number of turns one of a symmetry? -/
def isSymB (t : Int) : Bool := decide (0 ≤ t) && decide (t < 4)

theorem isSymB_yes {t : Int} (h : 0 ≤ t) (h' : t < 4) : isSymB t = true := by simp [isSymB, h, h']
theorem isSymB_neg {t : Int} (h : t < 0) : isSymB t = false := by simp [isSymB]; omega
theorem isSymB_big {t : Int} (h : 4 ≤ t) : isSymB t = false := by simp [isSymB]; omega

theorem isSym_i (t : Int) (f : Bool) (w : World) :
    Calls Try.prog 102 #[.agg #[.int .i64 t, .bool f]] w fun e w' => e = .returned (.bool (isSymB t)) ∧ Below w.heap.size w w' := by
  rcases (by omega : t < 0 ∨ (0 ≤ t ∧ t < 4) ∨ (0 ≤ t ∧ 4 ≤ t)) with h | ⟨h, h'⟩ | ⟨h, h'⟩
  · rw [isSymB_neg h]
    go_enter Try.func102, Try.ntmps102
    go_wp2
    go_returns
    exact ⟨rfl, by go_grown⟩
  · rw [isSymB_yes h h']
    go_enter Try.func102, Try.ntmps102
    go_wp2
    go_returns
    exact ⟨rfl, by go_grown⟩
  · rw [isSymB_big h']
    have h2 : decide (t < 4) = false := by simp; omega
    go_enter Try.func102, Try.ntmps102
    go_wp2
    go_returns
    exact ⟨rfl, by go_grown⟩

theorem isSymB_iff {t : Int} : isSymB t = true ↔ 0 ≤ t ∧ t < 4 := by simp [isSymB]
theorem isSymB_no {t : Int} (h : isSymB t = false) : t < 0 ∨ (0 ≤ t ∧ 4 ≤ t) := by
  simp [isSymB] at h
  omega
end Go.Proofs.Ytfdgijmmgllmgaa
