/-
  Is there such a kind of mirrors?
-/
import Derived.Test.YtfdgijmmgllmgaaBone
import Derived.Test.YtfdgijmmgllmgaaFa
namespace Go.Proofs.Ytfdgijmmgllmgaa
open Go.ChangeShapes Go.WideShapes Go.ChangeAt Go.RowKit Go.Joins
set_option linter.unusedSimpArgs false
set_option linter.unusedVariables false
set_option maxRecDepth 100000
attribute [local go_sem] store_f

def kindB (k : Int) : Bool := decide (0 ≤ k ∧ k ≤ 3)
theorem isKind_i (n : Int) (w : World) : Calls Try.prog 28 #[.int .i64 n] w fun e w' => e = .returned (.bool (kindB n)) ∧ w' = w := by
  by_cases h1 : 0 ≤ n
  · by_cases h2 : n ≤ 3
    · have e : kindB n = true := by unfold kindB; simp; omega
      rw [e]
      go_enter Try.func28, Try.ntmps28
      go_wp2
      go_ret
      exact ⟨rfl, rfl⟩
    · have e : kindB n = false := by unfold kindB; simp; omega
      rw [e]
      have hd : decide (n ≤ 3) = false := by simpa using h2
      go_enter Try.func28, Try.ntmps28
      go_wp2
      go_ret
      exact ⟨rfl, rfl⟩
  · have e : kindB n = false := by unfold kindB; simp; omega
    rw [e]
    have hd : decide (0 ≤ n) = false := by simpa using h1
    go_enter Try.func28, Try.ntmps28
    go_wp2
    go_ret
    exact ⟨rfl, rfl⟩
end Go.Proofs.Ytfdgijmmgllmgaa
