/-
  Singles: contracts of what the program reckons with.
-/
import Derived.Test.YtfdgijmmgllmgaaKit
import Derived.WalkLawsBesides
namespace Go.Proofs.Ytfdgijmmgllmgaa
open Go.ChangeShapes Go.WideShapes Go.ChangeAt Go.RowKit Go.Joins

/-- A float is stored as it is. -/
theorem store_f (P : Program) (w : World) (a : Addr) (m : Mode) (k : FloatKind) (b : Nat) : (store a (.float k b) m).run P w = stored P w a (.float k b) m := run_store P w a _ m rfl
end Go.Proofs.Ytfdgijmmgllmgaa
namespace Go.Proofs.Ytfdgijmmgllmgaa
open Go.ChangeShapes Go.WideShapes Go.ChangeAt Go.RowKit Go.Joins
set_option linter.unusedSimpArgs false
set_option linter.unusedVariables false
set_option maxRecDepth 100000
attribute [local go_sem] store_f

/-- Bits of a single that is 0, positive or negative, are as they are; -0 reads as +0, and so does what is no single. -/
def singleB (x : Nat) : Bool := (FloatKind.f32.format.order x 4286578687 == some .gt || FloatKind.f32.format.order x 4286578687 == some .eq) && (FloatKind.f32.format.order x 2139095039 == some .lt || FloatKind.f32.format.order x 2139095039 == some .eq)
def setB (x : Nat) : Nat := if (FloatKind.f32.format.order x 0 != some .eq) && singleB x then x else 0
def cleanB (x : Nat) : Nat := if FloatKind.f32.format.order x 0 == some .eq then 0 else x

theorem isSingle_i (x : Nat) (w : World) :
    Calls Try.prog 145 #[.float .f32 x] w fun e w' => e = .returned (.bool (singleB x)) ∧ w' = w := by
  go_enter Try.func145, Try.ntmps145
  go_wp2
  all_goals (go_ret; exact ⟨by simp_all [singleB], rfl⟩)

theorem settle_i (x : Nat) (w : World) :
    Calls Try.prog 131 #[.float .f32 x] w fun e w' => e = .returned (.float .f32 (setB x)) ∧ w' = w := by
  go_enter Try.func131, Try.ntmps131
  go_wp2_with (go_at_call 145; refine (isSingle_i _ _).mono ?_; rintro e w1 ⟨rfl, rfl⟩)
  all_goals (go_ret; exact ⟨by simp_all [setB], rfl⟩)

theorem sumOf_i (a b r : Nat) (w : World) (h : FloatKind.f32.format.add a b = some r) :
    Calls Try.prog 128 #[.float .f32 a, .float .f32 b] w fun e w' => e = .returned (.float .f32 (setB r)) ∧ w' = w := by
  have hop := fun t w => run_float_arith (P := Try.prog) w .add t .f32 a b r h
  go_enter Try.func128, Try.ntmps128
  go_wp2_with (first | (simp only [hop]) | (go_at_call 131; refine (settle_i _ _).mono ?_; rintro e w1 ⟨rfl, rfl⟩))
  all_goals (go_ret; exact ⟨rfl, rfl⟩)

theorem productOf_i (a b r : Nat) (w : World) (h : FloatKind.f32.format.mul a b = some r) :
    Calls Try.prog 129 #[.float .f32 a, .float .f32 b] w fun e w' => e = .returned (.float .f32 (setB r)) ∧ w' = w := by
  have hop := fun t w => run_float_arith (P := Try.prog) w .mul t .f32 a b r h
  go_enter Try.func129, Try.ntmps129
  go_wp2_with (first | (simp only [hop]) | (go_at_call 131; refine (settle_i _ _).mono ?_; rintro e w1 ⟨rfl, rfl⟩))
  all_goals (go_ret; exact ⟨rfl, rfl⟩)

end Go.Proofs.Ytfdgijmmgllmgaa
