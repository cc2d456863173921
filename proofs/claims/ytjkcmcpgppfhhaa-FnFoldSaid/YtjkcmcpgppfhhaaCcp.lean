/-
  cmp.Compare on singles that are numbers.
-/
import Derived.Test.YtjkcmcpgppfhhaaFa
namespace Go.Proofs.Ytjkcmcpgppfhhaa
open Go.ChangeShapes Go.WideShapes Go.ChangeAt Go.RowKit Go.Joins
set_option linter.unusedSimpArgs false
set_option linter.unusedVariables false
set_option maxRecDepth 100000
attribute [local go_sem] store_f
open Ieee

theorem isNaN_no {x : Nat} (h : FloatKind.f32.format.order x x = some .eq) (w : World) :
    Calls Try.prog 53 #[.float .f32 x] w fun e w' => e = .returned (.bool false) ∧ w' = w := by
  have h1 : (FloatKind.f32.format.order x x != some .eq) = false := by rw [h]; rfl
  clear h
  go_enter Try.func53, Try.ntmps53
  go_wp2
  all_goals (go_ret; exact ⟨by simp_all, rfl⟩)

structure NaNI (x : Nat) : Prop where
  call : ∀ w : World, Calls Try.prog 53 #[.float .f32 x] w fun e w' => e = .returned (.bool false) ∧ w' = w

theorem compare_of {x y : Nat} (X : NaNI x) (Y : NaNI y) (l g : Bool) (hl : (FloatKind.f32.format.order x y == some .lt) = l) (hg : (FloatKind.f32.format.order x y == some .gt) = g) (w : World) :
    Calls Try.prog 40 #[.float .f32 x, .float .f32 y] w fun e w' => e = .returned (.int .i64 (if l = true then -1 else if g = true then 1 else 0)) ∧ w' = w := by
  cases l
  · cases g
    all_goals
      go_enter Try.func40, Try.ntmps40
      go_wp2_with (go_at_call 53; (first | (with_reducible refine (X.call _).mono ?_) | (with_reducible refine (Y.call _).mono ?_)); rintro e w1 ⟨rfl, rfl⟩)
      all_goals (first | (go_ret; exact ⟨rfl, rfl⟩) | (exfalso; simp_all; done))
  · clear hg
    go_enter Try.func40, Try.ntmps40
    go_wp2_with (go_at_call 53; (first | (with_reducible refine (X.call _).mono ?_) | (with_reducible refine (Y.call _).mono ?_)); rintro e w1 ⟨rfl, rfl⟩)
    all_goals (first | (go_ret; exact ⟨rfl, rfl⟩) | (exfalso; simp_all; done))

end Go.Proofs.Ytjkcmcpgppfhhaa
