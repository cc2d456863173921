/-
  How two points are compared: by the value of the real part, and then of the other one.
-/
import Derived.Test.YtjkcmcpgppfhhaaFo
import Derived.Test.YtjkcmcpgppfhhaaCcp
import Derived.Sort.Grow
namespace Go.Proofs.Ytjkcmcpgppfhhaa
open Go.ChangeShapes Go.WideShapes Go.ChangeAt Go.RowKit Go.Joins
set_option linter.unusedSimpArgs false
set_option linter.unusedVariables false
set_option maxRecDepth 100000
attribute [local go_sem] store_f
open Ieee

/-- How two numbers compare: -1, 0 or 1. -/
def cmpV (a b : Int) : Int := if a < b then -1 else if b < a then 1 else 0

theorem compare_v {x y : Nat} (hx : Fin32 x) (hy : Fin32 y) (w : World) :
    Calls Try.prog 40 #[.float .f32 x, .float .f32 y] w fun e w' => e = .returned (.int .i64 (cmpV (valOf F32 x) (valOf F32 y))) ∧ w' = w := by
  have same : ∀ {z : Nat}, Fin32 z → FloatKind.f32.format.order z z = some .eq := fun {z} h => by
    show F32.order z z = _
    rw [order_fin F32 h h]; simp
  have h1 : (FloatKind.f32.format.order x y == some .lt) = decide (valOf F32 x < valOf F32 y) := by
    show (F32.order x y == some .lt) = _
    rw [order_fin F32 hx hy, cmp_lt]
  have h2 : (FloatKind.f32.format.order x y == some .gt) = decide (valOf F32 y < valOf F32 x) := by
    show (F32.order x y == some .gt) = _
    rw [order_fin F32 hx hy, cmp_gt]
  have := compare_of ⟨fun w => isNaN_no (same hx) w⟩ ⟨fun w => isNaN_no (same hy) w⟩ _ _ h1 h2 w
  unfold cmpV
  simpa using this

structure CmpM (x y : Nat) (n : Int) : Prop where
  call : ∀ w : World, Calls Try.prog 40 #[.float .f32 x, .float .f32 y] w fun e w' => e = .returned (.int .i64 n) ∧ w' = w

/-- The first one of two numbers that is not 0. -/
theorem or_i (g : Nat) (a b : Int) (w : World) (c0 : w.cell? ⟨g, 0, Option.none⟩ = some (.int .i64 a)) (c1 : w.cell? ⟨g, 1, Option.none⟩ = some (.int .i64 b)) :
    Calls Try.prog 39 #[.slice (some ⟨g, 0, Option.none⟩) 2 2] w fun e w' => e = .returned (.int .i64 (if a = 0 then b else a)) ∧ w = w' := by
  by_cases ha : a = 0
  · subst ha
    by_cases hb : b = 0
    · subst hb
      go_enter Try.func39, Try.ntmps39
      go_wp2
      refine wp_loop_rounds 3 ?_
      rw [rounds_succ]
      go_wp2
      rw [rounds_succ]
      go_wp2
      rw [rounds_succ]
      go_wp2
      go_ret
      exact ⟨rfl, rfl⟩
    · have h2 : (b != 0) = true := by simpa using hb
      go_enter Try.func39, Try.ntmps39
      go_wp2
      refine wp_loop_rounds 2 ?_
      rw [rounds_succ]
      go_wp2
      rw [rounds_succ]
      go_wp2
      go_ret
      exact ⟨rfl, rfl⟩
  · rw [if_neg ha]
    have h2 : (a != 0) = true := by simpa using ha
    go_enter Try.func39, Try.ntmps39
    go_wp2
    refine wp_loop_rounds 1 ?_
    rw [rounds_succ]
    go_wp2
    go_ret
    exact ⟨rfl, rfl⟩
end Go.Proofs.Ytjkcmcpgppfhhaa
