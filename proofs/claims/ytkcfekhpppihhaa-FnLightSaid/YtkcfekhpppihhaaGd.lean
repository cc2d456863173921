/-
  The least and the greatest of three singles; which point lies in a shard.
-/
import Derived.Test.YtkcfekhpppihhaaGc
import Derived.Maps.AppendAt
namespace Go.Proofs.Ytkcfekhpppihhaa
open Go.ChangeShapes Go.WideShapes Go.ChangeAt Go.RowKit Go.Joins
set_option linter.unusedSimpArgs false
set_option linter.unusedVariables false
set_option maxRecDepth 100000
attribute [local go_sem] store_f
open Ieee

def minG (o : Ordering) (x y : Nat) : Nat := match o with | .lt => x | .gt => y | .eq => if (FloatKind.f32.decode x).neg then x else y
def maxG (o : Ordering) (x y : Nat) : Nat := match o with | .lt => y | .gt => x | .eq => if (FloatKind.f32.decode x).neg then y else x
theorem run_min_g (P : Program) (w : World) (ts : Array TypeId) (t : TypeId) (x y : Nat) (o : Ordering) (h : FloatKind.f32.format.order x y = some o) : (Builtin.min_ ts t #[.float .f32 x, .float .f32 y]).run P w = .ok (.float .f32 (minG o x y)) w := by
  cases o <;> simp [Builtin.min_, Builtin.min2, h, minG]
theorem run_max_g (P : Program) (w : World) (ts : Array TypeId) (t : TypeId) (x y : Nat) (o : Ordering) (h : FloatKind.f32.format.order x y = some o) : (Builtin.max_ ts t #[.float .f32 x, .float .f32 y]).run P w = .ok (.float .f32 (maxG o x y)) w := by
  cases o <;> simp [Builtin.max_, Builtin.max2, h, maxG]
theorem cmp_cases (a b : Int) : (compare a b = .lt ∧ a < b) ∨ (compare a b = .eq ∧ a = b) ∨ (compare a b = .gt ∧ b < a) := by
  rcases Int.lt_trichotomy a b with h | h | h
  · exact .inl ⟨by simp [compare, compareOfLessAndEq, h], h⟩
  · exact .inr (.inl ⟨by simp [h], h⟩)
  · exact .inr (.inr ⟨by
      have h1 : ¬ a < b := by omega
      have h2 : ¬ a = b := by omega
      simp [compare, compareOfLessAndEq, h1, h2], h⟩)
/-- The lesser of two finite singles is one of them, and has the lesser value. -/
theorem min_val {x y : Nat} (hx : Fin32 x) (hy : Fin32 y) : ∃ m, (∀ (P : Program) (w : World) ts t, (Builtin.min_ ts t #[.float .f32 x, .float .f32 y]).run P w = .ok (.float .f32 m) w) ∧ Fin32 m ∧ m < max (x + 1) (y + 1) ∧ valOf F32 m ≤ valOf F32 x ∧ valOf F32 m ≤ valOf F32 y ∧ (valOf F32 m = valOf F32 x ∨ valOf F32 m = valOf F32 y) := by
  have h := order_fin F32 hx hy
  refine ⟨minG (compare (valOf F32 x) (valOf F32 y)) x y, fun P w ts t => run_min_g P w ts t x y _ h, ?_⟩
  rcases cmp_cases (valOf F32 x) (valOf F32 y) with ⟨e, h1⟩ | ⟨e, h1⟩ | ⟨e, h1⟩
  · rw [e]; exact ⟨hx, by simp [minG]; omega, by simp only [minG]; omega, by simp only [minG]; omega, .inl rfl⟩
  · rw [e]
    simp only [minG]
    split
    · exact ⟨hx, by omega, by omega, by omega, .inl rfl⟩
    · exact ⟨hy, by omega, by omega, by omega, .inr rfl⟩
  · rw [e]; exact ⟨hy, by simp [minG]; omega, by simp only [minG]; omega, by simp only [minG]; omega, .inr rfl⟩
theorem max_val {x y : Nat} (hx : Fin32 x) (hy : Fin32 y) : ∃ m, (∀ (P : Program) (w : World) ts t, (Builtin.max_ ts t #[.float .f32 x, .float .f32 y]).run P w = .ok (.float .f32 m) w) ∧ Fin32 m ∧ m < max (x + 1) (y + 1) ∧ valOf F32 x ≤ valOf F32 m ∧ valOf F32 y ≤ valOf F32 m ∧ (valOf F32 m = valOf F32 x ∨ valOf F32 m = valOf F32 y) := by
  have h := order_fin F32 hx hy
  refine ⟨maxG (compare (valOf F32 x) (valOf F32 y)) x y, fun P w ts t => run_max_g P w ts t x y _ h, ?_⟩
  rcases cmp_cases (valOf F32 x) (valOf F32 y) with ⟨e, h1⟩ | ⟨e, h1⟩ | ⟨e, h1⟩
  · rw [e]; exact ⟨hy, by simp [maxG]; omega, by simp only [maxG]; omega, by simp only [maxG]; omega, .inr rfl⟩
  · rw [e]
    simp only [maxG]
    split
    · exact ⟨hy, by omega, by omega, by omega, .inr rfl⟩
    · exact ⟨hx, by omega, by omega, by omega, .inl rfl⟩
  · rw [e]; exact ⟨hx, by simp [maxG]; omega, by simp only [maxG]; omega, by simp only [maxG]; omega, .inl rfl⟩

/-- Three singles from a block's head on. -/
structure Row3 (w : World) (g x y z : Nat) : Prop where
  c0 : w.cell? ⟨g, 0, Option.none⟩ = some (.float .f32 x)
  c1 : w.cell? ⟨g, 1, Option.none⟩ = some (.float .f32 y)
  c2 : w.cell? ⟨g, 2, Option.none⟩ = some (.float .f32 z)

structure Min2 (x y m : Nat) : Prop where
  run : ∀ (P : Program) (w : World) ts t, (Builtin.min_ ts t #[.float .f32 x, .float .f32 y]).run P w = .ok (.float .f32 m) w
structure Max2 (x y m : Nat) : Prop where
  run : ∀ (P : Program) (w : World) ts t, (Builtin.max_ ts t #[.float .f32 x, .float .f32 y]).run P w = .ok (.float .f32 m) w

set_option maxHeartbeats 1000000 in
theorem slMin {x y z m n : Nat} (M : Min2 x y m) (N : Min2 m z n) (w : World) (g cap : Nat) (R : Row3 w g x y z) :
    Calls Try.prog 41 #[.slice (some ⟨g, 0, Option.none⟩) 3 cap] w fun e w' => e = .returned (.float .f32 n) ∧ w' = w := by
  obtain ⟨c0, c1, c2⟩ := R
  have q1 := M.run Try.prog
  have q2 := N.run Try.prog
  go_enter Try.func41, Try.ntmps41
  go_wp2_with fail
  go_loop [3, 4] (fun v i => (v = .float .f32 x ∧ i = .int .i64 1) ∨ (v = .float .f32 m ∧ i = .int .i64 2) ∨ (v = .float .f32 n ∧ i = .int .i64 3)) (fun _ i => 3 - (intOf i).toNat)
  case atStart => exact .inl ⟨rfl, rfl⟩
  case round =>
    rcases hrel with ⟨rfl, rfl⟩ | ⟨rfl, rfl⟩ | ⟨rfl, rfl⟩
    · go_wp2_with (simp only [q1])
      go_round
      case rel => simp
      case measure => simp [intOf]
    · go_wp2_with (simp only [q2])
      go_round
      case rel => simp
      case measure => simp [intOf]
    · go_wp2
      go_ret
      exact ⟨rfl, rfl⟩
set_option maxHeartbeats 1000000 in
theorem slMax {x y z m n : Nat} (M : Max2 x y m) (N : Max2 m z n) (w : World) (g cap : Nat) (R : Row3 w g x y z) :
    Calls Try.prog 42 #[.slice (some ⟨g, 0, Option.none⟩) 3 cap] w fun e w' => e = .returned (.float .f32 n) ∧ w' = w := by
  obtain ⟨c0, c1, c2⟩ := R
  have q1 := M.run Try.prog
  have q2 := N.run Try.prog
  go_enter Try.func42, Try.ntmps42
  go_wp2_with fail
  go_loop [3, 4] (fun v i => (v = .float .f32 x ∧ i = .int .i64 1) ∨ (v = .float .f32 m ∧ i = .int .i64 2) ∨ (v = .float .f32 n ∧ i = .int .i64 3)) (fun _ i => 3 - (intOf i).toNat)
  case atStart => exact .inl ⟨rfl, rfl⟩
  case round =>
    rcases hrel with ⟨rfl, rfl⟩ | ⟨rfl, rfl⟩ | ⟨rfl, rfl⟩
    · go_wp2_with (simp only [q1])
      go_round
      case rel => simp
      case measure => simp [intOf]
    · go_wp2_with (simp only [q2])
      go_round
      case rel => simp
      case measure => simp [intOf]
    · go_wp2
      go_ret
      exact ⟨rfl, rfl⟩
end Go.Proofs.Ytkcfekhpppihhaa
