/-
  Singles: contracts of what both sides reckon with.
-/
import Derived.Test.YtfdgijmmgllmgaaCopen
import Derived.Test.YtfdgijmmgllmgaaFa
namespace Go.Proofs.Ytfdgijmmgllmgaa
open Go.ChangeShapes Go.WideShapes Go.ChangeAt Go.RowKit Go.Joins
set_option linter.unusedSimpArgs false
set_option linter.unusedVariables false
set_option maxRecDepth 100000
attribute [local go_sem] store_f

def shareB (x : Nat) : Bool := (FloatKind.f32.format.order x 0 == some .gt || FloatKind.f32.format.order x 0 == some .eq) && (FloatKind.f32.format.order x 1065353216 == some .lt || FloatKind.f32.format.order x 1065353216 == some .eq)
def boundB (x : Nat) : Nat := if FloatKind.f32.format.order x 1065353216 == some .gt then 1065353216 else x

theorem isShare_i (x : Nat) (w : World) :
    Calls Try.prog 98 #[.float .f32 x] w fun e w' => e = .returned (.bool (shareB x)) ∧ w' = w := by
  go_enter Try.func98, Try.ntmps98
  go_wp2
  all_goals (go_ret; exact ⟨by simp_all [shareB], rfl⟩)

theorem differenceOf_i (a b r : Nat) (w : World) (h : FloatKind.f32.format.sub a b = some r) :
    Calls Try.prog 107 #[.float .f32 a, .float .f32 b] w fun e w' => e = .returned (.float .f32 (setB r)) ∧ w' = w := by
  have hop := fun t w => run_float_arith (P := Try.prog) w .sub t .f32 a b r h
  go_enter Try.func107, Try.ntmps107
  go_wp2_with (first | (simp only [hop]) | (go_at_call 131; refine (settle_i _ _).mono ?_; rintro e w1 ⟨rfl, rfl⟩))
  all_goals (go_ret; exact ⟨rfl, rfl⟩)

theorem l1Clean_s (x : Nat) (w : World) (h : FloatKind.f32.format.sub x x = some 0) :
    Calls Try.prog 134 #[.float .f32 x] w fun e w' => e = .returned (.float .f32 (cleanB x)) ∧ w' = w := by
  have hop := fun t w => run_float_arith (P := Try.prog) w .sub t .f32 x x 0 h
  have h0 : FloatKind.f32.format.order 0 0 = some .eq := by kernel_rfl
  go_enter Try.func134, Try.ntmps134
  go_wp2_with (simp only [hop])
  all_goals (go_ret; exact ⟨by simp_all [cleanB], rfl⟩)

theorem l1Plus_s (a b r : Nat) (w : World) (h : FloatKind.f32.format.add a b = some r) (h0 : FloatKind.f32.format.sub r r = some 0) :
    Calls Try.prog 149 #[.float .f32 a, .float .f32 b] w fun e w' => e = .returned (.float .f32 (cleanB r)) ∧ w' = w := by
  have hop := fun t w => run_float_arith (P := Try.prog) w .add t .f32 a b r h
  have H0 : Hid (FloatKind.f32.format.sub r r = some 0) := h0
  clear h0
  go_enter Try.func149, Try.ntmps149
  go_wp2_with (first | (simp only [hop]) | (go_at_call 134; refine (l1Clean_s _ _ H0.out).mono ?_; rintro e w1 ⟨rfl, rfl⟩))
  all_goals (go_ret; exact ⟨rfl, rfl⟩)

theorem l1Minus_s (a b r : Nat) (w : World) (h : FloatKind.f32.format.sub a b = some r) (h0 : FloatKind.f32.format.sub r r = some 0) :
    Calls Try.prog 150 #[.float .f32 a, .float .f32 b] w fun e w' => e = .returned (.float .f32 (cleanB r)) ∧ w' = w := by
  have hop := fun t w => run_float_arith (P := Try.prog) w .sub t .f32 a b r h
  have H0 : Hid (FloatKind.f32.format.sub r r = some 0) := h0
  clear h0
  go_enter Try.func150, Try.ntmps150
  go_wp2_with (first | (simp only [hop]) | (go_at_call 134; refine (l1Clean_s _ _ H0.out).mono ?_; rintro e w1 ⟨rfl, rfl⟩))
  all_goals (go_ret; exact ⟨rfl, rfl⟩)

theorem l1Times_s (a b r : Nat) (w : World) (h : FloatKind.f32.format.mul a b = some r) (h0 : FloatKind.f32.format.sub r r = some 0) :
    Calls Try.prog 114 #[.float .f32 a, .float .f32 b] w fun e w' => e = .returned (.float .f32 (cleanB r)) ∧ w' = w := by
  have hop := fun t w => run_float_arith (P := Try.prog) w .mul t .f32 a b r h
  have H0 : Hid (FloatKind.f32.format.sub r r = some 0) := h0
  clear h0
  go_enter Try.func114, Try.ntmps114
  go_wp2_with (first | (simp only [hop]) | (go_at_call 134; refine (l1Clean_s _ _ H0.out).mono ?_; rintro e w1 ⟨rfl, rfl⟩))
  all_goals (go_ret; exact ⟨rfl, rfl⟩)

end Go.Proofs.Ytfdgijmmgllmgaa
