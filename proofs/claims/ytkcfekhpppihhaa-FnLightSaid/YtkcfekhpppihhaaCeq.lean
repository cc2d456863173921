/-
  Two colours held against each other, field by field.
-/
import Derived.Test.YtkcfekhpppihhaaFo
namespace Go.Proofs.Ytkcfekhpppihhaa
open Go.ChangeShapes Go.WideShapes Go.ChangeAt Go.RowKit Go.Joins
set_option linter.unusedSimpArgs false
set_option linter.unusedVariables false
set_option maxRecDepth 100000
attribute [local go_sem] store_f
open Ieee

theorem run_equalIn_g (P : Program) (w : World) (d : Nat) (t : TypeId) (a b : Nat) (h : P.underlying t = some (.float .f32)) : (Op.equalIn (d + 1) t (.float .f32 a) (.float .f32 b)).run P w = .ok (FloatKind.f32.format.order a b == some .eq) w := by
  simp [Op.equalIn, run_underlying h, Op.floatEq]
attribute [local go_sem] run_equalIn_g

theorem run_eq_colg (r g b x y z : Nat) (w : World) :
    (Op.equalIn 10000 28 (.agg #[.float .f32 r, .float .f32 g, .float .f32 b]) (.agg #[.float .f32 x, .float .f32 y, .float .f32 z])).run Try.prog w =
      .ok ((FloatKind.f32.format.order r x == some .eq) && ((FloatKind.f32.format.order g y == some .eq) && (FloatKind.f32.format.order b z == some .eq))) w := by
  have u := Try.underlying26
  have a24 := Try.isAgg26
  have z24 := Try.sizeOf26
  have hS : Try.prog.underlying 28 = some (.struct (Try.prog.fieldsOf 28)) := by kernel_rfl
  have hp : Try.prog.stoodInHeld 28 = false := by kernel_rfl
  rw [show (10000 : Nat) = 9999 + 1 from rfl, run_equalIn_agg w 9999 28 _ _ hS hp]
  simp only [Program.fieldsOf, Try.underlying28]
  generalize h1 : (FloatKind.f32.format.order r x == some .eq) = o1
  generalize h2 : (FloatKind.f32.format.order g y == some .eq) = o2
  generalize h3 : (FloatKind.f32.format.order b z == some .eq) = o3
  go_simp
  cases o1 <;> cases o2 <;> cases o3 <;> rfl
theorem run_eq_same {r g b : Nat} (hr : Fin32 r) (hg : Fin32 g) (hb : Fin32 b) (w : World) :
    (Op.equalIn 10000 28 (.agg #[.float .f32 r, .float .f32 g, .float .f32 b]) (.agg #[.float .f32 r, .float .f32 g, .float .f32 b])).run Try.prog w = .ok true w := by
  rw [run_eq_colg, order_self hr, order_self hg, order_self hb]; rfl
end Go.Proofs.Ytkcfekhpppihhaa
