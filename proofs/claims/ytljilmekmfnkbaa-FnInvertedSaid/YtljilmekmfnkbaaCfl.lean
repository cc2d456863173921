/-
  How far two drawn colours are: the same from both, from 0 to 1, nothing exactly for the same ones.
-/
import Derived.Test.YtljilmekmfnkbaaCdc
import Derived.Test.YtljilmekmfnkbaaCfc
namespace Go.Proofs.Ytljilmekmfnkbaa
open Go.ChangeShapes Go.WideShapes Go.ChangeAt Go.RowKit Go.Joins
set_option linter.unusedSimpArgs false
set_option linter.unusedVariables false
set_option maxRecDepth 100000
attribute [local go_sem] store_f
open Ieee

theorem farB_comm {a b : Nat} (ha : Part a) (hb : Part b) : farB a b = farB b a := by
  unfold farB
  rcases Nat.lt_trichotomy (pm a) (pm b) with h | h | h
  · rw [if_pos h, if_neg (by omega)]
  · rw [if_neg (by omega), if_neg (by omega), subB_zero ha hb h, subB_zero hb ha h.symm]
  · rw [if_neg (by omega), if_pos h]

theorem magOf_one : magOf F32 1 = 1 := by decide +kernel

theorem rn_some {N : Nat} (h : 0 < N) : 0 < rn F32 N 0 := rn_ge F32 (r := 1) (by rw [magOf_one]; omega)

theorem pm_inj {a b : Nat} (ha : a ≤ 1065353216) (hb : b ≤ 1065353216) (h : pm a = pm b) : a = b := by
  rw [pm_word (by omega), pm_word (by omega)] at h
  exact magOf_inj F32 h

theorem farB_zero {a b : Nat} (ha : a ≤ 1065353216) (hb : b ≤ 1065353216) : farB a b = 0 ↔ a = b := by
  have pa := part_of_le ha
  have pb := part_of_le hb
  constructor
  · intro h
    unfold farB at h
    apply pm_inj ha hb
    split at h
    · rename_i hlt
      rw [(subB_part pb pa (by omega)).1] at h
      have := rn_some (N := pm b - pm a) (by omega)
      omega
    · rename_i hge
      rw [(subB_part pa pb (by omega)).1] at h
      by_cases he : pm a = pm b
      · exact he
      · have := rn_some (N := pm a - pm b) (by omega)
        omega
  · intro h
    subst h
    unfold farB
    rw [if_neg (by omega)]
    exact subB_zero pa pa rfl

theorem order_eq {x y : Nat} (hx : x ≤ 1065353216) (hy : y ≤ 1065353216) : (FloatKind.f32.format.order x y == some .eq) = decide (x = y) := by
  show (F32.order x y == some .eq) = _
  rw [order_words (by omega) (by omega), cmp_eq]; simp; omega
theorem order_lt {x y : Nat} (hx : x ≤ 1065353216) (hy : y ≤ 1065353216) : (FloatKind.f32.format.order x y == some .lt) = decide (x < y) := by
  show (F32.order x y == some .lt) = _
  rw [order_words (by omega) (by omega), cmp_lt]; simp
theorem order_gt {x y : Nat} (hx : x ≤ 1065353216) (hy : y ≤ 1065353216) : (FloatKind.f32.format.order x y == some .gt) = decide (y < x) := by
  show (F32.order x y == some .gt) = _
  rw [order_words (by omega) (by omega), cmp_gt]; simp

theorem run_equalIn_f (P : Program) (w : World) (d : Nat) (t : TypeId) (a b : Nat) (h : P.underlying t = some (.float .f32)) : (Op.equalIn (d + 1) t (.float .f32 a) (.float .f32 b)).run P w = .ok (FloatKind.f32.format.order a b == some .eq) w := by
  simp [Op.equalIn, run_underlying h, Op.floatEq]
attribute [local go_sem] run_equalIn_f

/-- Two colours held against each other, field by field. -/
theorem run_eq_col (r g b x y z : Nat) (w : World) :
    (Op.equalIn 10000 26 (.agg #[.float .f32 r, .float .f32 g, .float .f32 b]) (.agg #[.float .f32 x, .float .f32 y, .float .f32 z])).run Try.prog w =
      .ok ((FloatKind.f32.format.order r x == some .eq) && ((FloatKind.f32.format.order g y == some .eq) && (FloatKind.f32.format.order b z == some .eq))) w := by
  have u := Try.underlying24
  have a24 := Try.isAgg24
  have z24 := Try.sizeOf24
  have hS : Try.prog.underlying 26 = some (.struct (Try.prog.fieldsOf 26)) := by kernel_rfl
  have hp : Try.prog.stoodInHeld 26 = false := by kernel_rfl
  rw [show (10000 : Nat) = 9999 + 1 from rfl, run_equalIn_agg w 9999 26 _ _ hS hp]
  simp only [Program.fieldsOf, Try.underlying26]
  generalize h1 : (FloatKind.f32.format.order r x == some .eq) = o1
  generalize h2 : (FloatKind.f32.format.order g y == some .eq) = o2
  generalize h3 : (FloatKind.f32.format.order b z == some .eq) = o3
  go_simp
  cases o1 <;> cases o2 <;> cases o3 <;> rfl

/-- Two colours of parts from 0 on hold as equal just where they are the same. -/
theorem run_eq_cols {r g b x y z : Nat} (hr : r ≤ 1065353216) (hg : g ≤ 1065353216) (hb : b ≤ 1065353216) (hx : x ≤ 1065353216) (hy : y ≤ 1065353216) (hz : z ≤ 1065353216) (w : World) :
    (Op.equalIn 10000 26 (.agg #[.float .f32 r, .float .f32 g, .float .f32 b]) (.agg #[.float .f32 x, .float .f32 y, .float .f32 z])).run Try.prog w = .ok (decide (r = x ∧ g = y ∧ b = z)) w := by
  rw [run_eq_col, order_eq hr hx, order_eq hg hy, order_eq hb hz]
  congr 1
  simp only [Bool.decide_and]
end Go.Proofs.Ytljilmekmfnkbaa
