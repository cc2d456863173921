/-
  The call of FnFar returns true and writes nothing that was there.
-/
import Derived.Test.YtljilmekmfnkbaaCfl
namespace Go.Proofs.Ytljilmekmfnkbaa.wFnFar
open Go.ChangeShapes Go.WideShapes Go.ChangeAt Go.RowKit Go.Joins
set_option linter.unusedSimpArgs false
set_option linter.unusedVariables false
set_option maxRecDepth 100000
attribute [local go_sem] store_f
open Ieee

structure FarM (a b c x y z m : Nat) : Prop where
  call : ∀ w : World, Calls Try.prog 24 #[.agg #[.float .f32 a, .float .f32 b, .float .f32 c], .agg #[.float .f32 x, .float .f32 y, .float .f32 z]] w fun e w' => e = .returned (.float .f32 m) ∧ Below w.heap.size w w'

theorem walk (a : Option Addr) (len cap : Nat) (bs : List Int) (w : World) (hrow : ByteRow w w.heap.size a len bs) :
    Calls Try.prog 5 #[.slice a len cap] w fun e w' => e = .returned (.bool true) ∧ Below w.heap.size w w' := by
  have HR : Hid (ByteRow w w.heap.size a len bs) := hrow
  clear hrow
  by_cases hl : len ≤ 4096
  · go_enter Try.func5, Try.ntmps5
    go_wp2_with fail
    refine (big_no _ _ _ _ hl).mono ?_
    rintro e w0 ⟨rfl, rfl⟩
    go_wp2_with fail
    refine (drawColours_s a len cap bs w HR.out hl).mono ?_
    rintro e w1 ⟨r, g, b, x, y, z, k, ⟨rfl, lr, lg, lb, lx, ly, lz, lk, hb⟩⟩
    have h1 := farB_le (part_of_le lr) (part_of_le lx)
    have h2 := farB_le (part_of_le lg) (part_of_le ly)
    have h3 := farB_le (part_of_le lb) (part_of_le lz)
    have F1 : FarM r g b x y z (max (max (farB r x) (farB g y)) (farB b z)) := ⟨fun w => far_i_yes r g b x y z (part_of_le lr) (part_of_le lg) (part_of_le lb) (part_of_le lx) (part_of_le ly) (part_of_le lz) w⟩
    have F2 : FarM x y z r g b (max (max (farB r x) (farB g y)) (farB b z)) := ⟨fun w => by
      have h := far_i_yes x y z r g b (part_of_le lx) (part_of_le ly) (part_of_le lz) (part_of_le lr) (part_of_le lg) (part_of_le lb) w
      rw [farB_comm (part_of_le lx) (part_of_le lr), farB_comm (part_of_le ly) (part_of_le lg), farB_comm (part_of_le lz) (part_of_le lb)] at h
      exact h⟩
    have hE := fun w => run_eq_cols lr lg lb lx ly lz w
    have hz : decide (max (max (farB r x) (farB g y)) (farB b z) = 0) = decide (r = x ∧ g = y ∧ b = z) := by
      have e1 := farB_zero lr lx
      have e2 := farB_zero lg ly
      have e3 := farB_zero lb lz
      apply decide_eq_decide.2
      rw [← e1, ← e2, ← e3]
      omega
    have hm : max (max (farB r x) (farB g y)) (farB b z) ≤ 1065353216 := by omega
    generalize max (max (farB r x) (farB g y)) (farB b z) = m at F1 F2 hz hm
    have b1 : (FloatKind.f32.format.order m m == some .eq) = true := by rw [order_eq hm hm]; simp
    have b2 : (FloatKind.f32.format.order m 0 == some .gt || FloatKind.f32.format.order m 0 == some .eq) = true := by
      rw [order_gt hm (by omega), order_eq hm (by omega)]; simp; omega
    have b3 : (FloatKind.f32.format.order m 1065353216 == some .lt || FloatKind.f32.format.order m 1065353216 == some .eq) = true := by
      rw [order_lt hm (Nat.le_refl _), order_eq hm (Nat.le_refl _)]; simp; omega
    have b4 : (FloatKind.f32.format.order m 0 == some .eq) = decide (r = x ∧ g = y ∧ b = z) := by rw [order_eq hm (by omega)]; exact hz
    generalize decide (r = x ∧ g = y ∧ b = z) = t at hE b4
    clear h1 h2 h3 hz hm lr lg lb lx ly lz lk
    obtain ⟨hc, hf⟩ := bcell hb; have HL := keepL (by (repeat (first | (with_reducible assumption) | (with_reducible apply AllLt.alloc) | (with_reducible apply AllLt.setCell) | (with_reducible apply AllLt.drew) | (with_reducible exact AllLt.nil _)))) hb; have hq := HL; simp only [AllLt, and_true, World.size_alloc, World.size_setCell, World.size_drew] at hq; have hbs := hb.size; try simp only [World.size_alloc, World.size_setCell, World.size_drew] at hbs
    cases t
    all_goals
      go_wp2_with (go_at_call 24; (first | (with_reducible refine (F1.call _).mono ?_) | (with_reducible refine (F2.call _).mono ?_)); rintro e w2 ⟨rfl, hb⟩; obtain ⟨hc, hf⟩ := bcell hb; have HL := keepL (by (repeat (first | (with_reducible assumption) | (with_reducible apply AllLt.alloc) | (with_reducible apply AllLt.setCell) | (with_reducible apply AllLt.drew) | (with_reducible exact AllLt.nil _)))) hb; have hq := HL; simp only [AllLt, and_true, World.size_alloc, World.size_setCell, World.size_drew] at hq; have hbs := hb.size; try simp only [World.size_alloc, World.size_setCell, World.size_drew] at hbs)
      all_goals (go_returns; exact ⟨by simp_all, by (repeat' (first | (with_reducible exact Below.refl _ _) | (with_reducible assumption) | (with_reducible refine Below.alloc ?_ ?_ _) | (with_reducible refine Below.drew ?_) | (with_reducible refine Below.setCell ?_ ?_ _) | (with_reducible refine Below.trans ?_ (Below.mono (by assumption) ?_)) | (with_reducible exact Nat.le_refl _) | omega | (simp only [World.size_alloc, World.size_setCell, World.size_drew]; omega) | (simp; omega) | (simp; done)))⟩)
  · go_enter Try.func5, Try.ntmps5
    go_wp2_with fail
    refine (big_yes _ _ _ _ hl).mono ?_
    rintro e w0 ⟨rfl, rfl⟩
    go_wp2
    all_goals (go_returns; exact ⟨rfl, by (repeat' (first | (with_reducible exact Below.refl _ _) | (with_reducible assumption) | (with_reducible refine Below.alloc ?_ ?_ _) | (with_reducible refine Below.drew ?_) | (with_reducible refine Below.setCell ?_ ?_ _) | (with_reducible refine Below.trans ?_ (Below.mono (by assumption) ?_)) | (with_reducible exact Nat.le_refl _) | omega | (simp only [World.size_alloc, World.size_setCell, World.size_drew]; omega) | (simp; omega) | (simp; done)))⟩)
end Go.Proofs.Ytljilmekmfnkbaa.wFnFar
