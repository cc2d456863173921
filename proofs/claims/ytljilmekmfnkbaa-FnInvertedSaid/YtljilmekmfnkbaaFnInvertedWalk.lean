/-
  The call of FnInverted returns true and writes nothing that was there.
-/
import Derived.Test.YtljilmekmfnkbaaCmf
namespace Go.Proofs.Ytljilmekmfnkbaa.wFnInverted
open Go.ChangeShapes Go.WideShapes Go.ChangeAt Go.RowKit Go.Joins
set_option linter.unusedSimpArgs false
set_option linter.unusedVariables false
set_option maxRecDepth 100000
attribute [local go_sem] store_f
open Ieee

structure FarM (a b c x y z m : Nat) : Prop where
  call : ∀ w : World, Calls Try.prog 24 #[.agg #[.float .f32 a, .float .f32 b, .float .f32 c], .agg #[.float .f32 x, .float .f32 y, .float .f32 z]] w fun e w' => e = .returned (.float .f32 m) ∧ Below w.heap.size w w'
structure BriM (a b c m : Nat) : Prop where
  call : ∀ w : World, Calls Try.prog 22 #[.agg #[.float .f32 a, .float .f32 b, .float .f32 c]] w fun e w' => e = .returned (.float .f32 m) ∧ Below w.heap.size w w'
structure IsM (p q r : Nat) : Prop where
  call : ∀ w : World, Calls Try.prog 20 #[.agg #[.float .f32 p, .float .f32 q, .float .f32 r]] w fun e w' => e = .returned (.bool true) ∧ Below w.heap.size w w'

/-- How a part and its inverse stand to another part and its inverse. -/
def Turn (a x p y : Nat) : Prop :=
  (FloatKind.f32.format.order a x == some .lt || FloatKind.f32.format.order a x == some .eq) = false ∨
  ((FloatKind.f32.format.order a x == some .lt || FloatKind.f32.format.order a x == some .eq) = true ∧ (FloatKind.f32.format.order p y == some .lt) = false)

theorem turn {a x : Nat} (ha : a ≤ 1065353216) (hx : x ≤ 1065353216) : Turn a x (subB 1065353216 a) (subB 1065353216 x) := by
  unfold Turn
  rw [order_lt ha hx, order_eq ha hx, order_lt (less_le ha) (less_le hx)]
  by_cases h : a ≤ x
  · right
    have h1 := less_anti hx h
    constructor
    · simp; omega
    · simp; omega
  · left; simp; omega

theorem inv_of {a b c : Nat} (ha : a ≤ 1065353216) (hb : b ≤ 1065353216) (hc : c ≤ 1065353216) : InvI a b c (subB 1065353216 a) (subB 1065353216 b) (subB 1065353216 c) :=
  ⟨fun w => inverse_i_yes a b c (part_of_le ha) (part_of_le hb) (part_of_le hc) w⟩

set_option maxHeartbeats 4000000 in
theorem walk (a : Option Addr) (len cap : Nat) (bs : List Int) (w : World) (hrow : ByteRow w w.heap.size a len bs) :
    Calls Try.prog 4 #[.slice a len cap] w fun e w' => e = .returned (.bool true) ∧ Below w.heap.size w w' := by
  have HR : Hid (ByteRow w w.heap.size a len bs) := hrow
  clear hrow
  by_cases hl : len ≤ 4096
  · go_enter Try.func4, Try.ntmps4
    go_wp2_with fail
    refine (big_no _ _ _ _ hl).mono ?_
    rintro e w0 ⟨rfl, rfl⟩
    go_wp2_with fail
    refine (drawColours_s a len cap bs w HR.out hl).mono ?_
    rintro e w1 ⟨r, g, b, x, y, z, k, ⟨rfl, lr, lg, lb, lx, ly, lz, lk, hb⟩⟩
    have T1 := turn lr lx
    have T2 := turn lg ly
    have T3 := turn lb lz
    have I1 := inv_of lr lg lb
    have I2 := inv_of lx ly lz
    have I3 : InvI 0 0 0 1065353216 1065353216 1065353216 := by
      have h := inv_of (a := 0) (b := 0) (c := 0) (by omega) (by omega) (by omega)
      rw [less_zero] at h; exact h
    have U : IsM (subB 1065353216 r) (subB 1065353216 g) (subB 1065353216 b) := ⟨fun w => by
      have h := isColour_i (subB 1065353216 r) (subB 1065353216 g) (subB 1065353216 b) w
      rw [parts_colB (part_of_le (less_le lr)) (part_of_le (less_le lg)) (part_of_le (less_le lb))] at h
      exact h⟩
    have R : BriM 1065353216 1065353216 1065353216 1065353216 := ⟨fun w => bright_i (Nat.le_refl _) (Nat.le_refl _) (Nat.le_refl _) w⟩
    have F : FarM r g b r g b 0 := ⟨fun w => by
      have h := far_i_yes r g b r g b (part_of_le lr) (part_of_le lg) (part_of_le lb) (part_of_le lr) (part_of_le lg) (part_of_le lb) w
      rw [(farB_zero lr lr).2 rfl, (farB_zero lg lg).2 rfl, (farB_zero lb lb).2 rfl] at h
      exact h⟩
    have o1 : (FloatKind.f32.format.order 1065353216 1065353216 == some .eq) = true := by kernel_rfl
    have o2 : (FloatKind.f32.format.order 0 0 == some .eq) = true := by kernel_rfl
    generalize subB 1065353216 r = p1 at T1 I1 U
    generalize subB 1065353216 g = p2 at T2 I1 U
    generalize subB 1065353216 b = p3 at T3 I1 U
    generalize subB 1065353216 x = q1 at T1 I2
    generalize subB 1065353216 y = q2 at T2 I2
    generalize subB 1065353216 z = q3 at T3 I2
    clear lr lg lb lx ly lz lk
    obtain ⟨hc, hf⟩ := bcell hb; have HL := keepL (by (repeat (first | (with_reducible assumption) | (with_reducible apply AllLt.alloc) | (with_reducible apply AllLt.setCell) | (with_reducible apply AllLt.drew) | (with_reducible exact AllLt.nil _)))) hb; have hq := HL; simp only [AllLt, and_true, World.size_alloc, World.size_setCell, World.size_drew] at hq; have hbs := hb.size; try simp only [World.size_alloc, World.size_setCell, World.size_drew] at hbs
    rcases T1 with t1 | ⟨t1, u1⟩ <;> rcases T2 with t2 | ⟨t2, u2⟩ <;> rcases T3 with t3 | ⟨t3, u3⟩
    all_goals
      go_wp2_with (first | (go_at_call 23; (first | (with_reducible refine (I1.call _).mono ?_) | (with_reducible refine (I2.call _).mono ?_) | (with_reducible refine (I3.call _).mono ?_)); rintro e w2 ⟨rfl, hb⟩; obtain ⟨hc, hf⟩ := bcell hb; have HL := keepL (by (repeat (first | (with_reducible assumption) | (with_reducible apply AllLt.alloc) | (with_reducible apply AllLt.setCell) | (with_reducible apply AllLt.drew) | (with_reducible exact AllLt.nil _)))) hb; have hq := HL; simp only [AllLt, and_true, World.size_alloc, World.size_setCell, World.size_drew] at hq; have hbs := hb.size; try simp only [World.size_alloc, World.size_setCell, World.size_drew] at hbs) | (go_at_call 20; (with_reducible refine (U.call _).mono ?_); rintro e w3 ⟨rfl, hb⟩; obtain ⟨hc, hf⟩ := bcell hb; have HL := keepL (by (repeat (first | (with_reducible assumption) | (with_reducible apply AllLt.alloc) | (with_reducible apply AllLt.setCell) | (with_reducible apply AllLt.drew) | (with_reducible exact AllLt.nil _)))) hb; have hq := HL; simp only [AllLt, and_true, World.size_alloc, World.size_setCell, World.size_drew] at hq; have hbs := hb.size; try simp only [World.size_alloc, World.size_setCell, World.size_drew] at hbs) | (go_at_call 22; (with_reducible refine (R.call _).mono ?_); rintro e w4 ⟨rfl, hb⟩; obtain ⟨hc, hf⟩ := bcell hb; have HL := keepL (by (repeat (first | (with_reducible assumption) | (with_reducible apply AllLt.alloc) | (with_reducible apply AllLt.setCell) | (with_reducible apply AllLt.drew) | (with_reducible exact AllLt.nil _)))) hb; have hq := HL; simp only [AllLt, and_true, World.size_alloc, World.size_setCell, World.size_drew] at hq; have hbs := hb.size; try simp only [World.size_alloc, World.size_setCell, World.size_drew] at hbs) | (go_at_call 24; (with_reducible refine (F.call _).mono ?_); rintro e w5 ⟨rfl, hb⟩; obtain ⟨hc, hf⟩ := bcell hb; have HL := keepL (by (repeat (first | (with_reducible assumption) | (with_reducible apply AllLt.alloc) | (with_reducible apply AllLt.setCell) | (with_reducible apply AllLt.drew) | (with_reducible exact AllLt.nil _)))) hb; have hq := HL; simp only [AllLt, and_true, World.size_alloc, World.size_setCell, World.size_drew] at hq; have hbs := hb.size; try simp only [World.size_alloc, World.size_setCell, World.size_drew] at hbs))
      go_returns; exact ⟨rfl, by (repeat' (first | (with_reducible exact Below.refl _ _) | (with_reducible assumption) | (with_reducible refine Below.alloc ?_ ?_ _) | (with_reducible refine Below.drew ?_) | (with_reducible refine Below.setCell ?_ ?_ _) | (with_reducible refine Below.trans ?_ (Below.mono (by assumption) ?_)) | (with_reducible exact Nat.le_refl _) | omega | (simp only [World.size_alloc, World.size_setCell, World.size_drew]; omega) | (simp; omega) | (simp; done)))⟩
  · go_enter Try.func4, Try.ntmps4
    go_wp2_with fail
    refine (big_yes _ _ _ _ hl).mono ?_
    rintro e w0 ⟨rfl, rfl⟩
    go_wp2
    all_goals (go_returns; exact ⟨rfl, by (repeat' (first | (with_reducible exact Below.refl _ _) | (with_reducible assumption) | (with_reducible refine Below.alloc ?_ ?_ _) | (with_reducible refine Below.drew ?_) | (with_reducible refine Below.setCell ?_ ?_ _) | (with_reducible refine Below.trans ?_ (Below.mono (by assumption) ?_)) | (with_reducible exact Nat.le_refl _) | omega | (simp only [World.size_alloc, World.size_setCell, World.size_drew]; omega) | (simp; omega) | (simp; done)))⟩)
end Go.Proofs.Ytljilmekmfnkbaa.wFnInverted
