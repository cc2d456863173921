/-
  The brightest part; mixing by nothing and by all; filters in both orders; inverses turn the order round.
-/
import Derived.Test.YtljilmekmfnkbaaCfl
import Derived.Test.YtljilmekmfnkbaaCmx
import Derived.Test.YtljilmekmfnkbaaCscr
namespace Go.Proofs.Ytljilmekmfnkbaa
open Go.ChangeShapes Go.WideShapes Go.ChangeAt Go.RowKit Go.Joins
set_option linter.unusedSimpArgs false
set_option linter.unusedVariables false
set_option maxRecDepth 100000
attribute [local go_sem] store_f
open Ieee

theorem bright_i {r g b : Nat} (hr : r ≤ 1065353216) (hg : g ≤ 1065353216) (hb : b ≤ 1065353216) (w : World) :
    Calls Try.prog 22 #[colV r g b] w fun e w' => e = .returned (.float .f32 (max (max r g) b)) ∧ Below w.heap.size w w' := by
  have K : Hid (∀ w : World, Calls Try.prog 20 #[colV r g b] w fun e w' => e = .returned (.bool true) ∧ Below w.heap.size w w') := fun w => parts_colB (part_of_le hr) (part_of_le hg) (part_of_le hb) ▸ isColour_i r g b w
  have G : Hid (∀ w : World, Calls Try.prog 56 #[.agg #[.float .f32 r, .float .f32 g, .float .f32 b]] w fun e w' => e = .returned (.float .f32 (max (max r g) b)) ∧ Below w.heap.size w w') :=
    fun w => greatestPart_i (by omega) (by omega) (by omega) w
  clear hr hg hb
  generalize max (max r g) b = m at G ⊢
  have P : Hid (∀ w : World, Calls Try.prog 55 #[colV r g b] w fun e w' => e = .returned (.agg #[.float .f32 r, .float .f32 g, .float .f32 b]) ∧ Below w.heap.size w w') := fun w => partsOf_i r g b w
  unfold colV at K P ⊢
  go_enter Try.func22, Try.ntmps22
  go_wp2_with (first | (go_at_call 20; refine (K.out _).mono ?_; rintro e w1 ⟨rfl, hb⟩; obtain ⟨hc, hf⟩ := bcell hb; have HL := keepL (by (repeat (first | (with_reducible assumption) | (with_reducible apply AllLt.alloc) | (with_reducible apply AllLt.setCell) | (with_reducible apply AllLt.drew) | (with_reducible exact AllLt.nil _)))) hb; have hq := HL; simp only [AllLt, and_true, World.size_alloc, World.size_setCell, World.size_drew] at hq; have hbs := hb.size; try simp only [World.size_alloc, World.size_setCell, World.size_drew] at hbs) | (go_at_call 55; refine (P.out _).mono ?_; rintro e w2 ⟨rfl, hb⟩; obtain ⟨hc, hf⟩ := bcell hb; have HL := keepL (by (repeat (first | (with_reducible assumption) | (with_reducible apply AllLt.alloc) | (with_reducible apply AllLt.setCell) | (with_reducible apply AllLt.drew) | (with_reducible exact AllLt.nil _)))) hb; have hq := HL; simp only [AllLt, and_true, World.size_alloc, World.size_setCell, World.size_drew] at hq; have hbs := hb.size; try simp only [World.size_alloc, World.size_setCell, World.size_drew] at hbs) | (go_at_call 56; refine (G.out _).mono ?_; rintro e w3 ⟨rfl, hb⟩; obtain ⟨hc, hf⟩ := bcell hb; have HL := keepL (by (repeat (first | (with_reducible assumption) | (with_reducible apply AllLt.alloc) | (with_reducible apply AllLt.setCell) | (with_reducible apply AllLt.drew) | (with_reducible exact AllLt.nil _)))) hb; have hq := HL; simp only [AllLt, and_true, World.size_alloc, World.size_setCell, World.size_drew] at hq; have hbs := hb.size; try simp only [World.size_alloc, World.size_setCell, World.size_drew] at hbs))
  go_returns; exact ⟨rfl, by (repeat' (first | (with_reducible exact Below.refl _ _) | (with_reducible assumption) | (with_reducible refine Below.alloc ?_ ?_ _) | (with_reducible refine Below.drew ?_) | (with_reducible refine Below.setCell ?_ ?_ _) | (with_reducible refine Below.trans ?_ (Below.mono (by assumption) ?_)) | (with_reducible exact Nat.le_refl _) | omega | (simp only [World.size_alloc, World.size_setCell, World.size_drew]; omega) | (simp; omega) | (simp; done)))⟩

theorem pm_mono {a b : Nat} (hb : b ≤ 1065353216) (h : a ≤ b) : pm a ≤ pm b := by
  rw [pm_word (by omega), pm_word (by omega)]; exact magOf_le F32 h

theorem rn_pm {a : Nat} (h : a ≤ 1065353216) (Q : Nat) : rn F32 (pm a * 2 ^ Q) Q = a := by
  rw [pm_word (by omega)]; exact rn_exact F32 a Q

theorem rn_pm0 {a : Nat} (h : a ≤ 1065353216) : rn F32 (pm a) 0 = a := by
  have := rn_pm h 0
  rw [Nat.pow_zero, Nat.mul_one] at this; exact this

theorem less_anti {a b : Nat} (hb : b ≤ 1065353216) (h : a ≤ b) : subB 1065353216 b ≤ subB 1065353216 a := by
  have pa := part_of_le (Nat.le_trans h hb)
  have pb := part_of_le hb
  rw [(subB_part part_one pa (by rw [pm_one]; exact pa.pm_le)).1, (subB_part part_one pb (by rw [pm_one]; exact pb.pm_le)).1]
  exact rn_mono F32 (by have := pm_mono hb h; omega)

theorem less_le {a : Nat} (h : a ≤ 1065353216) : subB 1065353216 a ≤ 1065353216 := by
  have pa := part_of_le h
  have h1 := (subB_part part_one pa (by rw [pm_one]; exact pa.pm_le)).2
  have := part_one.rung
  omega

theorem less_zero : subB 1065353216 0 = 1065353216 := by
  rw [(subB_part part_one part_zero (by rw [pm_zero]; omega)).1, pm_zero, Nat.sub_zero]
  exact rn_pm0 (Nat.le_refl _)

theorem less_one : subB 1065353216 1065353216 = 0 := subB_zero part_one part_one rfl

theorem mulB_comm {a b : Nat} (ha : Part a) (hb : Part b) : mulB a b = mulB b a := by
  rw [(mulB_part ha hb).1, (mulB_part hb ha).1, Nat.mul_comm]

theorem mulB_one {a : Nat} (h : a ≤ 1065353216) : mulB a 1065353216 = a := by
  rw [(mulB_part (part_of_le h) part_one).1, pm_one]
  exact rn_pm h 149

theorem mulB_nil {a : Nat} (h : a ≤ 1065353216) : mulB a 0 = 0 := by
  rw [(mulB_part (part_of_le h) part_zero).1, pm_zero, Nat.mul_zero, rn_zero]

theorem mulB_le {a b : Nat} (ha : a ≤ 1065353216) (hb : b ≤ 1065353216) : mulB a b ≤ a ∧ mulB a b ≤ b := by
  have h := (mulB_part (part_of_le ha) (part_of_le hb)).2
  rw [rung_of_lt (by omega), rung_of_lt (by omega)] at h
  exact h

theorem addB_nil {a : Nat} (h : a ≤ 1065353216) : addB a 0 = a ∧ addB 0 a = a := by
  rw [(addB_part (part_of_le h) part_zero).1, (addB_part part_zero (part_of_le h)).1, pm_zero, Nat.add_zero, Nat.zero_add]
  exact ⟨rn_pm0 h, rn_pm0 h⟩

theorem boundB_id {a : Nat} (h : a ≤ 1065353216) : boundB a = a := by
  unfold boundB
  have e : (FloatKind.f32.format.order a 1065353216 == some .gt) = false := by
    rw [order_gt h (Nat.le_refl _)]; simp; omega
  rw [e]; rfl

theorem mix_nil {a x : Nat} (ha : a ≤ 1065353216) (hx : x ≤ 1065353216) : mixB a x 0 = a := by
  unfold mixB
  rw [less_zero, mulB_one ha, mulB_nil hx, (addB_nil ha).1, boundB_id ha]

theorem mix_all {a x : Nat} (ha : a ≤ 1065353216) (hx : x ≤ 1065353216) : mixB a x 1065353216 = x := by
  unfold mixB
  rw [less_one, mulB_nil ha, mulB_one hx, (addB_nil hx).2, boundB_id hx]
end Go.Proofs.Ytljilmekmfnkbaa
