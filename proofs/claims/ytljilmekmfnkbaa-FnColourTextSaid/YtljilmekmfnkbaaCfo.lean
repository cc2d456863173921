/-
  FormatColour of both.
-/
import Derived.Test.YtljilmekmfnkbaaCfmt
namespace Go.Proofs.Ytljilmekmfnkbaa
open Go.ChangeShapes Go.WideShapes Go.ChangeAt Go.RowKit Go.Joins
set_option linter.unusedSimpArgs false
set_option linter.unusedVariables false
set_option maxRecDepth 100000
attribute [local go_sem] store_f
open Ieee

theorem format_i_no (a b c : Nat) (h : colB a b c = false) (w : World) :
    Calls Try.prog 27 #[colV a b c] w fun e w' => e = .returned (.string ⟨#[]⟩) ∧ Below w.heap.size w w' := by
  have K : Hid (∀ w : World, Calls Try.prog 20 #[colV a b c] w fun e w' => e = .returned (.bool false) ∧ Below w.heap.size w w') := fun w => h ▸ isColour_i a b c w
  clear h
  unfold colV at K ⊢
  go_enter Try.func27, Try.ntmps27
  go_wp2_with (go_at_call 20; refine (K.out _).mono ?_; rintro e w1 ⟨rfl, hb⟩; obtain ⟨hc, hf⟩ := bcell hb; have HL := keepL (by (repeat (first | (with_reducible assumption) | (with_reducible apply AllLt.alloc) | (with_reducible apply AllLt.setCell) | (with_reducible apply AllLt.drew) | (with_reducible exact AllLt.nil _)))) hb; have hq := HL; simp only [AllLt, and_true, World.size_alloc, World.size_setCell, World.size_drew] at hq; have hbs := hb.size; try simp only [World.size_alloc, World.size_setCell, World.size_drew] at hbs)
  go_returns; exact ⟨rfl, by (repeat' (first | (with_reducible exact Below.refl _ _) | (with_reducible assumption) | (with_reducible refine Below.alloc ?_ ?_ _) | (with_reducible refine Below.drew ?_) | (with_reducible refine Below.setCell ?_ ?_ _) | (with_reducible refine Below.trans ?_ (Below.mono (by assumption) ?_)) | (with_reducible exact Nat.le_refl _) | omega | (simp only [World.size_alloc, World.size_setCell, World.size_drew]; omega) | (simp; omega) | (simp; done)))⟩

theorem format_s_no (a b c : Nat) (K : IsCol a b c false) (w : World) :
    Calls Try.prog 38 #[colV a b c] w fun e w' => e = .returned (.string ⟨#[]⟩) ∧ Below w.heap.size w w' := by
  unfold colV
  go_enter Try.func38, Try.ntmps38
  go_wp2_with (go_at_call 28; refine (K.call _).mono ?_; rintro e w1 ⟨rfl, hb⟩; obtain ⟨hc, hf⟩ := bcell hb; have HL := keepL (by (repeat (first | (with_reducible assumption) | (with_reducible apply AllLt.alloc) | (with_reducible apply AllLt.setCell) | (with_reducible apply AllLt.drew) | (with_reducible exact AllLt.nil _)))) hb; have hq := HL; simp only [AllLt, and_true, World.size_alloc, World.size_setCell, World.size_drew] at hq; have hbs := hb.size; try simp only [World.size_alloc, World.size_setCell, World.size_drew] at hbs)
  go_returns; exact ⟨rfl, by (repeat' (first | (with_reducible exact Below.refl _ _) | (with_reducible assumption) | (with_reducible refine Below.alloc ?_ ?_ _) | (with_reducible refine Below.drew ?_) | (with_reducible refine Below.setCell ?_ ?_ _) | (with_reducible refine Below.trans ?_ (Below.mono (by assumption) ?_)) | (with_reducible exact Nat.le_refl _) | omega | (simp only [World.size_alloc, World.size_setCell, World.size_drew]; omega) | (simp; omega) | (simp; done)))⟩

theorem format_i_yes (a b c : Nat) (ha : Part a) (hb : Part b) (hc : Part c) (w : World) :
    Calls Try.prog 27 #[colV a b c] w fun e w' => e = .returned (.string (dig3 (stepN a) (stepN b) (stepN c))) ∧ Below w.heap.size w w' := by
  have K : Hid (∀ w : World, Calls Try.prog 20 #[colV a b c] w fun e w' => e = .returned (.bool true) ∧ Below w.heap.size w w') := fun w => parts_colB ha hb hc ▸ isColour_i a b c w
  have E : Hid (∀ w : World, Calls Try.prog 69 #[.agg #[.float .f32 a, .float .f32 b, .float .f32 c], .func (.func 70) #[] #[]] w fun e w' =>
      e = .returned (.agg #[.int .u8 ((dg (stepN a)).toNat : Int), .int .u8 ((dg (stepN b)).toNat : Int), .int .u8 ((dg (stepN c)).toNat : Int)]) ∧ Below w.heap.size w w') := fun w => eachDigit_i _ _ _ _ _ _ w (fun w1 _ => digitOfPart_i ha w1) (fun w1 _ => digitOfPart_i hb w1) (fun w1 _ => digitOfPart_i hc w1)
  clear ha hb hc
  unfold dig3
  generalize dg (stepN a) = x at E ⊢
  generalize dg (stepN b) = y at E ⊢
  generalize dg (stepN c) = z at E ⊢
  have P : Hid (∀ w : World, Calls Try.prog 55 #[colV a b c] w fun e w' => e = .returned (.agg #[.float .f32 a, .float .f32 b, .float .f32 c]) ∧ Below w.heap.size w w') := fun w => partsOf_i a b c w
  have k3 := fun (w1 : World) => three_back x y z w1
  unfold colV at K P ⊢
  go_enter Try.func27, Try.ntmps27
  go_wp2_with (first | simp only [k3] | (go_at_call 20; refine (K.out _).mono ?_; rintro e w1 ⟨rfl, hb⟩; obtain ⟨hc, hf⟩ := bcell hb; have HL := keepL (by (repeat (first | (with_reducible assumption) | (with_reducible apply AllLt.alloc) | (with_reducible apply AllLt.setCell) | (with_reducible apply AllLt.drew) | (with_reducible exact AllLt.nil _)))) hb; have hq := HL; simp only [AllLt, and_true, World.size_alloc, World.size_setCell, World.size_drew] at hq; have hbs := hb.size; try simp only [World.size_alloc, World.size_setCell, World.size_drew] at hbs) | (go_at_call 55; refine (P.out _).mono ?_; rintro e w2 ⟨rfl, hb⟩; obtain ⟨hc, hf⟩ := bcell hb; have HL := keepL (by (repeat (first | (with_reducible assumption) | (with_reducible apply AllLt.alloc) | (with_reducible apply AllLt.setCell) | (with_reducible apply AllLt.drew) | (with_reducible exact AllLt.nil _)))) hb; have hq := HL; simp only [AllLt, and_true, World.size_alloc, World.size_setCell, World.size_drew] at hq; have hbs := hb.size; try simp only [World.size_alloc, World.size_setCell, World.size_drew] at hbs) | (go_at_call 69; refine (E.out _).mono ?_; rintro e w3 ⟨rfl, hb⟩; obtain ⟨hc, hf⟩ := bcell hb; have HL := keepL (by (repeat (first | (with_reducible assumption) | (with_reducible apply AllLt.alloc) | (with_reducible apply AllLt.setCell) | (with_reducible apply AllLt.drew) | (with_reducible exact AllLt.nil _)))) hb; have hq := HL; simp only [AllLt, and_true, World.size_alloc, World.size_setCell, World.size_drew] at hq; have hbs := hb.size; try simp only [World.size_alloc, World.size_setCell, World.size_drew] at hbs))
  all_goals (go_returns; exact ⟨rfl, by (repeat' (first | (with_reducible exact Below.refl _ _) | (with_reducible assumption) | (with_reducible refine Below.alloc ?_ ?_ _) | (with_reducible refine Below.drew ?_) | (with_reducible refine Below.setCell ?_ ?_ _) | (with_reducible refine Below.trans ?_ (Below.mono (by assumption) ?_)) | (with_reducible exact Nat.le_refl _) | omega | (simp only [World.size_alloc, World.size_setCell, World.size_drew]; omega) | (simp; omega) | (simp; done)))⟩)

structure StepC (x n : Nat) : Prop where
  call : ∀ w : World, Calls Try.prog 77 #[.float .f32 x] w fun e w' => e = .returned (.int .i64 n) ∧ w' = w
structure DigC (n : Nat) : Prop where
  call : ∀ w : World, Calls Try.prog 62 #[.int .i64 n] w fun e w' => e = .returned (.string (digS n)) ∧ w' = w

theorem format_s_of (a b c i j k : Nat) (K : IsCol a b c true) (A : StepC a i) (B : StepC b j) (C : StepC c k) (I : DigC i) (J : DigC j) (L : DigC k) (w : World) :
    Calls Try.prog 38 #[colV a b c] w fun e w' => e = .returned (.string (digS i ++ digS j ++ digS k)) ∧ Below w.heap.size w w' := by
  unfold colV
  go_enter Try.func38, Try.ntmps38
  go_wp2_with (go_at_call 28; refine (K.call _).mono ?_; rintro e w2 ⟨rfl, hb2⟩; have hb := hb2; obtain ⟨hc, hf⟩ := bcell hb; have HL := keepL (by (repeat (first | (with_reducible assumption) | (with_reducible apply AllLt.alloc) | (with_reducible apply AllLt.setCell) | (with_reducible apply AllLt.drew) | (with_reducible exact AllLt.nil _)))) hb; have hq := HL; simp only [AllLt, and_true, World.size_alloc, World.size_setCell, World.size_drew] at hq; have hbs := hb.size; try simp only [World.size_alloc, World.size_setCell, World.size_drew] at hbs)
  have hb0 : Below w.heap.size w w2 := by (repeat' (first | (with_reducible exact Below.refl _ _) | (with_reducible assumption) | (with_reducible refine Below.alloc ?_ ?_ _) | (with_reducible refine Below.drew ?_) | (with_reducible refine Below.setCell ?_ ?_ _) | (with_reducible refine Below.trans ?_ (Below.mono (by assumption) ?_)) | (with_reducible exact Nat.le_refl _) | omega | (simp only [World.size_alloc, World.size_setCell, World.size_drew]; omega) | (simp; omega) | (simp; done)))
  have z1 : (digS i).size = 1 := rfl
  have z2 : (digS j).size = 1 := rfl
  have z3 : (digS k).size = 1 := rfl
  have z12 : (digS i ++ digS j).size = 2 := by rw [ByteArray.size_append, z1, z2]
  refine wp_region_still_lit (by kernel_rfl) (by kernel_rfl) ?_
  repeat still_step
  still_call (A.call _)
  repeat still_step
  still_call (I.call _)
  repeat still_step
  still_call (B.call _)
  repeat still_step
  still_call (J.call _)
  repeat still_step
  still_call (C.call _)
  repeat still_step
  still_call (L.call _)
  repeat still_step
  refine wpStill_nil ?_
  go_wp2
  all_goals (go_returns; exact ⟨rfl, hb0.drew⟩)

theorem format_s_yes (a b c : Nat) (ha : Part a) (hb : Part b) (hc : Part c) (w : World) :
    Calls Try.prog 38 #[colV a b c] w fun e w' => e = .returned (.string (dig3 (stepN a) (stepN b) (stepN c))) ∧ Below w.heap.size w w' := by
  rw [← dig_app]
  exact format_s_of a b c _ _ _ ⟨fun w => parts_colB ha hb hc ▸ isColour_s a b c ha.lt hb.lt hc.lt w⟩ ⟨fun w => l2Step_s ha w⟩ ⟨fun w => l2Step_s hb w⟩ ⟨fun w => l2Step_s hc w⟩
    ⟨fun w => l2Digit_s _ (stepN_le a) w⟩ ⟨fun w => l2Digit_s _ (stepN_le b) w⟩ ⟨fun w => l2Digit_s _ (stepN_le c) w⟩ w
end Go.Proofs.Ytljilmekmfnkbaa
