/-
  Operations on parts: contracts of both sides, by one and the same whole-number answer.
-/
import Derived.Test.YtfdgijmmgllmgaaCop
import Derived.Test.YtfdgijmmgllmgaaCd
namespace Go.Proofs.Ytfdgijmmgllmgaa
open Go.ChangeShapes Go.WideShapes Go.ChangeAt Go.RowKit Go.Joins
set_option linter.unusedSimpArgs false
set_option linter.unusedVariables false
set_option maxRecDepth 100000
attribute [local go_sem] store_f

theorem productOf_p {a b : Nat} (ha : Part a) (hb : Part b) (w : World) :
    Calls Try.prog 129 #[.float .f32 a, .float .f32 b] w fun e w' => e = .returned (.float .f32 (mulB a b)) ∧ w' = w := by
  obtain ⟨r, e, hf, _⟩ := mul_part ha hb
  have h := productOf_i a b r w e
  rw [set_clean hf] at h
  have e2 : mulB a b = cleanB r := by unfold mulB; rw [e]; rfl
  rw [e2]; exact h

theorem l1Times_p {a b : Nat} (ha : Part a) (hb : Part b) (w : World) :
    Calls Try.prog 114 #[.float .f32 a, .float .f32 b] w fun e w' => e = .returned (.float .f32 (mulB a b)) ∧ w' = w := by
  obtain ⟨r, e, hf, _⟩ := mul_part ha hb
  have h := l1Times_s a b r w e (sub_self hf)
  have e2 : mulB a b = cleanB r := by unfold mulB; rw [e]; rfl
  rw [e2]; exact h

theorem differenceOf_p {a b : Nat} (ha : Part a) (hb : Part b) (w : World) :
    Calls Try.prog 107 #[.float .f32 a, .float .f32 b] w fun e w' => e = .returned (.float .f32 (subB a b)) ∧ w' = w := by
  obtain ⟨r, e, hf, _⟩ := sub_part ha hb
  have h := differenceOf_i a b r w e
  rw [set_clean hf] at h
  have e2 : subB a b = cleanB r := by unfold subB; rw [e]; rfl
  rw [e2]; exact h

theorem l1Minus_p {a b : Nat} (ha : Part a) (hb : Part b) (w : World) :
    Calls Try.prog 150 #[.float .f32 a, .float .f32 b] w fun e w' => e = .returned (.float .f32 (subB a b)) ∧ w' = w := by
  obtain ⟨r, e, hf, _⟩ := sub_part ha hb
  have h := l1Minus_s a b r w e (sub_self hf)
  have e2 : subB a b = cleanB r := by unfold subB; rw [e]; rfl
  rw [e2]; exact h

theorem sumOf_p {a b : Nat} (ha : Part a) (hb : Part b) (w : World) :
    Calls Try.prog 128 #[.float .f32 a, .float .f32 b] w fun e w' => e = .returned (.float .f32 (addB a b)) ∧ w' = w := by
  obtain ⟨r, e, hf, _⟩ := add_part ha hb
  have h := sumOf_i a b r w e
  rw [set_clean hf] at h
  have e2 : addB a b = cleanB r := by unfold addB; rw [e]; rfl
  rw [e2]; exact h

theorem l1Plus_p {a b : Nat} (ha : Part a) (hb : Part b) (w : World) :
    Calls Try.prog 149 #[.float .f32 a, .float .f32 b] w fun e w' => e = .returned (.float .f32 (addB a b)) ∧ w' = w := by
  obtain ⟨r, e, hf, _⟩ := add_part ha hb
  have h := l1Plus_s a b r w e (sub_self hf)
  have e2 : addB a b = cleanB r := by unfold addB; rw [e]; rfl
  rw [e2]; exact h

theorem pairsOf_i (a b c x y z : Nat) (w : World) :
    Calls Try.prog 69 #[colV a b c, colV x y z] w fun e w' => e = .returned (.agg #[.float .f32 a, .float .f32 x, .float .f32 b, .float .f32 y, .float .f32 c, .float .f32 z]) ∧ Below w.heap.size w w' := by
  unfold colV
  go_enter Try.func69, Try.ntmps69
  go_wp2
  go_returns; exact ⟨rfl, by (repeat' (first | (with_reducible exact Below.refl _ _) | (with_reducible assumption) | (with_reducible refine Below.alloc ?_ ?_ _) | (with_reducible refine Below.drew ?_) | (with_reducible refine Below.setCell ?_ ?_ _) | (with_reducible refine Below.trans ?_ (Below.mono (by assumption) ?_)) | (with_reducible exact Nat.le_refl _) | omega | (simp only [World.size_alloc, World.size_setCell, World.size_drew]; omega) | (simp; omega) | (simp; done)))⟩
end Go.Proofs.Ytfdgijmmgllmgaa
