/-
  The model's act on small whole numbers.
-/
import Derived.Test.YtlnikapkheldeaaHa
import Derived.Test.YtlnikapkheldeaaCa
import Derived.Deep.QuietTactic
import Derived.BigQuiet
namespace Go.Proofs.Ytlnikapkheldeaa
open Go.ChangeShapes Go.WideShapes Go.ChangeAt Go.RowKit Go.Joins
set_option linter.unusedSimpArgs false
set_option linter.unusedVariables false
set_option maxRecDepth 100000
attribute [local go_sem] store_f
open Ieee
attribute [local go_sem] store_c

theorem iw_ops : ∀ m : Nat, m < 15 → F32.add (iw ((m : Int) - 7)) 0 = some (iw ((m : Int) - 7)) ∧ F32.sub 0 (iw ((m : Int) - 7)) = some (iw (7 - (m : Int))) ∧ F32.sub (iw ((m : Int) - 7)) (iw ((m : Int) - 7)) = some 0 := by decide +kernel
theorem iw_op {z : Int} (h1 : -7 ≤ z) (h2 : z ≤ 7) : F32.add (iw z) 0 = some (iw z) ∧ F32.sub 0 (iw z) = some (iw (-z)) ∧ F32.sub (iw z) (iw z) = some 0 := by
  have h := iw_ops (z + 7).toNat (by omega)
  have e : (((z + 7).toNat : Nat) : Int) - 7 = z := by omega
  have e2 : 7 - (((z + 7).toNat : Nat) : Int) = -z := by omega
  rw [e, e2] at h
  exact h
structure PlusI (z : Int) : Prop where
  call : ∀ w : World, Calls Try.prog 162 #[.float .f32 (iw z), .float .f32 0] w fun e w' => e = .returned (.float .f32 (iw z)) ∧ w' = w
structure MinusI (z : Int) : Prop where
  call : ∀ w : World, Calls Try.prog 163 #[.float .f32 0, .float .f32 (iw z)] w fun e w' => e = .returned (.float .f32 (iw (-z))) ∧ w' = w
theorem plusI {z : Int} (h1 : -7 ≤ z) (h2 : z ≤ 7) : PlusI z := ⟨fun w => by
  have h := l1Plus_s (iw z) 0 (iw z) w (iw_op h1 h2).1 (iw_op h1 h2).2.2
  rwa [(iw_of h1 h2).2.1] at h⟩
theorem minusI {z : Int} (h1 : -7 ≤ z) (h2 : z ≤ 7) : MinusI z := ⟨fun w => by
  have h := l1Minus_s 0 (iw z) (iw (-z)) w (iw_op h1 h2).2.1 (iw_op (z := -z) (by omega) (by omega)).2.2
  rwa [(iw_of (z := -z) (by omega) (by omega)).2.1] at h⟩

/-- Turned a number of times. -/
def rotN : Nat → Int × Int → Int × Int
  | 0, p => p
  | n + 1, p => (-(rotN n p).2, (rotN n p).1)
theorem rotN_bd (n : Nat) {p : Int × Int} (hx : -7 ≤ p.1 ∧ p.1 ≤ 7) (hy : -7 ≤ p.2 ∧ p.2 ≤ 7) : (-7 ≤ (rotN n p).1 ∧ (rotN n p).1 ≤ 7) ∧ (-7 ≤ (rotN n p).2 ∧ (rotN n p).2 ≤ 7) := by
  induction n with
  | zero => exact ⟨hx, hy⟩
  | succ n ih => obtain ⟨a, b⟩ := ih; refine ⟨?_, a⟩; show -7 ≤ -(rotN n p).2 ∧ -(rotN n p).2 ≤ 7; omega
theorem rotN_act (t : Nat) (f : Bool) (ht : t < 4) (x y : Int) : rotN t (x, if f then -y else y) = actN t f x y := by
  rcases (by omega : t = 0 ∨ t = 1 ∨ t = 2 ∨ t = 3) with rfl | rfl | rfl | rfl <;> cases f <;> simp [rotN, actN]

structure ActS (t : Int) (f : Bool) (x y p q : Nat) : Prop where
  call : ∀ w : World, Calls Try.prog 119 #[.agg #[.int .i64 t, .bool f], .complex .f32 x y] w fun e w' => e = .returned (.complex .f32 p q) ∧ Below w.heap.size w w'
set_option maxHeartbeats 4000000 in
theorem actS {t : Nat} (f : Bool) {x y : Int} (ht : t < 4) (hx : -7 ≤ x ∧ x ≤ 7) (hy : -7 ≤ y ∧ y ≤ 7) : ActS t f (iw x) (iw y) (iw (actN t f x y).1) (iw (actN t f x y).2) := ⟨fun w => by
  have PX := plusI hx.1 hx.2
  have PY := plusI hy.1 hy.2
  have MY := minusI hy.1 hy.2
  rw [← rotN_act t f ht]
  have hb := fun j => rotN_bd j (p := (x, if f then -y else y)) hx (by cases f <;> simp <;> omega)
  have HM : Hid (∀ j, MinusI (rotN j (x, if f then -y else y)).2) := fun j => minusI (hb j).2.1 (hb j).2.2
  have HS : Hid (∀ j, (rotN (j + 1) (x, if f then -y else y)).1 = -(rotN j (x, if f then -y else y)).2 ∧ (rotN (j + 1) (x, if f then -y else y)).2 = (rotN j (x, if f then -y else y)).1) := fun j => ⟨rfl, rfl⟩
  have H0 : Hid (rotN 0 (x, if f then -y else y) = (x, if f then -y else y)) := rfl
  clear hb
  generalize hR : (fun j => rotN j (x, if f then -y else y)) = R
  have HM' : Hid (∀ j, MinusI (R j).2) := by rw [← hR]; exact HM.out
  have HS' : Hid (∀ j, (R (j + 1)).1 = -(R j).2 ∧ (R (j + 1)).2 = (R j).1) := by rw [← hR]; exact HS.out
  have H0' : Hid (R 0 = (x, if f then -y else y)) := by rw [← hR]; exact H0.out
  have HE : rotN t (x, if f then -y else y) = R t := by rw [← hR]
  rw [HE]
  clear HM HS H0 HE hR hx hy
  have H1 : Hid ((R 0).1 = x ∧ (R 0).2 = if f then -y else y) := by
    have h := H0'.out
    exact ⟨by rw [h], by rw [h]⟩
  clear H0'
  cases f
  all_goals
    simp only [Bool.false_eq_true, if_true, if_false] at H1
    go_enter Try.func119, Try.ntmps119
    go_wp2_with (first | (go_at_call 162; (first | (with_reducible refine (PX.call _).mono ?_) | (with_reducible refine (PY.call _).mono ?_)); rintro e w1 ⟨rfl, rfl⟩) | (go_at_call 163; (with_reducible refine (MY.call _).mono ?_); rintro e w1 ⟨rfl, rfl⟩))
    go_loop [5, 6, 7] (fun u v i => ∃ j : Nat, j ≤ t ∧ i = .int .i64 j ∧ u = .float .f32 (iw (R j).1) ∧ v = .float .f32 (iw (R j).2)) (fun _ _ i => t - (intOf i).toNat)
    case atStart => exact ⟨0, by omega, rfl, by rw [H1.out.1], by rw [H1.out.2]⟩
    case round =>
      obtain ⟨j, hj, rfl, rfl, rfl⟩ := hrel
      have M := HM'.out j
      have S1 : Hid ((R (j + 1)).1 = -(R j).2) := (HS'.out j).1
      have S2 : Hid ((R (j + 1)).2 = (R j).1) := (HS'.out j).2
      by_cases hlt : j < t
      · go_wp2_with (go_at_call 163; (with_reducible refine (M.call _).mono ?_); rintro e w1 ⟨rfl, rfl⟩)
        go_round
        case rel => exact ⟨j + 1, by omega, by go_num, by rw [S1.out], by rw [S2.out]⟩
        case measure => simp [intOf]; omega
      · obtain rfl : j = t := by omega
        go_wp2
        go_ret
        exact ⟨rfl, by (repeat' (first | (with_reducible exact Below.refl _ _) | (with_reducible assumption) | (with_reducible refine Below.alloc ?_ ?_ _) | (with_reducible refine Below.drew ?_) | (with_reducible refine Below.setCell ?_ ?_ _) | (with_reducible refine Below.trans ?_ (Below.mono (by assumption) ?_)) | (with_reducible exact Nat.le_refl _) | omega | (simp only [World.size_alloc, World.size_setCell, World.size_drew]; omega) | (simp; omega) | (simp; done)))⟩⟩
end Go.Proofs.Ytlnikapkheldeaa
