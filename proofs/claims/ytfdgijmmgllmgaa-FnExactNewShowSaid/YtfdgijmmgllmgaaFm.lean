/-
  Images of images: one symmetry behind another, and the way back, on the parts of a point.
-/
import Derived.Test.YtfdgijmmgllmgaaFg
import Derived.Test.YtfdgijmmgllmgaaAthen
namespace Go.Proofs.Ytfdgijmmgllmgaa
open Go.ChangeShapes Go.WideShapes Go.ChangeAt Go.RowKit Go.Joins
set_option linter.unusedSimpArgs false
set_option linter.unusedVariables false
set_option maxRecDepth 100000
attribute [local go_sem] store_f
open Ieee

theorem clean_clean {x : Nat} (h : Fin32 x) (hx : x < 4294967296) : cleanB (cleanB x) = cleanB x := by
  have c := cl_clean h hx
  rw [clean_eq c.fin]
  by_cases h0 : rungOf F32 (cleanB x) = 0
  · rw [if_pos h0, c.zero h0]
  · rw [if_neg h0]
theorem cl_clean_eq {x : Nat} (h : Cl x) : cleanB x = x := by
  rw [clean_eq h.fin]
  by_cases h0 : rungOf F32 x = 0
  · rw [if_pos h0, h.zero h0]
  · rw [if_neg h0]
theorem ng_clean {x : Nat} (h : Fin32 x) : ngB (cleanB x) = ngB x := by
  rw [clean_eq h]
  by_cases h0 : rungOf F32 x = 0
  · rw [if_pos h0]
    unfold ngB
    rw [if_pos h0, if_pos (rung_of_lt (by omega))]
  · rw [if_neg h0]

/-- The image of an image is the image by the one behind the other. -/
theorem act_then (t u : Nat) (f g : Bool) {x y : Nat} (ht : t < 4) (hu : u < 4) (hx : Cl x) (hy : Cl y) :
    actV u g (actV t f x (ngB x) y (ngB y)).1 (ngB (actV t f x (ngB x) y (ngB y)).1) (actV t f x (ngB x) y (ngB y)).2 (ngB (actV t f x (ngB x) y (ngB y)).2) =
      actV (thenT t u g).toNat (thenF t u f g) x (ngB x) y (ngB y) := by
  have ex := ng_ng hx
  have ey := ng_ng hy
  rcases (by omega : t = 0 ∨ t = 1 ∨ t = 2 ∨ t = 3) with rfl | rfl | rfl | rfl <;>
  rcases (by omega : u = 0 ∨ u = 1 ∨ u = 2 ∨ u = 3) with rfl | rfl | rfl | rfl <;>
  cases f <;> cases g <;> simp [actV, thenT, thenF, isSymB, ex, ey]

/-- The way back. -/
theorem act_back (t : Nat) (f : Bool) {x y : Nat} (ht : t < 4) (hx : Cl x) (hy : Cl y) :
    actV (backT t f).toNat (backF t f) (actV t f x (ngB x) y (ngB y)).1 (ngB (actV t f x (ngB x) y (ngB y)).1) (actV t f x (ngB x) y (ngB y)).2 (ngB (actV t f x (ngB x) y (ngB y)).2) = (x, y) := by
  have ex := ng_ng hx
  have ey := ng_ng hy
  rcases (by omega : t = 0 ∨ t = 1 ∨ t = 2 ∨ t = 3) with rfl | rfl | rfl | rfl <;>
  cases f <;> simp [actV, backT, backF, isSymB, ex, ey]

/-- The images of parts in reach are parts in reach. -/
theorem act_cl (t : Nat) (f : Bool) {x y : Nat} (hx : Cl x) (hy : Cl y) : Cl (actV t f x (ngB x) y (ngB y)).1 ∧ Cl (actV t f x (ngB x) y (ngB y)).2 := by
  have nx := cl_ng hx.fin
  have ny := cl_ng hy.fin
  unfold actV
  split <;> exact ⟨by assumption, by assumption⟩
end Go.Proofs.Ytfdgijmmgllmgaa
