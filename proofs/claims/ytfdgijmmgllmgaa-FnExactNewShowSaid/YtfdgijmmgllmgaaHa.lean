/-
  Places of cells as whole numbers, and as singles; the cells to which symmetries take cells.
-/
import Derived.Test.YtfdgijmmgllmgaaFo
namespace Go.Proofs.Ytfdgijmmgllmgaa
open Go.ChangeShapes Go.WideShapes Go.ChangeAt Go.RowKit Go.Joins
set_option linter.unusedSimpArgs false
set_option linter.unusedVariables false
set_option maxRecDepth 100000
attribute [local go_sem] store_f
open Ieee

/-- A whole number as a single. -/
def iw (z : Int) : Nat := floatOfInt .f32 z
theorem iw_all : ∀ m : Nat, m < 15 → okB (iw ((m : Int) - 7)) = true ∧ cleanB (iw ((m : Int) - 7)) = iw ((m : Int) - 7) ∧ ngB (iw ((m : Int) - 7)) = iw (7 - (m : Int)) ∧ floatToIntVal .f32 (iw ((m : Int) - 7)) .i64 = some ((m : Int) - 7) := by decide +kernel
theorem iw_of {z : Int} (h1 : -7 ≤ z) (h2 : z ≤ 7) : okB (iw z) = true ∧ cleanB (iw z) = iw z ∧ ngB (iw z) = iw (-z) ∧ floatToIntVal .f32 (iw z) .i64 = some z := by
  have h := iw_all (z + 7).toNat (by omega)
  have e : (((z + 7).toNat : Nat) : Int) - 7 = z := by omega
  have e2 : 7 - (((z + 7).toNat : Nat) : Int) = -z := by omega
  rw [e, e2] at h
  exact h

/-- What a symmetry makes of whole numbers. -/
def actN : Nat → Bool → Int → Int → Int × Int
  | 0, false, x, y => (x, y)
  | 0, true, x, y => (x, -y)
  | 1, false, x, y => (-y, x)
  | 1, true, x, y => (y, x)
  | 2, false, x, y => (-x, -y)
  | 2, true, x, y => (-x, y)
  | _, false, x, y => (y, -x)
  | _, true, x, y => (-y, -x)

/-- The place of a cell. -/
def plX (n k : Nat) : Int := 2 * (k % n : Nat) + 1 - n
def plY (n k : Nat) : Int := n - 1 - 2 * (k / n : Nat)
/-- The cell at a place. -/
def cellOf (n : Nat) (x y : Int) : Nat := (((n : Int) - 1 - y) / 2).toNat * n + ((x + n - 1) / 2).toNat
/-- The cell to which a symmetry takes a cell. -/
def cellN (n t : Nat) (f : Bool) (k : Nat) : Nat := cellOf n (actN t f (plX n k) (plY n k)).1 (actN t f (plX n k) (plY n k)).2

theorem act_bd (t : Nat) (f : Bool) {x y b : Int} (hx : -b ≤ x ∧ x ≤ b) (hy : -b ≤ y ∧ y ≤ b) : (-b ≤ (actN t f x y).1 ∧ (actN t f x y).1 ≤ b) ∧ (-b ≤ (actN t f x y).2 ∧ (actN t f x y).2 ≤ b) := by
  unfold actN
  split <;> dsimp only <;> omega
theorem pl_bd {n k : Nat} (h1 : 1 ≤ n) (hk : k < n * n) : (-((n : Int) - 1) ≤ plX n k ∧ plX n k ≤ (n : Int) - 1) ∧ (-((n : Int) - 1) ≤ plY n k ∧ plY n k ≤ (n : Int) - 1) := by
  have a := Nat.mod_lt k (show 0 < n by omega)
  have b : k / n < n := (Nat.div_lt_iff_lt_mul (by omega)).2 hk
  unfold plX plY
  generalize k % n = u at *
  generalize k / n = v at *
  omega
/-- All that is finite about cells: in bounds; places; one symmetry behind another; the way back. -/
def cellFacts (n t : Nat) (f : Bool) (k : Nat) : Bool :=
  let c := cellN n t f k
  decide (c < n * n) && decide (plX n c = (actN t f (plX n k) (plY n k)).1) && decide (plY n c = (actN t f (plX n k) (plY n k)).2) && decide (cellN n 0 false k = k)
def cellsAll : Bool := (List.range 9).all fun n => (List.range (n * n)).all fun k => (List.range 4).all fun t => cellFacts n t false k && cellFacts n t true k
theorem cells_all : cellsAll = true := by decide +kernel
theorem cell_facts {n k t : Nat} {f : Bool} (h8 : n ≤ 8) (hk : k < n * n) (ht : t < 4) : cellFacts n t f k = true := by
  have h := cells_all
  unfold cellsAll at h
  have h2 := List.all_eq_true.1 h n (List.mem_range.2 (by omega))
  have h3 := List.all_eq_true.1 h2 k (List.mem_range.2 hk)
  have h4 := List.all_eq_true.1 h3 t (List.mem_range.2 ht)
  rw [Bool.and_eq_true] at h4
  cases f
  · exact h4.1
  · exact h4.2
theorem cell_lt' {n k t : Nat} {f : Bool} (h8 : n ≤ 8) (hk : k < n * n) (ht : t < 4) : cellN n t f k < n * n := by
  have h := cell_facts (f := f) h8 hk ht
  simp only [cellFacts, Bool.and_eq_true, decide_eq_true_eq] at h
  exact h.1.1.1
theorem cell_place {n k t : Nat} {f : Bool} (h8 : n ≤ 8) (hk : k < n * n) (ht : t < 4) : plX n (cellN n t f k) = (actN t f (plX n k) (plY n k)).1 ∧ plY n (cellN n t f k) = (actN t f (plX n k) (plY n k)).2 := by
  have h := cell_facts (f := f) h8 hk ht
  simp only [cellFacts, Bool.and_eq_true, decide_eq_true_eq] at h
  exact ⟨h.1.1.2, h.1.2⟩
theorem cell_none {n k : Nat} (h8 : n ≤ 8) (hk : k < n * n) : cellN n 0 false k = k := by
  have h := cell_facts (f := false) h8 hk (show 0 < 4 by omega)
  simp only [cellFacts, Bool.and_eq_true, decide_eq_true_eq] at h
  exact h.2
theorem actN_then (t u : Nat) (f g : Bool) (ht : t < 4) (hu : u < 4) (x y : Int) : actN u g (actN t f x y).1 (actN t f x y).2 = actN (thenT t u g).toNat (thenF t u f g) x y := by
  rcases (by omega : t = 0 ∨ t = 1 ∨ t = 2 ∨ t = 3) with rfl | rfl | rfl | rfl <;>
  rcases (by omega : u = 0 ∨ u = 1 ∨ u = 2 ∨ u = 3) with rfl | rfl | rfl | rfl <;>
  cases f <;> cases g <;> simp [actN, thenT, thenF, isSymB]
theorem actN_back (t : Nat) (f : Bool) (ht : t < 4) (x y : Int) : actN (backT t f).toNat (backF t f) (actN t f x y).1 (actN t f x y).2 = (x, y) := by
  rcases (by omega : t = 0 ∨ t = 1 ∨ t = 2 ∨ t = 3) with rfl | rfl | rfl | rfl <;>
  cases f <;> simp [actN, backT, backF, isSymB]
theorem cell_then {n k t u : Nat} {f g : Bool} (h8 : n ≤ 8) (hk : k < n * n) (ht : t < 4) (hu : u < 4) : cellN n u g (cellN n t f k) = cellN n (thenT t u g).toNat (thenF t u f g) k := by
  obtain ⟨e1, e2⟩ := cell_place (f := f) h8 hk ht
  show cellOf n (actN u g (plX n (cellN n t f k)) (plY n (cellN n t f k))).1 (actN u g (plX n (cellN n t f k)) (plY n (cellN n t f k))).2 = _
  rw [e1, e2, actN_then t u f g ht hu]
  rfl
theorem cell_back {n k t : Nat} {f : Bool} (h8 : n ≤ 8) (hk : k < n * n) (ht : t < 4) : cellN n (backT t f).toNat (backF t f) (cellN n t f k) = k := by
  obtain ⟨e1, e2⟩ := cell_place (f := f) h8 hk ht
  show cellOf n (actN _ _ (plX n (cellN n t f k)) (plY n (cellN n t f k))).1 (actN _ _ (plX n (cellN n t f k)) (plY n (cellN n t f k))).2 = _
  rw [e1, e2, actN_back t f ht]
  exact cell_none h8 hk

/-- ActSym at the place of a cell. -/
theorem act_place {n k t : Nat} (f : Bool) (h1 : 1 ≤ n) (h8 : n ≤ 8) (hk : k < n * n) (ht : t < 4) :
    ActM t f (iw (plX n k)) (iw (plY n k)) (iw (plX n (cellN n t f k))) (iw (plY n (cellN n t f k))) := by
  obtain ⟨bx, b_y⟩ := pl_bd h1 hk
  obtain ⟨e1, e2⟩ := cell_place (f := f) h8 hk ht
  obtain ⟨o1, c1, n1, _⟩ := iw_of (z := plX n k) (by omega) (by omega)
  obtain ⟨o2, c2, n2, _⟩ := iw_of (z := plY n k) (by omega) (by omega)
  have A := act_of f ht o1 o2
  rw [c1, c2, n1, n2] at A
  have e : actV t f (iw (plX n k)) (iw (-plX n k)) (iw (plY n k)) (iw (-plY n k)) = (iw (actN t f (plX n k) (plY n k)).1, iw (actN t f (plX n k) (plY n k)).2) := by
    rcases (by omega : t = 0 ∨ t = 1 ∨ t = 2 ∨ t = 3) with rfl | rfl | rfl | rfl <;> cases f <;> rfl
  rw [e] at A
  rw [e1, e2]
  exact A
end Go.Proofs.Ytfdgijmmgllmgaa
