/-
  Texts of this proof, joined: Va.
-/
import Derived.Test.YtlnikapkheldeaaK37
import Derived.Test.YtlnikapkheldeaaK12
/-
  Places of cells times a step, and their folds.
-/
namespace Go.Proofs.Ytlnikapkheldeaa
open Go.ChangeShapes Go.WideShapes Go.ChangeAt Go.RowKit Go.Joins
set_option linter.unusedSimpArgs false
set_option linter.unusedVariables false
set_option maxRecDepth 100000
attribute [local go_sem] store_f
open Ieee
attribute [local go_sem] store_c

/-- The steps that are drawn. -/
def stepB (i : Nat) : Nat := [1048576000, 1056964608, 1065353216, 1073741824, 1050253722].getD i 0
/-- A whole number times a step. -/
def pwB (i : Nat) (z : Int) : Nat := match F32.mul (iw z) (stepB i) with | some r => setB r | none => 0
def pwOk (i m : Nat) : Bool := (F32.mul (iw ((m : Int) - 7)) (stepB i)).isSome && okB (pwB i ((m : Int) - 7)) && (cleanB (pwB i ((m : Int) - 7)) == pwB i ((m : Int) - 7)) && (ngB (pwB i ((m : Int) - 7)) == pwB i (7 - (m : Int)))
theorem pw_all : ∀ i : Nat, i < 5 → ∀ m : Nat, m < 15 → pwOk i m = true := by decide +kernel
theorem pw_of {i : Nat} {z : Int} (hi : i < 5) (h1 : -7 ≤ z) (h2 : z ≤ 7) : (∃ r, F32.mul (iw z) (stepB i) = some r ∧ setB r = pwB i z) ∧ okB (pwB i z) = true ∧ cleanB (pwB i z) = pwB i z ∧ ngB (pwB i z) = pwB i (-z) := by
  have h := pw_all i hi (z + 7).toNat (by omega)
  have e : (((z + 7).toNat : Nat) : Int) - 7 = z := by omega
  have e2 : 7 - (((z + 7).toNat : Nat) : Int) = -z := by omega
  unfold pwOk at h
  rw [e, e2] at h
  simp only [Bool.and_eq_true, beq_iff_eq] at h
  refine ⟨?_, h.1.1.2, h.1.2, h.2⟩
  obtain ⟨r, hr⟩ := Option.isSome_iff_exists.1 h.1.1.1
  exact ⟨r, hr, by unfold pwB; rw [hr]⟩
theorem pw_pt {i : Nat} {z : Int} (hi : i < 5) (h1 : -7 ≤ z) (h2 : z ≤ 7) : Pt (pwB i z) := by
  have h := pw_of hi h1 h2
  rw [← h.2.2.1]
  exact pt_clean h.2.1

/-- The place of a cell times a step. -/
def zOf (i n k : Nat) (hi : i < 5) (h1 : 1 ≤ n) (h8 : n ≤ 8) (hk : k < n * n) : PtW :=
  ⟨(pwB i (plX n k), pwB i (plY n k)), by
    obtain ⟨a, b⟩ := pl_bd h1 hk
    exact ⟨pw_pt hi (by omega) (by omega), pw_pt hi (by omega) (by omega)⟩⟩
theorem zOf_act {i n k t : Nat} {f : Bool} (hi : i < 5) (h1 : 1 ≤ n) (h8 : n ≤ 8) (hk : k < n * n) (ht : t < 4) :
    actP ((t : Int), f) (zOf i n k hi h1 h8 hk) = zOf i n (cellN n t f k) hi h1 h8 (cell_lt' h8 hk ht) := by
  apply Subtype.ext
  obtain ⟨a, b⟩ := pl_bd h1 hk
  obtain ⟨e1, e2⟩ := cell_place (f := f) h8 hk ht
  have nx := (pw_of (z := plX n k) hi (by omega) (by omega)).2.2.2
  have ny := (pw_of (z := plY n k) hi (by omega) (by omega)).2.2.2
  show actV ((t : Int)).toNat f (pwB i (plX n k)) (ngB (pwB i (plX n k))) (pwB i (plY n k)) (ngB (pwB i (plY n k))) = (pwB i (plX n (cellN n t f k)), pwB i (plY n (cellN n t f k)))
  rw [e1, e2, nx, ny]
  have e : ((t : Int)).toNat = t := rfl
  rw [e]
  rcases (by omega : t = 0 ∨ t = 1 ∨ t = 2 ∨ t = 3) with rfl | rfl | rfl | rfl <;> cases f <;> rfl

theorem first_some {P : Int × Bool → Bool} : ∀ {l : List (Int × Bool)}, (∃ s ∈ l, P s = true) → ∃ n, n < l.length ∧ P (l.getD n (0, false)) = true ∧ ∀ j, j < n → P (l.getD j (0, false)) = false
  | [], h => by obtain ⟨s, hs, _⟩ := h; cases hs
  | a :: l, h => by
    cases ha : P a with
    | true => exact ⟨0, by simp, by simpa using ha, fun j hj => by omega⟩
    | false =>
      have h2 : ∃ s ∈ l, P s = true := by
        obtain ⟨s, hs, hp⟩ := h
        rcases List.mem_cons.1 hs with rfl | hs
        · rw [ha] at hp; cases hp
        · exact ⟨s, hs, hp⟩
      obtain ⟨n, h1, h3, h4⟩ := first_some h2
      refine ⟨n + 1, by simpa using h1, by simpa using h3, fun j hj => ?_⟩
      rcases j with _ | j
      · simpa using ha
      · simpa using h4 j (by omega)
theorem first_of {kind : Int} (h0 : 0 ≤ kind) (h3 : kind ≤ 3) (p : PtW) : ∃ n, First kind (symsTo kind 8) p n := by
  obtain ⟨n, a, b, c⟩ := first_some (P := fun s => wed kind (actP s p)) (wed_some h0 h3 p)
  exact ⟨n, ⟨a, b, c⟩⟩
/-- The fold of a point: where it lies. -/
theorem fold_of {kind : Int} (h0 : 0 ≤ kind) (h3 : kind ≤ 3) (p : PtW) : ∃ q : PtW, (∃ s ∈ symsTo kind 8, q = actP s p ∧ wed kind q = true) ∧ ∃ t f, FoldM kind p.1.1 p.1.2 q.1.1 q.1.2 t f := by
  obtain ⟨n, F⟩ := first_of h0 h3 p
  have hrg := syms_range kind h0 h3
  have SM : SymsM kind (symsTo kind 8) := ⟨fun w => symsOf_i kind w⟩
  have PY : PtYes p.1.1 p.1.2 := ⟨fun w => isPoint_yes _ _ w (ok_in p.2.1.ok) (ok_in p.2.2.ok)⟩
  have FM := foldPoint_i SM (symsTo_le kind 8) PY (acts_pt hrg p) ⟨fun k hk => inWedge_p h0 h3 _⟩ F
  exact ⟨_, ⟨_, getD_memS F.lt, rfl, F.yes⟩, _, _, FM⟩
/-- Images of one point are folded to the same point. -/
theorem fold_img {kind : Int} (h0 : 0 ≤ kind) (h3 : kind ≤ 3) {p q1 q2 : PtW} {s : Int × Bool} (hs : s ∈ symsTo kind 8) (h1 : ∃ r ∈ symsTo kind 8, q1 = actP r p ∧ wed kind q1 = true) (h2 : ∃ r ∈ symsTo kind 8, q2 = actP r (actP s p) ∧ wed kind q2 = true) : q2 = q1 := by
  obtain ⟨r1, m1, rfl, w1⟩ := h1
  obtain ⟨r2, m2, rfl, w2⟩ := h2
  exact fold_same h0 h3 p (actP s p) (List.mem_map.2 ⟨s, hs, rfl⟩) m1 m2 w1 w2
end Go.Proofs.Ytlnikapkheldeaa
