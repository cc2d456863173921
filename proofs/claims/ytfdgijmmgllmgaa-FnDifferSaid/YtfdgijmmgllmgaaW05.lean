/-
  Texts Fd Asym Fm Fo Ha Copen Ca Ma Hb Sao Lall, joined.
-/
import Derived.Test.YtfdgijmmgllmgaaW04
import Derived.Test.YtfdgijmmgllmgaaW01
import Derived.Deep.QuietTactic
import Derived.BigQuiet
import Derived.Maps.AppendAt
namespace Go.Proofs.Ytfdgijmmgllmgaa
open Go.ChangeShapes Go.WideShapes Go.ChangeAt Go.RowKit Go.Joins
set_option linter.unusedSimpArgs false
set_option linter.unusedVariables false
set_option maxRecDepth 100000
attribute [local go_sem] store_f
open Ieee
def okB (x : Nat) : Bool := decide (x < 4294967296) && decide (x % 2147483648 ≤ 1166016512)
set_option maxRecDepth 1000000
theorem ok_lt {x : Nat} (h : okB x = true) : x < 4294967296 := by simp [okB] at h; exact h.1
theorem ok_rung {x : Nat} (h : okB x = true) : rungOf F32 x ≤ 1166016512 := by
  simp [okB] at h
  unfold rungOf; rw [F32_sw]; exact h.2
theorem ok_fin {x : Nat} (h : okB x = true) : Fin32 x := by
  have := ok_rung h
  unfold Fin32; rw [F32_inf]; omega
theorem ok_in {x : Nat} (h : okB x = true) : inB x = true := by
  have h1 := ok_rung h
  have hf := ok_fin h
  have h3 := magOf_le F32 (r := rungOf F32 x) (s := 1166016512) (by omega)
  have e1 : rungOf F32 3313500160 = 1166016512 := by unfold rungOf; rw [F32_sw]
  have e2 : negOf F32 3313500160 = true := by unfold negOf; rw [F32_sw]; rfl
  have f1 : Fin32 3313500160 := by unfold Fin32; rw [e1, F32_inf]; decide
  have f2 : Fin32 1166016512 := fin_of_lt (by omega)
  have v1 : valOf F32 3313500160 = -(magOf F32 1166016512 : Int) := by unfold valOf; rw [e1, e2]; rfl
  have v2 := val_of_lt (x := 1166016512) (by omega)
  have hm : -(magOf F32 1166016512 : Int) ≤ valOf F32 x ∧ valOf F32 x ≤ (magOf F32 1166016512 : Int) := by
    unfold valOf
    split <;> omega
  unfold inB
  rw [order_fin F32 hf f1, order_fin F32 hf f2, v1, v2]
  simp only [cmp_eq, cmp_lt, cmp_gt]
  simp only [Bool.and_eq_true, Bool.or_eq_true, decide_eq_true_eq]
  omega
end Go.Proofs.Ytfdgijmmgllmgaa
namespace Go.Proofs.Ytfdgijmmgllmgaa
open Go.ChangeShapes Go.WideShapes Go.ChangeAt Go.RowKit Go.Joins 
set_option linter.unusedSimpArgs false
set_option linter.unusedVariables false
def isSymB (t : Int) : Bool := decide (0 ≤ t) && decide (t < 4)
theorem isSymB_yes {t : Int} (h : 0 ≤ t) (h' : t < 4) : isSymB t = true := by simp [isSymB, h, h']
theorem isSymB_neg {t : Int} (h : t < 0) : isSymB t = false := by simp [isSymB]; omega
theorem isSymB_big {t : Int} (h : 4 ≤ t) : isSymB t = false := by simp [isSymB]; omega
theorem isSym_i (t : Int) (f : Bool) (w : World) :
    Calls Try.prog 102 #[.agg #[.int .i64 t, .bool f]] w fun e w' => e = .returned (.bool (isSymB t)) ∧ Below w.heap.size w w' := by
  rcases (by omega : t < 0 ∨ (0 ≤ t ∧ t < 4) ∨ (0 ≤ t ∧ 4 ≤ t)) with h | ⟨h, h'⟩ | ⟨h, h'⟩
  · rw [isSymB_neg h]
    go_enter Try.func102, Try.ntmps102
    go_wp2
    go_returns
    exact ⟨rfl, by go_grown⟩
  · rw [isSymB_yes h h']
    go_enter Try.func102, Try.ntmps102
    go_wp2
    go_returns
    exact ⟨rfl, by go_grown⟩
  · rw [isSymB_big h']
    have h2 : decide (t < 4) = false := by simp; omega
    go_enter Try.func102, Try.ntmps102
    go_wp2
    go_returns
    exact ⟨rfl, by go_grown⟩
theorem isSymB_iff {t : Int} : isSymB t = true ↔ 0 ≤ t ∧ t < 4 := by simp [isSymB]
theorem isSymB_no {t : Int} (h : isSymB t = false) : t < 0 ∨ (0 ≤ t ∧ 4 ≤ t) := by
  simp [isSymB] at h
  omega
end Go.Proofs.Ytfdgijmmgllmgaa
namespace Go.Proofs.Ytfdgijmmgllmgaa
open Go.ChangeShapes Go.WideShapes Go.ChangeAt Go.RowKit Go.Joins
set_option linter.unusedSimpArgs false
set_option linter.unusedVariables false
set_option maxRecDepth 100000
attribute [local go_sem] store_f
open Ieee
theorem ng_clean {x : Nat} (h : Fin32 x) : ngB (cleanB x) = ngB x := by
  rw [clean_eq h]
  by_cases h0 : rungOf F32 x = 0
  · rw [if_pos h0]
    unfold ngB
    rw [if_pos h0, if_pos (rung_of_lt (by omega))]
  · rw [if_neg h0]
end Go.Proofs.Ytfdgijmmgllmgaa
namespace Go.Proofs.Ytfdgijmmgllmgaa
open Go.ChangeShapes Go.WideShapes Go.ChangeAt Go.RowKit Go.Joins
set_option linter.unusedSimpArgs false
set_option linter.unusedVariables false
set_option maxRecDepth 100000
attribute [local go_sem] store_f
open Ieee
structure ActM (t : Int) (f : Bool) (x y p q : Nat) : Prop where
  call : ∀ w : World, Calls Try.prog 104 #[.agg #[.int .i64 t, .bool f], .complex .f32 x y] w fun e w' => e = .returned (.complex .f32 p q) ∧ Below w.heap.size w w'
theorem act_of {t : Nat} (f : Bool) {x y : Nat} (ht : t < 4) (hx : okB x = true) (hy : okB y = true) :
    ActM t f x y (actV t f (cleanB x) (ngB (cleanB x)) (cleanB y) (ngB (cleanB y))).1 (actV t f (cleanB x) (ngB (cleanB x)) (cleanB y) (ngB (cleanB y))).2 := by
  rw [ng_clean (ok_fin hx), ng_clean (ok_fin hy)]
  exact ⟨fun w => actSym_i t f x y _ _ _ _ w ht (ok_in hx) (ok_in hy) (parts_of (ok_fin hx) (ok_lt hx)) (parts_of (ok_fin hy) (ok_lt hy))⟩
end Go.Proofs.Ytfdgijmmgllmgaa
namespace Go.Proofs.Ytfdgijmmgllmgaa
open Go.ChangeShapes Go.WideShapes Go.ChangeAt Go.RowKit Go.Joins
set_option linter.unusedSimpArgs false
set_option linter.unusedVariables false
set_option maxRecDepth 100000
attribute [local go_sem] store_f
open Ieee
def iw (z : Int) : Nat := floatOfInt .f32 z
theorem iw_all : ∀ m : Nat, m < 15 → okB (iw ((m : Int) - 7)) = true ∧ cleanB (iw ((m : Int) - 7)) = iw ((m : Int) - 7) ∧ ngB (iw ((m : Int) - 7)) = iw (7 - (m : Int)) ∧ floatToIntVal .f32 (iw ((m : Int) - 7)) .i64 = some ((m : Int) - 7) := by decide +kernel
theorem iw_of {z : Int} (h1 : -7 ≤ z) (h2 : z ≤ 7) : okB (iw z) = true ∧ cleanB (iw z) = iw z ∧ ngB (iw z) = iw (-z) ∧ floatToIntVal .f32 (iw z) .i64 = some z := by
  have h := iw_all (z + 7).toNat (by omega)
  have e : (((z + 7).toNat : Nat) : Int) - 7 = z := by omega
  have e2 : 7 - (((z + 7).toNat : Nat) : Int) = -z := by omega
  rw [e, e2] at h
  exact h
def actN : Nat → Bool → Int → Int → Int × Int
  | 0, false, x, y => (x, y)
  | 0, true, x, y => (x, -y)
  | 1, false, x, y => (-y, x)
  | 1, true, x, y => (y, x)
  | 2, false, x, y => (-x, -y)
  | 2, true, x, y => (-x, y)
  | _, false, x, y => (y, -x)
  | _, true, x, y => (-y, -x)
def plX (n k : Nat) : Int := 2 * (k % n : Nat) + 1 - n
def plY (n k : Nat) : Int := n - 1 - 2 * (k / n : Nat)
def cellOf (n : Nat) (x y : Int) : Nat := (((n : Int) - 1 - y) / 2).toNat * n + ((x + n - 1) / 2).toNat
def cellN (n t : Nat) (f : Bool) (k : Nat) : Nat := cellOf n (actN t f (plX n k) (plY n k)).1 (actN t f (plX n k) (plY n k)).2
theorem pl_bd {n k : Nat} (h1 : 1 ≤ n) (hk : k < n * n) : (-((n : Int) - 1) ≤ plX n k ∧ plX n k ≤ (n : Int) - 1) ∧ (-((n : Int) - 1) ≤ plY n k ∧ plY n k ≤ (n : Int) - 1) := by
  have a := Nat.mod_lt k (show 0 < n by omega)
  have b : k / n < n := (Nat.div_lt_iff_lt_mul (by omega)).2 hk
  unfold plX plY
  generalize k % n = u at *
  generalize k / n = v at *
  omega
def cellFacts (n t : Nat) (f : Bool) (k : Nat) : Bool :=
  let c := cellN n t f k
  decide (c < n * n) && decide (plX n c = (actN t f (plX n k) (plY n k)).1) && decide (plY n c = (actN t f (plX n k) (plY n k)).2) && decide (cellN n 0 false k = k)
def cellsAll : Bool := (List.range 9).all fun n => (List.range (n * n)).all fun k => (List.range 4).all fun t => cellFacts n t false k && cellFacts n t true k
theorem cells_all : cellsAll = true := by decide +kernel
theorem cell_facts {n k t : Nat} {f : Bool} (h8 : n ≤ 8) (hk : k < n * n) (ht : t < 4) : cellFacts n t f k = true := by
  have h := cells_all
  unfold cellsAll at h
  have h2 := List.all_eq_true.1 h n (List.mem_range.2 (by omega))
  have h3 := List.all_eq_true.1 h2 k (List.mem_range.2 hk)
  have h4 := List.all_eq_true.1 h3 t (List.mem_range.2 ht)
  rw [Bool.and_eq_true] at h4
  cases f
  · exact h4.1
  · exact h4.2
theorem cell_lt' {n k t : Nat} {f : Bool} (h8 : n ≤ 8) (hk : k < n * n) (ht : t < 4) : cellN n t f k < n * n := by
  have h := cell_facts (f := f) h8 hk ht
  simp only [cellFacts, Bool.and_eq_true, decide_eq_true_eq] at h
  exact h.1.1.1
theorem cell_place {n k t : Nat} {f : Bool} (h8 : n ≤ 8) (hk : k < n * n) (ht : t < 4) : plX n (cellN n t f k) = (actN t f (plX n k) (plY n k)).1 ∧ plY n (cellN n t f k) = (actN t f (plX n k) (plY n k)).2 := by
  have h := cell_facts (f := f) h8 hk ht
  simp only [cellFacts, Bool.and_eq_true, decide_eq_true_eq] at h
  exact ⟨h.1.1.2, h.1.2⟩
theorem act_place {n k t : Nat} (f : Bool) (h1 : 1 ≤ n) (h8 : n ≤ 8) (hk : k < n * n) (ht : t < 4) :
    ActM t f (iw (plX n k)) (iw (plY n k)) (iw (plX n (cellN n t f k))) (iw (plY n (cellN n t f k))) := by
  obtain ⟨bx, b_y⟩ := pl_bd h1 hk
  obtain ⟨e1, e2⟩ := cell_place (f := f) h8 hk ht
  obtain ⟨o1, c1, n1, _⟩ := iw_of (z := plX n k) (by omega) (by omega)
  obtain ⟨o2, c2, n2, _⟩ := iw_of (z := plY n k) (by omega) (by omega)
  have A := act_of f ht o1 o2
  rw [c1, c2, n1, n2] at A
  have e : actV t f (iw (plX n k)) (iw (-plX n k)) (iw (plY n k)) (iw (-plY n k)) = (iw (actN t f (plX n k) (plY n k)).1, iw (actN t f (plX n k) (plY n k)).2) := by
    rcases (by omega : t = 0 ∨ t = 1 ∨ t = 2 ∨ t = 3) with rfl | rfl | rfl | rfl <;> cases f <;> rfl
  rw [e] at A
  rw [e1, e2]
  exact A
end Go.Proofs.Ytfdgijmmgllmgaa
namespace Go.Proofs.Ytfdgijmmgllmgaa
open Go.ChangeShapes Go.WideShapes Go.ChangeAt Go.RowKit Go.Joins
section
variable {H : Type} {enc : TypeId × Value → H} {W : World} {base : Nat} {spare : Nat → Bool} {held : Bool} {v : Value} {d : DataW H} {p : List MemPlace}
def colV (r g b : Nat) : Value := .agg #[.float .f32 r, .float .f32 g, .float .f32 b]
end
end Go.Proofs.Ytfdgijmmgllmgaa
namespace Go.Proofs.Ytfdgijmmgllmgaa
open Go.ChangeShapes Go.WideShapes Go.ChangeAt Go.RowKit Go.Joins
set_option linter.unusedSimpArgs false
set_option linter.unusedVariables false
set_option maxRecDepth 100000
attribute [local go_sem] store_f
def shareB (x : Nat) : Bool := (FloatKind.f32.format.order x 0 == some .gt || FloatKind.f32.format.order x 0 == some .eq) && (FloatKind.f32.format.order x 1065353216 == some .lt || FloatKind.f32.format.order x 1065353216 == some .eq)
theorem isShare_i (x : Nat) (w : World) :
    Calls Try.prog 98 #[.float .f32 x] w fun e w' => e = .returned (.bool (shareB x)) ∧ w' = w := by
  go_enter Try.func98, Try.ntmps98
  go_wp2
  all_goals (go_ret; exact ⟨by simp_all [shareB], rfl⟩)
theorem differenceOf_i (a b r : Nat) (w : World) (h : FloatKind.f32.format.sub a b = some r) :
    Calls Try.prog 107 #[.float .f32 a, .float .f32 b] w fun e w' => e = .returned (.float .f32 (setB r)) ∧ w' = w := by
  have hop := fun t w => run_float_arith (P := Try.prog) w .sub t .f32 a b r h
  go_enter Try.func107, Try.ntmps107
  go_wp2_with (first | (simp only [hop]) | (go_at_call 131; refine (settle_i _ _).mono ?_; rintro e w1 ⟨rfl, rfl⟩))
  all_goals (go_ret; exact ⟨rfl, rfl⟩)
theorem l1Clean_s (x : Nat) (w : World) (h : FloatKind.f32.format.sub x x = some 0) :
    Calls Try.prog 134 #[.float .f32 x] w fun e w' => e = .returned (.float .f32 (cleanB x)) ∧ w' = w := by
  have hop := fun t w => run_float_arith (P := Try.prog) w .sub t .f32 x x 0 h
  have h0 : FloatKind.f32.format.order 0 0 = some .eq := by kernel_rfl
  go_enter Try.func134, Try.ntmps134
  go_wp2_with (simp only [hop])
  all_goals (go_ret; exact ⟨by simp_all [cleanB], rfl⟩)
theorem l1Plus_s (a b r : Nat) (w : World) (h : FloatKind.f32.format.add a b = some r) (h0 : FloatKind.f32.format.sub r r = some 0) :
    Calls Try.prog 149 #[.float .f32 a, .float .f32 b] w fun e w' => e = .returned (.float .f32 (cleanB r)) ∧ w' = w := by
  have hop := fun t w => run_float_arith (P := Try.prog) w .add t .f32 a b r h
  have H0 : Hid (FloatKind.f32.format.sub r r = some 0) := h0
  clear h0
  go_enter Try.func149, Try.ntmps149
  go_wp2_with (first | (simp only [hop]) | (go_at_call 134; refine (l1Clean_s _ _ H0.out).mono ?_; rintro e w1 ⟨rfl, rfl⟩))
  all_goals (go_ret; exact ⟨rfl, rfl⟩)
theorem l1Minus_s (a b r : Nat) (w : World) (h : FloatKind.f32.format.sub a b = some r) (h0 : FloatKind.f32.format.sub r r = some 0) :
    Calls Try.prog 150 #[.float .f32 a, .float .f32 b] w fun e w' => e = .returned (.float .f32 (cleanB r)) ∧ w' = w := by
  have hop := fun t w => run_float_arith (P := Try.prog) w .sub t .f32 a b r h
  have H0 : Hid (FloatKind.f32.format.sub r r = some 0) := h0
  clear h0
  go_enter Try.func150, Try.ntmps150
  go_wp2_with (first | (simp only [hop]) | (go_at_call 134; refine (l1Clean_s _ _ H0.out).mono ?_; rintro e w1 ⟨rfl, rfl⟩))
  all_goals (go_ret; exact ⟨rfl, rfl⟩)
end Go.Proofs.Ytfdgijmmgllmgaa
namespace Go.Proofs.Ytfdgijmmgllmgaa
open Go.ChangeShapes Go.WideShapes Go.ChangeAt Go.RowKit Go.Joins
set_option linter.unusedSimpArgs false
set_option linter.unusedVariables false
set_option maxRecDepth 100000
attribute [local go_sem] store_f
open Ieee
attribute [local go_sem] store_c
theorem iw_ops : ∀ m : Nat, m < 15 → F32.add (iw ((m : Int) - 7)) 0 = some (iw ((m : Int) - 7)) ∧ F32.sub 0 (iw ((m : Int) - 7)) = some (iw (7 - (m : Int))) ∧ F32.sub (iw ((m : Int) - 7)) (iw ((m : Int) - 7)) = some 0 := by decide +kernel
theorem iw_op {z : Int} (h1 : -7 ≤ z) (h2 : z ≤ 7) : F32.add (iw z) 0 = some (iw z) ∧ F32.sub 0 (iw z) = some (iw (-z)) ∧ F32.sub (iw z) (iw z) = some 0 := by
  have h := iw_ops (z + 7).toNat (by omega)
  have e : (((z + 7).toNat : Nat) : Int) - 7 = z := by omega
  have e2 : 7 - (((z + 7).toNat : Nat) : Int) = -z := by omega
  rw [e, e2] at h
  exact h
structure PlusI (z : Int) : Prop where
  call : ∀ w : World, Calls Try.prog 149 #[.float .f32 (iw z), .float .f32 0] w fun e w' => e = .returned (.float .f32 (iw z)) ∧ w' = w
structure MinusI (z : Int) : Prop where
  call : ∀ w : World, Calls Try.prog 150 #[.float .f32 0, .float .f32 (iw z)] w fun e w' => e = .returned (.float .f32 (iw (-z))) ∧ w' = w
theorem plusI {z : Int} (h1 : -7 ≤ z) (h2 : z ≤ 7) : PlusI z := ⟨fun w => by
  have h := l1Plus_s (iw z) 0 (iw z) w (iw_op h1 h2).1 (iw_op h1 h2).2.2
  rwa [(iw_of h1 h2).2.1] at h⟩
theorem minusI {z : Int} (h1 : -7 ≤ z) (h2 : z ≤ 7) : MinusI z := ⟨fun w => by
  have h := l1Minus_s 0 (iw z) (iw (-z)) w (iw_op h1 h2).2.1 (iw_op (z := -z) (by omega) (by omega)).2.2
  rwa [(iw_of (z := -z) (by omega) (by omega)).2.1] at h⟩
def rotN : Nat → Int × Int → Int × Int
  | 0, p => p
  | n + 1, p => (-(rotN n p).2, (rotN n p).1)
theorem rotN_bd (n : Nat) {p : Int × Int} (hx : -7 ≤ p.1 ∧ p.1 ≤ 7) (hy : -7 ≤ p.2 ∧ p.2 ≤ 7) : (-7 ≤ (rotN n p).1 ∧ (rotN n p).1 ≤ 7) ∧ (-7 ≤ (rotN n p).2 ∧ (rotN n p).2 ≤ 7) := by
  induction n with
  | zero => exact ⟨hx, hy⟩
  | succ n ih => obtain ⟨a, b⟩ := ih; refine ⟨?_, a⟩; show -7 ≤ -(rotN n p).2 ∧ -(rotN n p).2 ≤ 7; omega
theorem rotN_act (t : Nat) (f : Bool) (ht : t < 4) (x y : Int) : rotN t (x, if f then -y else y) = actN t f x y := by
  rcases (by omega : t = 0 ∨ t = 1 ∨ t = 2 ∨ t = 3) with rfl | rfl | rfl | rfl <;> cases f <;> simp [rotN, actN]
structure ActS (t : Int) (f : Bool) (x y p q : Nat) : Prop where
  call : ∀ w : World, Calls Try.prog 143 #[.agg #[.int .i64 t, .bool f], .complex .f32 x y] w fun e w' => e = .returned (.complex .f32 p q) ∧ Below w.heap.size w w'
set_option maxHeartbeats 4000000 in
theorem actS {t : Nat} (f : Bool) {x y : Int} (ht : t < 4) (hx : -7 ≤ x ∧ x ≤ 7) (hy : -7 ≤ y ∧ y ≤ 7) : ActS t f (iw x) (iw y) (iw (actN t f x y).1) (iw (actN t f x y).2) := ⟨fun w => by
  have PX := plusI hx.1 hx.2
  have PY := plusI hy.1 hy.2
  have MY := minusI hy.1 hy.2
  rw [← rotN_act t f ht]
  have hb := fun j => rotN_bd j (p := (x, if f then -y else y)) hx (by cases f <;> simp <;> omega)
  have HM : Hid (∀ j, MinusI (rotN j (x, if f then -y else y)).2) := fun j => minusI (hb j).2.1 (hb j).2.2
  have HS : Hid (∀ j, (rotN (j + 1) (x, if f then -y else y)).1 = -(rotN j (x, if f then -y else y)).2 ∧ (rotN (j + 1) (x, if f then -y else y)).2 = (rotN j (x, if f then -y else y)).1) := fun j => ⟨rfl, rfl⟩
  have H0 : Hid (rotN 0 (x, if f then -y else y) = (x, if f then -y else y)) := rfl
  clear hb
  generalize hR : (fun j => rotN j (x, if f then -y else y)) = R
  have HM' : Hid (∀ j, MinusI (R j).2) := by rw [← hR]; exact HM.out
  have HS' : Hid (∀ j, (R (j + 1)).1 = -(R j).2 ∧ (R (j + 1)).2 = (R j).1) := by rw [← hR]; exact HS.out
  have H0' : Hid (R 0 = (x, if f then -y else y)) := by rw [← hR]; exact H0.out
  have HE : rotN t (x, if f then -y else y) = R t := by rw [← hR]
  rw [HE]
  clear HM HS H0 HE hR hx hy
  have H1 : Hid ((R 0).1 = x ∧ (R 0).2 = if f then -y else y) := by
    have h := H0'.out
    exact ⟨by rw [h], by rw [h]⟩
  clear H0'
  cases f
  all_goals
    simp only [Bool.false_eq_true, if_true, if_false] at H1
    go_enter Try.func143, Try.ntmps143
    go_wp2_with (first | (go_at_call 149; (first | (with_reducible refine (PX.call _).mono ?_) | (with_reducible refine (PY.call _).mono ?_)); rintro e w1 ⟨rfl, rfl⟩) | (go_at_call 150; (with_reducible refine (MY.call _).mono ?_); rintro e w1 ⟨rfl, rfl⟩))
    go_loop [5, 6, 7] (fun u v i => ∃ j : Nat, j ≤ t ∧ i = .int .i64 j ∧ u = .float .f32 (iw (R j).1) ∧ v = .float .f32 (iw (R j).2)) (fun _ _ i => t - (intOf i).toNat)
    case atStart => exact ⟨0, by omega, rfl, by rw [H1.out.1], by rw [H1.out.2]⟩
    case round =>
      obtain ⟨j, hj, rfl, rfl, rfl⟩ := hrel
      have M := HM'.out j
      have S1 : Hid ((R (j + 1)).1 = -(R j).2) := (HS'.out j).1
      have S2 : Hid ((R (j + 1)).2 = (R j).1) := (HS'.out j).2
      by_cases hlt : j < t
      · go_wp2_with (go_at_call 150; (with_reducible refine (M.call _).mono ?_); rintro e w1 ⟨rfl, rfl⟩)
        go_round
        case rel => exact ⟨j + 1, by omega, by go_num, by rw [S1.out], by rw [S2.out]⟩
        case measure => simp [intOf]; omega
      · obtain rfl : j = t := by omega
        go_wp2
        go_ret
        exact ⟨rfl, by (repeat' (first | (with_reducible exact Below.refl _ _) | (with_reducible assumption) | (with_reducible refine Below.alloc ?_ ?_ _) | (with_reducible refine Below.drew ?_) | (with_reducible refine Below.setCell ?_ ?_ _) | (with_reducible refine Below.trans ?_ (Below.mono (by assumption) ?_)) | (with_reducible exact Nat.le_refl _) | omega | (simp only [World.size_alloc, World.size_setCell, World.size_drew]; omega) | (simp; omega) | (simp; done)))⟩⟩
end Go.Proofs.Ytfdgijmmgllmgaa
namespace Go.Proofs.Ytfdgijmmgllmgaa
open Go.ChangeShapes Go.WideShapes Go.ChangeAt Go.RowKit Go.Joins
set_option linter.unusedSimpArgs false
set_option linter.unusedVariables false
set_option maxRecDepth 100000
attribute [local go_sem] store_f
open Ieee
attribute [local go_sem] store_c
def sizeB (n : Int) : Bool := decide (1 ≤ n ∧ n ≤ 8)
theorem isSize_i (n : Int) (w : World) : Calls Try.prog 62 #[.int .i64 n] w fun e w' => e = .returned (.bool (sizeB n)) ∧ w' = w := by
  by_cases h1 : 1 ≤ n
  · by_cases h2 : n ≤ 8
    · have e : sizeB n = true := by unfold sizeB; simp; omega
      rw [e]
      go_enter Try.func62, Try.ntmps62
      go_wp2
      go_ret
      exact ⟨rfl, rfl⟩
    · have e : sizeB n = false := by unfold sizeB; simp; omega
      rw [e]
      have hd : decide (n ≤ 8) = false := by simpa using h2
      go_enter Try.func62, Try.ntmps62
      go_wp2
      go_ret
      exact ⟨rfl, rfl⟩
  · have e : sizeB n = false := by unfold sizeB; simp; omega
    rw [e]
    have hd : decide (1 ≤ n) = false := by simpa using h1
    go_enter Try.func62, Try.ntmps62
    go_wp2
    go_ret
    exact ⟨rfl, rfl⟩
structure CellPl (n k : Int) (x y : Nat) (b : Bool) : Prop where
  call : ∀ w : World, Calls Try.prog 101 #[.int .i64 n, .int .i64 k] w fun e w' => e = .returned (.tuple #[.complex .f32 x y, .bool b]) ∧ Below w.heap.size w w'
set_option maxHeartbeats 4000000 in
theorem cellPl_yes {n k : Nat} (h1 : 1 ≤ n) (h8 : n ≤ 8) (hk : k < n * n) : CellPl n k (iw (plX n k)) (iw (plY n k)) true := ⟨fun w => by
  unfold plX plY iw
  rcases (by omega : n = 1 ∨ n = 2 ∨ n = 3 ∨ n = 4 ∨ n = 5 ∨ n = 6 ∨ n = 7 ∨ n = 8) with rfl | rfl | rfl | rfl | rfl | rfl | rfl | rfl
  all_goals
    go_enter Try.func101, Try.ntmps101
    go_wp2
    go_quiet (fail)
    go_wp2
    go_ret2
    exact ⟨by simp, below_draws _ _ _⟩⟩
theorem size_cases {n : Int} (h : sizeB n = true) : ∃ m : Nat, n = m ∧ 1 ≤ m ∧ m ≤ 8 := by
  unfold sizeB at h
  simp at h
  exact ⟨n.toNat, by omega, by omega, by omega⟩
theorem cellAt_i {n : Nat} {x y : Int} (h1 : 1 ≤ n) (h8 : n ≤ 8) (hx : -((n : Int) - 1) ≤ x ∧ x ≤ (n : Int) - 1) (hy : -((n : Int) - 1) ≤ y ∧ y ≤ (n : Int) - 1) (w : World) :
    Calls Try.prog 103 #[.int .i64 n, .complex .f32 (iw x) (iw y)] w fun e w' => e = .returned (.int .i64 (cellOf n x y : Nat)) ∧ w' = w := by
  have hcx := fun w => run_convert_float_int (P := Try.prog) w 30 3 .f32 .i64 (iw x) x (by rw [Try.underlying30]; rfl) Try.underlying3 (iw_of (z := x) (by omega) (by omega)).2.2.2
  have hcy := fun w => run_convert_float_int (P := Try.prog) w 30 3 .f32 .i64 (iw y) y (by rw [Try.underlying30]; rfl) Try.underlying3 (iw_of (z := y) (by omega) (by omega)).2.2.2
  unfold cellOf
  generalize iw x = a at *
  generalize iw y = b at *
  rcases (by omega : n = 1 ∨ n = 2 ∨ n = 3 ∨ n = 4 ∨ n = 5 ∨ n = 6 ∨ n = 7 ∨ n = 8) with rfl | rfl | rfl | rfl | rfl | rfl | rfl | rfl
  · obtain rfl : x = 0 := by omega
    obtain rfl : y = 0 := by omega
    go_enter Try.func103, Try.ntmps103
    go_wp2_with (first | simp only [hcx] | simp only [hcy])
    go_ret
    exact ⟨by first | rfl | (simp; done), rfl⟩
  all_goals
    go_enter Try.func103, Try.ntmps103
    go_wp2_with (first | simp only [hcx] | simp only [hcy])
    go_ret
    exact ⟨by first | (congr 2; omega) | (simp; omega), rfl⟩
structure CellM (n k t : Int) (f : Bool) (c : Int) : Prop where
  call : ∀ w : World, Calls Try.prog 65 #[.int .i64 n, .int .i64 k, .agg #[.int .i64 t, .bool f]] w fun e w' => e = .returned (.int .i64 c) ∧ Below w.heap.size w w'
structure CellAt (n : Nat) (x y : Nat) (c : Nat) : Prop where
  call : ∀ w : World, Calls Try.prog 103 #[.int .i64 n, .complex .f32 x y] w fun e w' => e = .returned (.int .i64 c) ∧ w' = w
theorem cellM_of {n k : Nat} {t : Nat} {f : Bool} {x y p q c : Nat} (ht : t < 4) (P : CellPl n k x y true) (A : ActM t f x y p q) (C : CellAt n p q c) : CellM n k t f c := ⟨fun w => by
  go_enter Try.func65, Try.ntmps65
  go_wp2_with (first | (go_at_call 101; refine (P.call _).mono ?_; rintro e w1 ⟨rfl, hb⟩; obtain ⟨hc, hf⟩ := bcell hb; have HL := keepL (by (repeat (first | (with_reducible assumption) | (with_reducible apply AllLt.alloc) | (with_reducible apply AllLt.setCell) | (with_reducible apply AllLt.drew) | (with_reducible exact AllLt.nil _)))) hb; have hq := HL; simp only [AllLt, and_true, World.size_alloc, World.size_setCell, World.size_drew] at hq; have hbs := hb.size; try simp only [World.size_alloc, World.size_setCell, World.size_drew] at hbs) | (go_at_call 102; refine (isSym_yes _ _ _ (by omega) (by omega)).mono ?_; rintro e w1 ⟨rfl, hb⟩; obtain ⟨hc, hf⟩ := bcell hb; have HL := keepL (by (repeat (first | (with_reducible assumption) | (with_reducible apply AllLt.alloc) | (with_reducible apply AllLt.setCell) | (with_reducible apply AllLt.drew) | (with_reducible exact AllLt.nil _)))) hb; have hq := HL; simp only [AllLt, and_true, World.size_alloc, World.size_setCell, World.size_drew] at hq; have hbs := hb.size; try simp only [World.size_alloc, World.size_setCell, World.size_drew] at hbs) | (go_at_call 104; refine (A.call _).mono ?_; rintro e w1 ⟨rfl, hb⟩; obtain ⟨hc, hf⟩ := bcell hb; have HL := keepL (by (repeat (first | (with_reducible assumption) | (with_reducible apply AllLt.alloc) | (with_reducible apply AllLt.setCell) | (with_reducible apply AllLt.drew) | (with_reducible exact AllLt.nil _)))) hb; have hq := HL; simp only [AllLt, and_true, World.size_alloc, World.size_setCell, World.size_drew] at hq; have hbs := hb.size; try simp only [World.size_alloc, World.size_setCell, World.size_drew] at hbs) | (go_at_call 103; refine (C.call _).mono ?_; rintro e w3 ⟨rfl, rfl⟩))
  go_ret
  exact ⟨rfl, by (repeat' (first | (with_reducible exact Below.refl _ _) | (with_reducible assumption) | (with_reducible refine Below.alloc ?_ ?_ _) | (with_reducible refine Below.drew ?_) | (with_reducible refine Below.setCell ?_ ?_ _) | (with_reducible refine Below.trans ?_ (Below.mono (by assumption) ?_)) | (with_reducible exact Nat.le_refl _) | omega | (simp only [World.size_alloc, World.size_setCell, World.size_drew]; omega) | (simp; omega) | (simp; done)))⟩⟩
theorem cellM_yes {n k t : Nat} (f : Bool) (h1 : 1 ≤ n) (h8 : n ≤ 8) (hk : k < n * n) (ht : t < 4) : CellM n k t f (cellN n t f k : Nat) := by
  obtain ⟨b1, b2⟩ := pl_bd h1 (cell_lt' (f := f) h8 hk ht)
  refine cellM_of ht (cellPl_yes h1 h8 hk) (act_place f h1 h8 hk ht) ⟨fun w => ?_⟩
  have h := cellAt_i h1 h8 b1 b2 w
  obtain ⟨e1, e2⟩ := cell_place (f := f) h8 hk ht
  rw [e1, e2] at h ⊢
  exact h
end Go.Proofs.Ytfdgijmmgllmgaa
namespace Go.Proofs.Ytfdgijmmgllmgaa
open Go.ChangeShapes Go.WideShapes Go.ChangeAt Go.RowKit Go.Joins 
set_option linter.unusedSimpArgs false
set_option linter.unusedVariables false
def ofB (kind t : Int) (f : Bool) : Bool :=
  isSymB t && (if kind = 0 then t == 0 && !f else if kind = 1 then t == 0 else if kind = 2 then t % 2 == 0 else kind == 3)
theorem symAt_i (k : Nat) (w : World) (hk : k < 8) :
    Calls Try.prog 99 #[.int .i64 k] w fun e w' => e = .returned (.agg #[.int .i64 ((k : Int) % 4), .bool (decide (4 ≤ (k : Int)))]) ∧ Below w.heap.size w w' := by
  go_enter Try.func99, Try.ntmps99
  go_wp2
  go_returns; exact ⟨by first | rfl | (simp; omega), by (repeat' (first | (with_reducible exact Below.refl _ _) | (with_reducible assumption) | (with_reducible refine Below.alloc ?_ ?_ _) | (with_reducible refine Below.drew ?_) | (with_reducible refine Below.setCell ?_ ?_ _) | (with_reducible refine Below.trans ?_ (Below.mono (by assumption) ?_)) | (with_reducible exact Nat.le_refl _) | omega | (simp only [World.size_alloc, World.size_setCell, World.size_drew]; omega) | (simp; omega) | (simp; done)))⟩
theorem isSymOf_i (kind t : Int) (f : Bool) (w : World) :
    Calls Try.prog 100 #[.int .i64 kind, .agg #[.int .i64 t, .bool f]] w fun e w' => e = .returned (.bool (ofB kind t f)) ∧ Below w.heap.size w w' := by
  by_cases ht : isSymB t = true
  · obtain ⟨h1, h2⟩ := isSymB_iff.1 ht
    by_cases k0 : kind = 0
    · subst k0
      by_cases t0 : t = 0
      · subst t0
        have e : ofB 0 0 f = !f := by simp [ofB, isSymB]
        rw [e]
        cases f
        all_goals
          go_enter Try.func100, Try.ntmps100
          go_wp2_with (first | (go_at_call 102; refine (isSym_i _ _ _).mono ?_; rintro e w1 ⟨rfl, hb⟩; obtain ⟨hc, hf⟩ := bcell hb; have HL := keepL (by (repeat (first | (with_reducible assumption) | (with_reducible apply AllLt.alloc) | (with_reducible apply AllLt.setCell) | (with_reducible apply AllLt.drew) | (with_reducible exact AllLt.nil _)))) hb; have hq := HL; simp only [AllLt, and_true, World.size_alloc, World.size_setCell, World.size_drew] at hq; have hbs := hb.size; try simp only [World.size_alloc, World.size_setCell, World.size_drew] at hbs))
          go_returns; exact ⟨rfl, by (repeat' (first | (with_reducible exact Below.refl _ _) | (with_reducible assumption) | (with_reducible refine Below.alloc ?_ ?_ _) | (with_reducible refine Below.drew ?_) | (with_reducible refine Below.setCell ?_ ?_ _) | (with_reducible refine Below.trans ?_ (Below.mono (by assumption) ?_)) | (with_reducible exact Nat.le_refl _) | omega | (simp only [World.size_alloc, World.size_setCell, World.size_drew]; omega) | (simp; omega) | (simp; done)))⟩
      · have e : ofB 0 t f = false := by simp [ofB, t0]
        rw [e]
        have t1 : (t == 0) = false := by simpa using t0
        cases f
        all_goals
          go_enter Try.func100, Try.ntmps100
          go_wp2_with (first | (go_at_call 102; refine (isSym_i _ _ _).mono ?_; rintro e w1 ⟨rfl, hb⟩; obtain ⟨hc, hf⟩ := bcell hb; have HL := keepL (by (repeat (first | (with_reducible assumption) | (with_reducible apply AllLt.alloc) | (with_reducible apply AllLt.setCell) | (with_reducible apply AllLt.drew) | (with_reducible exact AllLt.nil _)))) hb; have hq := HL; simp only [AllLt, and_true, World.size_alloc, World.size_setCell, World.size_drew] at hq; have hbs := hb.size; try simp only [World.size_alloc, World.size_setCell, World.size_drew] at hbs))
          go_returns; exact ⟨rfl, by (repeat' (first | (with_reducible exact Below.refl _ _) | (with_reducible assumption) | (with_reducible refine Below.alloc ?_ ?_ _) | (with_reducible refine Below.drew ?_) | (with_reducible refine Below.setCell ?_ ?_ _) | (with_reducible refine Below.trans ?_ (Below.mono (by assumption) ?_)) | (with_reducible exact Nat.le_refl _) | omega | (simp only [World.size_alloc, World.size_setCell, World.size_drew]; omega) | (simp; omega) | (simp; done)))⟩
    · by_cases k1 : kind = 1
      · subst k1
        have e : ofB 1 t f = (t == 0) := by simp [ofB, ht]
        rw [e]
        go_enter Try.func100, Try.ntmps100
        go_wp2_with (first | (go_at_call 102; refine (isSym_i _ _ _).mono ?_; rintro e w1 ⟨rfl, hb⟩; obtain ⟨hc, hf⟩ := bcell hb; have HL := keepL (by (repeat (first | (with_reducible assumption) | (with_reducible apply AllLt.alloc) | (with_reducible apply AllLt.setCell) | (with_reducible apply AllLt.drew) | (with_reducible exact AllLt.nil _)))) hb; have hq := HL; simp only [AllLt, and_true, World.size_alloc, World.size_setCell, World.size_drew] at hq; have hbs := hb.size; try simp only [World.size_alloc, World.size_setCell, World.size_drew] at hbs))
        go_returns; exact ⟨rfl, by (repeat' (first | (with_reducible exact Below.refl _ _) | (with_reducible assumption) | (with_reducible refine Below.alloc ?_ ?_ _) | (with_reducible refine Below.drew ?_) | (with_reducible refine Below.setCell ?_ ?_ _) | (with_reducible refine Below.trans ?_ (Below.mono (by assumption) ?_)) | (with_reducible exact Nat.le_refl _) | omega | (simp only [World.size_alloc, World.size_setCell, World.size_drew]; omega) | (simp; omega) | (simp; done)))⟩
      · by_cases k2 : kind = 2
        · subst k2
          have e : ofB 2 t f = (t % 2 == 0) := by simp [ofB, ht]
          rw [e]
          go_enter Try.func100, Try.ntmps100
          go_wp2_with (first | (go_at_call 102; refine (isSym_i _ _ _).mono ?_; rintro e w1 ⟨rfl, hb⟩; obtain ⟨hc, hf⟩ := bcell hb; have HL := keepL (by (repeat (first | (with_reducible assumption) | (with_reducible apply AllLt.alloc) | (with_reducible apply AllLt.setCell) | (with_reducible apply AllLt.drew) | (with_reducible exact AllLt.nil _)))) hb; have hq := HL; simp only [AllLt, and_true, World.size_alloc, World.size_setCell, World.size_drew] at hq; have hbs := hb.size; try simp only [World.size_alloc, World.size_setCell, World.size_drew] at hbs))
          go_returns; exact ⟨rfl, by (repeat' (first | (with_reducible exact Below.refl _ _) | (with_reducible assumption) | (with_reducible refine Below.alloc ?_ ?_ _) | (with_reducible refine Below.drew ?_) | (with_reducible refine Below.setCell ?_ ?_ _) | (with_reducible refine Below.trans ?_ (Below.mono (by assumption) ?_)) | (with_reducible exact Nat.le_refl _) | omega | (simp only [World.size_alloc, World.size_setCell, World.size_drew]; omega) | (simp; omega) | (simp; done)))⟩
        · by_cases k3 : kind = 3
          · subst k3
            have e : ofB 3 t f = true := by simp [ofB, ht]
            rw [e]
            go_enter Try.func100, Try.ntmps100
            go_wp2_with (first | (go_at_call 102; refine (isSym_i _ _ _).mono ?_; rintro e w1 ⟨rfl, hb⟩; obtain ⟨hc, hf⟩ := bcell hb; have HL := keepL (by (repeat (first | (with_reducible assumption) | (with_reducible apply AllLt.alloc) | (with_reducible apply AllLt.setCell) | (with_reducible apply AllLt.drew) | (with_reducible exact AllLt.nil _)))) hb; have hq := HL; simp only [AllLt, and_true, World.size_alloc, World.size_setCell, World.size_drew] at hq; have hbs := hb.size; try simp only [World.size_alloc, World.size_setCell, World.size_drew] at hbs))
            go_returns; exact ⟨rfl, by (repeat' (first | (with_reducible exact Below.refl _ _) | (with_reducible assumption) | (with_reducible refine Below.alloc ?_ ?_ _) | (with_reducible refine Below.drew ?_) | (with_reducible refine Below.setCell ?_ ?_ _) | (with_reducible refine Below.trans ?_ (Below.mono (by assumption) ?_)) | (with_reducible exact Nat.le_refl _) | omega | (simp only [World.size_alloc, World.size_setCell, World.size_drew]; omega) | (simp; omega) | (simp; done)))⟩
          · have e : ofB kind t f = false := by simp [ofB, k0, k1, k2, k3]
            rw [e]
            clear e
            have q0 : (kind == 0) = false := by simpa using k0
            have q1 : (kind == 1) = false := by simpa using k1
            have q2 : (kind == 2) = false := by simpa using k2
            have q3 : (kind == 3) = false := by simpa using k3
            clear k0 k1 k2 k3
            go_enter Try.func100, Try.ntmps100
            go_wp2_with (first | (go_at_call 102; refine (isSym_i _ _ _).mono ?_; rintro e w1 ⟨rfl, hb⟩; obtain ⟨hc, hf⟩ := bcell hb; have HL := keepL (by (repeat (first | (with_reducible assumption) | (with_reducible apply AllLt.alloc) | (with_reducible apply AllLt.setCell) | (with_reducible apply AllLt.drew) | (with_reducible exact AllLt.nil _)))) hb; have hq := HL; simp only [AllLt, and_true, World.size_alloc, World.size_setCell, World.size_drew] at hq; have hbs := hb.size; try simp only [World.size_alloc, World.size_setCell, World.size_drew] at hbs))
            go_returns; exact ⟨rfl, by (repeat' (first | (with_reducible exact Below.refl _ _) | (with_reducible assumption) | (with_reducible refine Below.alloc ?_ ?_ _) | (with_reducible refine Below.drew ?_) | (with_reducible refine Below.setCell ?_ ?_ _) | (with_reducible refine Below.trans ?_ (Below.mono (by assumption) ?_)) | (with_reducible exact Nat.le_refl _) | omega | (simp only [World.size_alloc, World.size_setCell, World.size_drew]; omega) | (simp; omega) | (simp; done)))⟩
  · have e : ofB kind t f = false := by simp [ofB, ht]
    rw [e]
    go_enter Try.func100, Try.ntmps100
    go_wp2_with (first | (go_at_call 102; refine (isSym_i _ _ _).mono ?_; rintro e w1 ⟨rfl, hb⟩; obtain ⟨hc, hf⟩ := bcell hb; have HL := keepL (by (repeat (first | (with_reducible assumption) | (with_reducible apply AllLt.alloc) | (with_reducible apply AllLt.setCell) | (with_reducible apply AllLt.drew) | (with_reducible exact AllLt.nil _)))) hb; have hq := HL; simp only [AllLt, and_true, World.size_alloc, World.size_setCell, World.size_drew] at hq; have hbs := hb.size; try simp only [World.size_alloc, World.size_setCell, World.size_drew] at hbs))
    go_returns; exact ⟨rfl, by (repeat' (first | (with_reducible exact Below.refl _ _) | (with_reducible assumption) | (with_reducible refine Below.alloc ?_ ?_ _) | (with_reducible refine Below.drew ?_) | (with_reducible refine Below.setCell ?_ ?_ _) | (with_reducible refine Below.trans ?_ (Below.mono (by assumption) ?_)) | (with_reducible exact Nat.le_refl _) | omega | (simp only [World.size_alloc, World.size_setCell, World.size_drew]; omega) | (simp; omega) | (simp; done)))⟩
end Go.Proofs.Ytfdgijmmgllmgaa
namespace Go.Proofs.Ytfdgijmmgllmgaa
open Go.ChangeShapes Go.WideShapes Go.ChangeAt Go.RowKit Go.Joins 
set_option linter.unusedSimpArgs false
set_option linter.unusedVariables false
def symK (k : Nat) : Int × Bool := ((k : Int) % 4, decide (4 ≤ (k : Int)))
def symCells (l : List (Int × Bool)) : List Value := l.flatMap fun p => [.int .i64 p.1, .bool p.2]
theorem symCells_snoc (l : List (Int × Bool)) (p : Int × Bool) : symCells (l ++ [p]) = symCells l ++ [.int .i64 p.1, .bool p.2] := by simp [symCells]
theorem infoSym : (Try.prog.info? 101).map (fun i => (i.zero, i.size, i.bytes)) = some (some (.agg #[.int .i64 0, .bool false]), 2, 16) := by kernel_rfl
def allTo (k : Nat) : List (Int × Bool) := (List.range k).map symK
theorem allTo_succ (k : Nat) : allTo (k + 1) = allTo k ++ [symK k] := by simp [allTo, List.range_succ]
theorem symCells_at (k : Nat) (hk : k < 8) : (symCells (allTo 8))[k * 2]? = some (.int .i64 (symK k).1) ∧ (symCells (allTo 8))[k * 2 + 1]? = some (.bool (symK k).2) := by
  rcases (by omega : k = 0 ∨ k = 1 ∨ k = 2 ∨ k = 3 ∨ k = 4 ∨ k = 5 ∨ k = 6 ∨ k = 7) with rfl | rfl | rfl | rfl | rfl | rfl | rfl | rfl <;> exact ⟨rfl, rfl⟩
set_option maxHeartbeats 1600000 in
set_option maxRecDepth 1000000 in
theorem l1All_s (w : World) :
    Calls Try.prog 139 #[] w fun e w' => ∃ g cap, e = .returned (.slice (some ⟨g, 0, Option.none⟩) 8 cap) ∧ w'.ownsRow w.heap.size 101 2 (.slice (some ⟨g, 0, Option.none⟩) 8 cap) 8 (symCells (allTo 8)) ∧ Below w.heap.size w w' := by
  obtain ⟨i0, hi, hz0, hz1, hz2⟩ := info_parts infoSym
  go_enter Try.func139, Try.ntmps139
  go_wp2
  go_loopw [1, 2] (fun v i wr => ∃ k : Nat, k ≤ 8 ∧ i = .int .i64 k ∧ wr.ownsRow w.heap.size 101 2 v k (symCells (allTo k)) ∧ Below w.heap.size w wr)
    (fun _ i _ => 8 - (intOf i).toNat)
  case atStart => exact ⟨0, by omega, rfl, World.ownsRow_lit _ #[] 0 (by simp) (by unfold maxLen; omega) rfl, by (repeat' (first | (with_reducible exact Below.refl _ _) | (with_reducible assumption) | (with_reducible refine Below.alloc ?_ ?_ _) | (with_reducible refine Below.drew ?_) | (with_reducible refine Below.setCell ?_ ?_ _) | (with_reducible refine Below.trans ?_ (Below.mono (by assumption) ?_)) | (with_reducible exact Nat.le_refl _) | omega | (simp only [World.size_alloc, World.size_setCell, World.size_drew]; omega) | (simp; omega) | (simp; done)))⟩
  case round =>
    obtain ⟨k, hk, rfl, hown, hbel⟩ := hrel
    have hbase := hbel.size
    by_cases hlt : k < 8
    · have HY : Hid (allTo (k + 1) = allTo k ++ [symK k]) := allTo_succ k
      go_wp2_with (at_builtin; go_loud (refine wpList_append_own _ rfl _ _ 98 rfl w.heap.size 101 i0 (.agg #[.int .i64 0, .bool false]) 2 16 Try.underlying98 hi hz0 hz1 hz2 rfl (by decide) _ k (symCells (allTo k)) rfl ?hown ⟨wr.heap.size, 0, Option.none⟩ 1 1 [.int .i64 (symK k).1, .bool (symK k).2] rfl rfl ?c1 ?c2 ?c3 ?c4 ?c5 ?_))
      case hown => (change World.ownsRow _ _ _ _ u1 _ _; (repeat (first | (with_reducible assumption) | (with_reducible refine World.ownsRow.alloc ?_ _) | (with_reducible refine World.ownsRow.drew ?_) | (with_reducible refine ownsBelow (by assumption) ?_))))
      case c1 =>
        intro j u hj
        rcases j with _ | _ | j <;> simp [symK] at hj <;> subst hj <;> simp [Addr.add]
      case c2 =>
        intro u hu
        simp at hu
        rcases hu with rfl | rfl <;> rfl
      case c3 => (unfold maxLen; omega)
      case c4 => omega
      case c5 => first | omega | (simp only [World.size_alloc, World.size_setCell, World.size_drew]; omega)
      intro v' w2 hown' hgrow _
      have hb2 : Below w.heap.size w w2 := Below.grown (by (repeat' (first | (with_reducible exact Below.refl _ _) | (with_reducible assumption) | (with_reducible refine Below.alloc ?_ ?_ _) | (with_reducible refine Below.drew ?_) | (with_reducible refine Below.setCell ?_ ?_ _) | (with_reducible refine Below.trans ?_ (Below.mono (by assumption) ?_)) | (with_reducible exact Nat.le_refl _) | omega | (simp only [World.size_alloc, World.size_setCell, World.size_drew]; omega) | (simp; omega) | (simp; done)))) hgrow (by first | omega | (simp only [World.size_alloc, World.size_setCell, World.size_drew]; omega)) (fun q hq => (hown.lt q hq).1)
      clear hgrow
      go_wp2
      go_roundw
      case rel => exact ⟨k + 1, by omega, by go_num, by rw [HY.out, symCells_snoc]; simpa using hown', hb2⟩
      case measure => simp [intOf]; omega
    · have hk8 : k = 8 := by omega
      subst hk8
      obtain ⟨g, cap, rfl⟩ := ownsRow_form hown (by omega)
      go_wp2
      go_ret
      exact ⟨_, _, rfl, hown, hbel⟩
end Go.Proofs.Ytfdgijmmgllmgaa
