/-
  Sums, differences and products of finite singles as rounded whole numbers: +0 for 0 and for what is too great.
-/
import Derived.Test.YtkcfekhpppihhaaFo
import Derived.Test.YtkcfekhpppihhaaCa
namespace Go.Proofs.Ytkcfekhpppihhaa
open Go.ChangeShapes Go.WideShapes Go.ChangeAt Go.RowKit Go.Joins
set_option linter.unusedSimpArgs false
set_option linter.unusedVariables false
set_option maxRecDepth 100000
attribute [local go_sem] store_f
open Ieee

/-- A sign and a rung as a clean word. -/
def cw (s : Bool) (r : Nat) : Nat := if r = 0 ∨ 2139095040 ≤ r then 0 else F32.word s r
/-- A number of units, rounded. -/
def clT (T : Int) : Nat := cw (decide (T < 0)) (rn F32 T.natAbs 0)
/-- A product of two numbers of units, rounded. -/
def clM (P : Int) : Nat := cw (decide (P < 0)) (rn F32 P.natAbs 149)
def tv (T : Int) : Int := valOf F32 (clT T)
def mv (P : Int) : Int := valOf F32 (clM P)

theorem set_inf (s : Bool) : setB (F32.word s 2139095040) = 0 := by cases s <;> decide +kernel
theorem set_word (s : Bool) (r : Nat) : setB (F32.word s (min r F32.infRung)) = cw s r := by
  unfold cw
  rw [F32_inf]
  by_cases h : r < 2139095040
  · rw [Nat.min_eq_left (by omega), set_clean (fin_word s h), clean_w s h]
    by_cases h0 : r = 0
    · rw [if_pos h0, if_pos (Or.inl h0)]
    · rw [if_neg h0, if_neg (by omega)]
  · rw [Nat.min_eq_right (by omega), set_inf, if_pos (Or.inr (by omega))]
theorem cw_zero (s : Bool) : cw s 0 = 0 := by unfold cw; rw [if_pos (Or.inl rfl)]
theorem set_round (z : Bool) (T : Int) : setB (roundTo F32 z T) = clT T := by
  unfold roundTo clT
  rw [set_word]
  by_cases h : T = 0
  · subst h
    rw [Int.natAbs_zero, rn_zero, cw_zero, cw_zero]
  · rw [if_neg h]
theorem cw_cl (s : Bool) (r : Nat) : Cl (cw s r) := by
  unfold cw
  by_cases h : r = 0 ∨ 2139095040 ≤ r
  · rw [if_pos h]; exact cl_zero
  · rw [if_neg h]
    refine ⟨fin_word s (by omega), word_lt s (by omega), fun h1 => ?_⟩
    rw [rungOf_word F32 s (by rw [F32_sw]; omega)] at h1
    omega
theorem clT_cl (T : Int) : Cl (clT T) := cw_cl _ _
theorem clM_cl (P : Int) : Cl (clM P) := cw_cl _ _
theorem val_cw (s : Bool) (r : Nat) : valOf F32 (cw s r) = if r = 0 ∨ 2139095040 ≤ r then 0 else if s then -(magOf F32 r : Int) else (magOf F32 r : Int) := by
  unfold cw
  by_cases h : r = 0 ∨ 2139095040 ≤ r
  · rw [if_pos h, if_pos h, val_zero]
  · rw [if_neg h, if_neg h, valOf_word F32 s (by rw [F32_sw]; omega)]

theorem sub_cl {a b : Nat} (ha : Fin32 a) (hb : Fin32 b) : ∃ r, F32.sub a b = some r ∧ setB r = clT (valOf F32 a - valOf F32 b) :=
  ⟨_, sub_fin F32 ha hb, set_round _ _⟩
theorem add_cl {a b : Nat} (ha : Fin32 a) (hb : Fin32 b) : ∃ r, F32.add a b = some r ∧ setB r = clT (valOf F32 a + valOf F32 b) :=
  ⟨_, add_fin F32 ha hb, set_round _ _⟩
theorem abs_val (x : Nat) : (valOf F32 x).natAbs = magOf F32 (rungOf F32 x) := by unfold valOf; split <;> omega
theorem val_neg {x : Nat} (h : valOf F32 x ≠ 0) : decide (valOf F32 x < 0) = negOf F32 x := by
  have hm := abs_val x
  unfold valOf at *
  cases negOf F32 x <;> simp_all <;> omega
theorem mul_cl {a b : Nat} (ha : Fin32 a) (hb : Fin32 b) : ∃ r, F32.mul a b = some r ∧ setB r = clM (valOf F32 a * valOf F32 b) := by
  refine ⟨_, mul_fin F32 (q := 149) F32_lp ha hb, ?_⟩
  unfold roundMul clM
  rw [set_word, Int.natAbs_mul, abs_val, abs_val]
  by_cases h : valOf F32 a * valOf F32 b = 0
  · have e : magOf F32 (rungOf F32 a) * magOf F32 (rungOf F32 b) = 0 := by rw [← abs_val, ← abs_val, ← Int.natAbs_mul, h]; rfl
    rw [e, rn_zero, cw_zero, cw_zero]
  · have h1 : valOf F32 a ≠ 0 := fun e => h (by rw [e, Int.zero_mul])
    have h2 : valOf F32 b ≠ 0 := fun e => h (by rw [e, Int.mul_zero])
    have e : (negOf F32 a ^^ negOf F32 b) = decide (valOf F32 a * valOf F32 b < 0) := by
      rw [← val_neg h1, ← val_neg h2]
      generalize valOf F32 a = x at *
      generalize valOf F32 b = y at *
      rcases Int.lt_or_gt_of_ne h1 with p | p <;> rcases Int.lt_or_gt_of_ne h2 with q | q
      · have := Int.mul_pos_of_neg_of_neg p q
        simp [p, q]; omega
      · have := Int.mul_neg_of_neg_of_pos p q
        simp [p, this]; omega
      · have := Int.mul_neg_of_pos_of_neg p q
        simp [q, this]; omega
      · have := Int.mul_pos p q
        have n1 : ¬ x < 0 := by omega
        have n2 : ¬ y < 0 := by omega
        have n3 : ¬ x * y < 0 := by omega
        simp [n1, n2, n3]
    rw [e]

theorem rung_cw {s : Bool} {r : Nat} : rungOf F32 (cw s r) = if r = 0 ∨ 2139095040 ≤ r then 0 else r := by
  unfold cw
  by_cases h : r = 0 ∨ 2139095040 ≤ r
  · rw [if_pos h, if_pos h]; exact rung_of_lt (by omega)
  · rw [if_neg h, if_neg h, rungOf_word F32 s (by rw [F32_sw]; omega)]

theorem val_odd {f : Int → Nat} {T : Int} {q : Nat} (hf : ∀ T, f T = cw (decide (T < 0)) (rn F32 T.natAbs q)) : valOf F32 (f (-T)) = - valOf F32 (f T) := by
  rw [hf, hf, val_cw, val_cw, Int.natAbs_neg]
  by_cases h : rn F32 T.natAbs q = 0 ∨ 2139095040 ≤ rn F32 T.natAbs q
  · rw [if_pos h, if_pos h]; rfl
  · rw [if_neg h, if_neg h]
    have hT : T ≠ 0 := fun e => h (Or.inl (by rw [e]; exact rn_zero q))
    rcases Int.lt_or_gt_of_ne hT with p | p
    · have n1 : ¬ -T < 0 := by omega
      simp [p, n1]; intro; omega
    · have n1 : ¬ T < 0 := by omega
      have n2 : -T < 0 := by omega
      simp [n1, n2]; intro; omega
theorem tv_neg (T : Int) : tv (-T) = - tv T := val_odd (f := clT) (q := 0) (fun _ => rfl)
theorem mv_neg (T : Int) : mv (-T) = - mv T := val_odd (f := clM) (q := 149) (fun _ => rfl)
theorem clT_zero : clT 0 = 0 := by unfold clT; rw [Int.natAbs_zero, rn_zero, cw_zero]
theorem clM_zero : clM 0 = 0 := by unfold clM; rw [Int.natAbs_zero, rn_zero, cw_zero]
theorem tv_zero : tv 0 = 0 := by unfold tv; rw [clT_zero, val_zero]
theorem mv_zero : mv 0 = 0 := by unfold mv; rw [clM_zero, val_zero]
theorem mv_nonneg {P : Int} (h : 0 ≤ P) : 0 ≤ mv P := by
  unfold mv clM
  rw [val_cw]
  have n1 : ¬ P < 0 := by omega
  simp only [n1, decide_false, Bool.false_eq_true, if_false]
  split <;> omega
theorem tv_val {x : Nat} (h : Fin32 x) : tv (valOf F32 x) = valOf F32 x := by
  unfold tv clT
  have hr := fin_rung h
  rw [rn_self, val_cw]
  by_cases h0 : rungOf F32 x = 0
  · rw [if_pos (Or.inl h0), val_eq_zero.2 h0]
  · rw [if_neg (by omega), val_neg (fun e => h0 (val_eq_zero.1 e))]
    rfl
theorem clT_ok {T : Int} (h : T.natAbs ≤ magOf F32 1142947840) : okB (clT T) = true := by
  have h1 : rn F32 T.natAbs 0 ≤ 1142947840 := rn_le F32 (by simpa using h)
  have h2 := (clT_cl T).lt
  have h3 : rungOf F32 (clT T) ≤ 1142947840 := by
    unfold clT; rw [rung_cw]; split <;> omega
  unfold rungOf at h3
  rw [F32_sw] at h3
  simp [okB, h2, h3]

/-- Words in reach. -/
structure Rch (x : Nat) : Prop where
  lt : x < 4294967296
  inb : inB x = true
theorem inB_fin {x : Nat} (h : inB x = true) : Fin32 x := by
  by_cases hf : Fin32 x
  · exact hf
  · exfalso
    unfold inB at h
    have h' : (((F32.read x).order (F32.read 3313500160) == some .gt || (F32.read x).order (F32.read 3313500160) == some .eq) && ((F32.read x).order (F32.read 1166016512) == some .lt || (F32.read x).order (F32.read 1166016512) == some .eq)) = true := h
    have r1 : F32.read 3313500160 = .number true 8388608 (-11) := by kernel_rfl
    have r2 : F32.read 1166016512 = .number false 8388608 (-11) := by kernel_rfl
    rw [r1, r2] at h'
    have h1 : F32.infRung ≤ rungOf F32 x := Nat.le_of_not_lt hf
    rcases Nat.eq_or_lt_of_le h1 with h2 | h2
    · rw [read_inf F32 h2.symm F32_eb] at h'
      cases hn : negOf F32 x <;> rw [hn] at h' <;> simp [Datum.order] at h'
    · rw [read_nan F32 h2 F32_eb] at h'; simp [Datum.order] at h'
theorem Rch.fin {x : Nat} (h : Rch x) : Fin32 x := inB_fin h.inb
theorem ok_rch {x : Nat} (h : okB x = true) : Rch x := ⟨ok_lt h, ok_in h⟩
theorem inB_val {x y : Nat} (hx : Fin32 x) (hy : Fin32 y) (e : valOf F32 x = valOf F32 y ∨ valOf F32 x = - valOf F32 y) : inB x = inB y := by
  have e1 : rungOf F32 3313500160 = 1166016512 := by unfold rungOf; rw [F32_sw]
  have e2 : negOf F32 3313500160 = true := by unfold negOf; rw [F32_sw]; rfl
  have f1 : Fin32 3313500160 := by unfold Fin32; rw [e1, F32_inf]; decide
  have f2 : Fin32 1166016512 := fin_of_lt (by omega)
  have v1 : valOf F32 3313500160 = -(magOf F32 1166016512 : Int) := by unfold valOf; rw [e1, e2]; rfl
  have v2 := val_of_lt (x := 1166016512) (by omega)
  unfold inB
  rw [order_fin F32 hx f1, order_fin F32 hx f2, order_fin F32 hy f1, order_fin F32 hy f2, v1, v2]
  simp only [cmp_eq, cmp_lt, cmp_gt]
  generalize (magOf F32 1166016512 : Int) = m
  rw [Bool.eq_iff_iff]
  simp only [Bool.and_eq_true, Bool.or_eq_true, decide_eq_true_eq]
  omega

/-- The side of a point, by values: what is seen from a to b of p. -/
def sideZ (a1 a2 b1 b2 p1 p2 : Int) : Int := tv (mv (tv (b1 - a1) * tv (p2 - a2)) - mv (tv (b2 - a2) * tv (p1 - a1)))
def sideW (a1 a2 b1 b2 p1 p2 : Nat) : Nat :=
  clT (mv (tv (valOf F32 b1 - valOf F32 a1) * tv (valOf F32 p2 - valOf F32 a2)) - mv (tv (valOf F32 b2 - valOf F32 a2) * tv (valOf F32 p1 - valOf F32 a1)))
theorem val_side (a1 a2 b1 b2 p1 p2 : Nat) : valOf F32 (sideW a1 a2 b1 b2 p1 p2) = sideZ (valOf F32 a1) (valOf F32 a2) (valOf F32 b1) (valOf F32 b2) (valOf F32 p1) (valOf F32 p2) := rfl
theorem side_cl (a1 a2 b1 b2 p1 p2 : Nat) : Cl (sideW a1 a2 b1 b2 p1 p2) := clT_cl _

theorem tv_flip (a b : Int) : tv (-a - -b) = - tv (a - b) := by rw [← tv_neg]; congr 1; omega
theorem tv_swap (a b : Int) : tv (a - b) = - tv (b - a) := by rw [← tv_neg]; congr 1; omega
/-- A point whose parts are ±, or exchanged: the side is the same, or its negative. -/
theorem side_turn (a1 a2 b1 b2 p1 p2 : Int) : sideZ (-a2) a1 (-b2) b1 (-p2) p1 = sideZ a1 a2 b1 b2 p1 p2 := by
  unfold sideZ
  rw [tv_flip, tv_flip, Int.neg_mul, mv_neg, Int.mul_neg, mv_neg]
  congr 1
  rw [Int.sub_neg, Int.mul_comm (tv (b1 - a1))]
  omega
theorem side_flip (a1 a2 b1 b2 p1 p2 : Int) : sideZ a1 (-a2) b1 (-b2) p1 (-p2) = - sideZ a1 a2 b1 b2 p1 p2 := by
  unfold sideZ
  rw [tv_flip, tv_flip, Int.neg_mul, mv_neg, Int.mul_neg, mv_neg, ← tv_neg]
  congr 1
  omega
theorem side_at_a (a1 a2 b1 b2 : Int) : sideZ a1 a2 b1 b2 a1 a2 = 0 := by
  unfold sideZ
  rw [Int.sub_self, Int.sub_self, tv_zero, Int.mul_zero, Int.mul_zero, mv_zero, Int.sub_zero, tv_zero]
theorem side_at_b (a1 a2 b1 b2 : Int) : sideZ a1 a2 b1 b2 b1 b2 = 0 := by
  unfold sideZ
  rw [Int.mul_comm (tv (b2 - a2)), Int.sub_self, tv_zero]
end Go.Proofs.Ytkcfekhpppihhaa
