/-
  Texts of this proof, joined: Fm, Fo, Copen, Ca, Ga, Cpart, Cb, Cc, Cd.
-/
import Derived.Test.YtekkgpanmccdgaaK07
import Derived.Test.YtekkgpanmccdgaaK08
import Derived.Test.YtekkgpanmccdgaaK02
import Derived.Test.YtekkgpanmccdgaaK03
/-
  Images of images: one symmetry behind another, and the way back, on the parts of a point.
-/
namespace Go.Proofs.Ytekkgpanmccdgaa
open Go.ChangeShapes Go.WideShapes Go.ChangeAt Go.RowKit Go.Joins
set_option linter.unusedSimpArgs false
set_option linter.unusedVariables false
set_option maxRecDepth 100000
attribute [local go_sem] store_f
open Ieee

theorem clean_clean {x : Nat} (h : Fin32 x) (hx : x < 4294967296) : cleanB (cleanB x) = cleanB x := by
  have c := cl_clean h hx
  rw [clean_eq c.fin]
  by_cases h0 : rungOf F32 (cleanB x) = 0
  · rw [if_pos h0, c.zero h0]
  · rw [if_neg h0]
theorem cl_clean_eq {x : Nat} (h : Cl x) : cleanB x = x := by
  rw [clean_eq h.fin]
  by_cases h0 : rungOf F32 x = 0
  · rw [if_pos h0, h.zero h0]
  · rw [if_neg h0]
theorem ng_clean {x : Nat} (h : Fin32 x) : ngB (cleanB x) = ngB x := by
  rw [clean_eq h]
  by_cases h0 : rungOf F32 x = 0
  · rw [if_pos h0]
    unfold ngB
    rw [if_pos h0, if_pos (rung_of_lt (by omega))]
  · rw [if_neg h0]

/-- The image of an image is the image by the one behind the other. -/
theorem act_then (t u : Nat) (f g : Bool) {x y : Nat} (ht : t < 4) (hu : u < 4) (hx : Cl x) (hy : Cl y) :
    actV u g (actV t f x (ngB x) y (ngB y)).1 (ngB (actV t f x (ngB x) y (ngB y)).1) (actV t f x (ngB x) y (ngB y)).2 (ngB (actV t f x (ngB x) y (ngB y)).2) =
      actV (thenT t u g).toNat (thenF t u f g) x (ngB x) y (ngB y) := by
  have ex := ng_ng hx
  have ey := ng_ng hy
  rcases (by omega : t = 0 ∨ t = 1 ∨ t = 2 ∨ t = 3) with rfl | rfl | rfl | rfl <;>
  rcases (by omega : u = 0 ∨ u = 1 ∨ u = 2 ∨ u = 3) with rfl | rfl | rfl | rfl <;>
  cases f <;> cases g <;> simp [actV, thenT, thenF, isSymB, ex, ey]

/-- The way back. -/
theorem act_back (t : Nat) (f : Bool) {x y : Nat} (ht : t < 4) (hx : Cl x) (hy : Cl y) :
    actV (backT t f).toNat (backF t f) (actV t f x (ngB x) y (ngB y)).1 (ngB (actV t f x (ngB x) y (ngB y)).1) (actV t f x (ngB x) y (ngB y)).2 (ngB (actV t f x (ngB x) y (ngB y)).2) = (x, y) := by
  have ex := ng_ng hx
  have ey := ng_ng hy
  rcases (by omega : t = 0 ∨ t = 1 ∨ t = 2 ∨ t = 3) with rfl | rfl | rfl | rfl <;>
  cases f <;> simp [actV, backT, backF, isSymB, ex, ey]

/-- The images of parts in reach are parts in reach. -/
theorem act_cl (t : Nat) (f : Bool) {x y : Nat} (hx : Cl x) (hy : Cl y) : Cl (actV t f x (ngB x) y (ngB y)).1 ∧ Cl (actV t f x (ngB x) y (ngB y)).2 := by
  have nx := cl_ng hx.fin
  have ny := cl_ng hy.fin
  unfold actV
  split <;> exact ⟨by assumption, by assumption⟩
end Go.Proofs.Ytekkgpanmccdgaa

/-
  All that the law of products calls, for three symmetries and a point in reach.
-/
namespace Go.Proofs.Ytekkgpanmccdgaa
open Go.ChangeShapes Go.WideShapes Go.ChangeAt Go.RowKit Go.Joins
set_option linter.unusedSimpArgs false
set_option linter.unusedVariables false
set_option maxRecDepth 100000
attribute [local go_sem] store_f
open Ieee

/-- A symmetry held against itself, field by field. -/
theorem run_eq_sym (t : Int) (f : Bool) (w : World) :
    (Op.equalIn 10000 49 (.agg #[.int .i64 t, .bool f]) (.agg #[.int .i64 t, .bool f])).run Try.prog w = .ok true w := by
  have u := Try.underlying3
  have u2 := Try.underlying4
  have a24 := Try.isAgg3
  have z24 := Try.sizeOf3
  have a25 := Try.isAgg4
  have z25 := Try.sizeOf4
  have hS : Try.prog.underlying 49 = some (.struct (Try.prog.fieldsOf 49)) := by kernel_rfl
  have hp : Try.prog.stoodInHeld 49 = false := by kernel_rfl
  rw [show (10000 : Nat) = 9999 + 1 from rfl, run_equalIn_agg w 9999 49 _ _ hS hp]
  simp only [Program.fieldsOf, Try.underlying49]
  go_simp

theorem ok_clean {x : Nat} (h : okB x = true) : okB (cleanB x) = true := by
  rw [clean_eq (ok_fin h)]
  split
  · exact ok_zero
  · exact h
theorem ok_ng {x : Nat} (h : okB x = true) : okB (ngB x) = true := by
  have hr := ok_rung h
  unfold ngB
  split
  · exact ok_zero
  · have e : F32.word (!negOf F32 x) (rungOf F32 x) = (if (!negOf F32 x) then 2147483648 else 0) + rungOf F32 x := by
      unfold Format.word; rw [F32_sw]; cases negOf F32 x <;> simp
    rw [e]
    simp only [okB, Bool.and_eq_true, decide_eq_true_eq]
    split <;> omega
/-- Parts of images: of 32 bits, finite, no -0, in reach. -/
structure Pt (x : Nat) : Prop where
  cl : Cl x
  ok : okB x = true
theorem pt_clean {x : Nat} (h : okB x = true) : Pt (cleanB x) := ⟨cl_clean (ok_fin h) (ok_lt h), ok_clean h⟩
theorem pt_ng {x : Nat} (h : okB x = true) : Pt (ngB x) := ⟨cl_ng (ok_fin h), ok_ng h⟩
theorem act_pt (t : Nat) (f : Bool) {x y : Nat} (hx : Pt x) (hy : Pt y) : Pt (actV t f x (ngB x) y (ngB y)).1 ∧ Pt (actV t f x (ngB x) y (ngB y)).2 := by
  have nx := pt_ng hx.ok
  have ny := pt_ng hy.ok
  unfold actV
  split <;> exact ⟨by assumption, by assumption⟩

structure ActM (t : Int) (f : Bool) (x y p q : Nat) : Prop where
  call : ∀ w : World, Calls Try.prog 22 #[.agg #[.int .i64 t, .bool f], .complex .f32 x y] w fun e w' => e = .returned (.complex .f32 p q) ∧ Below w.heap.size w w'

theorem act_of {t : Nat} (f : Bool) {x y : Nat} (ht : t < 4) (hx : okB x = true) (hy : okB y = true) :
    ActM t f x y (actV t f (cleanB x) (ngB (cleanB x)) (cleanB y) (ngB (cleanB y))).1 (actV t f (cleanB x) (ngB (cleanB x)) (cleanB y) (ngB (cleanB y))).2 := by
  rw [ng_clean (ok_fin hx), ng_clean (ok_fin hy)]
  exact ⟨fun w => actSym_i t f x y _ _ _ _ w ht (ok_in hx) (ok_in hy) (parts_of (ok_fin hx) (ok_lt hx)) (parts_of (ok_fin hy) (ok_lt hy))⟩
theorem act_of_pt {t : Nat} (f : Bool) {x y : Nat} (ht : t < 4) (hx : Pt x) (hy : Pt y) :
    ActM t f x y (actV t f x (ngB x) y (ngB y)).1 (actV t f x (ngB x) y (ngB y)).2 := by
  have h := act_of f ht hx.ok hy.ok
  rwa [cl_clean_eq hx.cl, cl_clean_eq hy.cl] at h

theorem order_self {x : Nat} (h : Fin32 x) : (FloatKind.f32.format.order x x == some .eq) = true := by
  show (F32.order x x == some .eq) = true
  rw [order_fin F32 h h, cmp_eq]; simp
theorem order_clean {x : Nat} (h : okB x = true) : (FloatKind.f32.format.order (cleanB x) x == some .eq) = true := by
  show (F32.order (cleanB x) x == some .eq) = true
  rw [order_fin F32 (cl_clean (ok_fin h) (ok_lt h)).fin (ok_fin h), cmp_eq]
  rw [clean_eq (ok_fin h)]
  by_cases h0 : rungOf F32 x = 0
  · rw [if_pos h0, val_zero, val_eq_zero.2 h0]; rfl
  · rw [if_neg h0]; simp

theorem then_assoc : ∀ (t u v : Fin 4) (f g h : Bool), thenT (t.val : Int) (thenT (u.val : Int) (v.val : Int) h) (thenF u.val v.val g h) = thenT (thenT (t.val : Int) (u.val : Int) g) (v.val : Int) h ∧ thenF (t.val : Int) (thenT (u.val : Int) (v.val : Int) h) f (thenF u.val v.val g h) = thenF (thenT (t.val : Int) (u.val : Int) g) (v.val : Int) (thenF t.val u.val f g) h := by decide +kernel
theorem then_back : ∀ (t : Fin 4) (f : Bool), thenT (t.val : Int) (backT t.val f) (backF t.val f) = 0 ∧ thenF t.val (backT t.val f) f (backF t.val f) = false ∧ thenT (backT t.val f) (t.val : Int) f = 0 ∧ thenF (backT t.val f) t.val (backF t.val f) f = false ∧ thenT 0 (t.val : Int) f = t.val ∧ thenF 0 (t.val : Int) false f = f := by decide +kernel
theorem then_in : ∀ (t u : Fin 4) (f : Bool), thenT (t.val : Int) (u.val : Int) f = ((thenT (t.val : Int) (u.val : Int) f).toNat : Int) ∧ (thenT (t.val : Int) (u.val : Int) f).toNat < 4 := by decide +kernel
theorem back_in : ∀ (t : Fin 4) (f : Bool), backT (t.val : Int) f = ((backT (t.val : Int) f).toNat : Int) ∧ (backT (t.val : Int) f).toNat < 4 := by decide +kernel

end Go.Proofs.Ytekkgpanmccdgaa

/-
  What a colour and a single look like when they are read as data.
-/
namespace Go.Proofs.Ytekkgpanmccdgaa
open Go.ChangeShapes Go.WideShapes Go.ChangeAt Go.RowKit Go.Joins

section
variable {H : Type} {enc : TypeId × Value → H} {W : World} {base : Nat} {spare : Nat → Bool} {held : Bool} {v : Value} {d : DataW H} {p : List MemPlace}

theorem wf_f32 {b : Nat} (h : (Lit.float .f32 b).wf = true) : b < 4294967296 := by
  simp [Lit.wf] at h; exact h

/-- A colour as a value. -/
def colV (r g b : Nat) : Value := .agg #[.float .f32 r, .float .f32 g, .float .f32 b]

end
end Go.Proofs.Ytekkgpanmccdgaa

/-
  Singles: contracts of what both sides reckon with.
-/
namespace Go.Proofs.Ytekkgpanmccdgaa
open Go.ChangeShapes Go.WideShapes Go.ChangeAt Go.RowKit Go.Joins
set_option linter.unusedSimpArgs false
set_option linter.unusedVariables false
set_option maxRecDepth 100000
attribute [local go_sem] store_f

def shareB (x : Nat) : Bool := (FloatKind.f32.format.order x 0 == some .gt || FloatKind.f32.format.order x 0 == some .eq) && (FloatKind.f32.format.order x 1065353216 == some .lt || FloatKind.f32.format.order x 1065353216 == some .eq)
def boundB (x : Nat) : Nat := if FloatKind.f32.format.order x 1065353216 == some .gt then 1065353216 else x

theorem isShare_i (x : Nat) (w : World) :
    Calls Try.prog 55 #[.float .f32 x] w fun e w' => e = .returned (.bool (shareB x)) ∧ w' = w := by
  go_enter Try.func55, Try.ntmps55
  go_wp2
  all_goals (go_ret; exact ⟨by simp_all [shareB], rfl⟩)

theorem differenceOf_i (a b r : Nat) (w : World) (h : FloatKind.f32.format.sub a b = some r) :
    Calls Try.prog 128 #[.float .f32 a, .float .f32 b] w fun e w' => e = .returned (.float .f32 (setB r)) ∧ w' = w := by
  have hop := fun t w => run_float_arith (P := Try.prog) w .sub t .f32 a b r h
  go_enter Try.func128, Try.ntmps128
  go_wp2_with (first | (simp only [hop]) | (go_at_call 106; refine (settle_i _ _).mono ?_; rintro e w1 ⟨rfl, rfl⟩))
  all_goals (go_ret; exact ⟨rfl, rfl⟩)

theorem l1Clean_s (x : Nat) (w : World) (h : FloatKind.f32.format.sub x x = some 0) :
    Calls Try.prog 140 #[.float .f32 x] w fun e w' => e = .returned (.float .f32 (cleanB x)) ∧ w' = w := by
  have hop := fun t w => run_float_arith (P := Try.prog) w .sub t .f32 x x 0 h
  have h0 : FloatKind.f32.format.order 0 0 = some .eq := by kernel_rfl
  go_enter Try.func140, Try.ntmps140
  go_wp2_with (simp only [hop])
  all_goals (go_ret; exact ⟨by simp_all [cleanB], rfl⟩)

theorem l1Plus_s (a b r : Nat) (w : World) (h : FloatKind.f32.format.add a b = some r) (h0 : FloatKind.f32.format.sub r r = some 0) :
    Calls Try.prog 114 #[.float .f32 a, .float .f32 b] w fun e w' => e = .returned (.float .f32 (cleanB r)) ∧ w' = w := by
  have hop := fun t w => run_float_arith (P := Try.prog) w .add t .f32 a b r h
  have H0 : Hid (FloatKind.f32.format.sub r r = some 0) := h0
  clear h0
  go_enter Try.func114, Try.ntmps114
  go_wp2_with (first | (simp only [hop]) | (go_at_call 140; refine (l1Clean_s _ _ H0.out).mono ?_; rintro e w1 ⟨rfl, rfl⟩))
  all_goals (go_ret; exact ⟨rfl, rfl⟩)

theorem l1Minus_s (a b r : Nat) (w : World) (h : FloatKind.f32.format.sub a b = some r) (h0 : FloatKind.f32.format.sub r r = some 0) :
    Calls Try.prog 137 #[.float .f32 a, .float .f32 b] w fun e w' => e = .returned (.float .f32 (cleanB r)) ∧ w' = w := by
  have hop := fun t w => run_float_arith (P := Try.prog) w .sub t .f32 a b r h
  have H0 : Hid (FloatKind.f32.format.sub r r = some 0) := h0
  clear h0
  go_enter Try.func137, Try.ntmps137
  go_wp2_with (first | (simp only [hop]) | (go_at_call 140; refine (l1Clean_s _ _ H0.out).mono ?_; rintro e w1 ⟨rfl, rfl⟩))
  all_goals (go_ret; exact ⟨rfl, rfl⟩)

theorem l1Times_s (a b r : Nat) (w : World) (h : FloatKind.f32.format.mul a b = some r) (h0 : FloatKind.f32.format.sub r r = some 0) :
    Calls Try.prog 138 #[.float .f32 a, .float .f32 b] w fun e w' => e = .returned (.float .f32 (cleanB r)) ∧ w' = w := by
  have hop := fun t w => run_float_arith (P := Try.prog) w .mul t .f32 a b r h
  have H0 : Hid (FloatKind.f32.format.sub r r = some 0) := h0
  clear h0
  go_enter Try.func138, Try.ntmps138
  go_wp2_with (first | (simp only [hop]) | (go_at_call 140; refine (l1Clean_s _ _ H0.out).mono ?_; rintro e w1 ⟨rfl, rfl⟩))
  all_goals (go_ret; exact ⟨rfl, rfl⟩)

end Go.Proofs.Ytekkgpanmccdgaa

/-
  Sums, differences and products of finite singles as rounded whole numbers: +0 for 0 and for what is too great.
-/
namespace Go.Proofs.Ytekkgpanmccdgaa
open Go.ChangeShapes Go.WideShapes Go.ChangeAt Go.RowKit Go.Joins
set_option linter.unusedSimpArgs false
set_option linter.unusedVariables false
set_option maxRecDepth 100000
attribute [local go_sem] store_f
open Ieee

/-- A sign and a rung as a clean word. -/
def cw (s : Bool) (r : Nat) : Nat := if r = 0 ∨ 2139095040 ≤ r then 0 else F32.word s r
/-- A number of units, rounded. -/
def clT (T : Int) : Nat := cw (decide (T < 0)) (rn F32 T.natAbs 0)
/-- A product of two numbers of units, rounded. -/
def clM (P : Int) : Nat := cw (decide (P < 0)) (rn F32 P.natAbs 149)
def tv (T : Int) : Int := valOf F32 (clT T)
def mv (P : Int) : Int := valOf F32 (clM P)

theorem set_inf (s : Bool) : setB (F32.word s 2139095040) = 0 := by cases s <;> decide +kernel
theorem set_word (s : Bool) (r : Nat) : setB (F32.word s (min r F32.infRung)) = cw s r := by
  unfold cw
  rw [F32_inf]
  by_cases h : r < 2139095040
  · rw [Nat.min_eq_left (by omega), set_clean (fin_word s h), clean_w s h]
    by_cases h0 : r = 0
    · rw [if_pos h0, if_pos (Or.inl h0)]
    · rw [if_neg h0, if_neg (by omega)]
  · rw [Nat.min_eq_right (by omega), set_inf, if_pos (Or.inr (by omega))]
theorem cw_zero (s : Bool) : cw s 0 = 0 := by unfold cw; rw [if_pos (Or.inl rfl)]
theorem set_round (z : Bool) (T : Int) : setB (roundTo F32 z T) = clT T := by
  unfold roundTo clT
  rw [set_word]
  by_cases h : T = 0
  · subst h
    rw [Int.natAbs_zero, rn_zero, cw_zero, cw_zero]
  · rw [if_neg h]
theorem cw_cl (s : Bool) (r : Nat) : Cl (cw s r) := by
  unfold cw
  by_cases h : r = 0 ∨ 2139095040 ≤ r
  · rw [if_pos h]; exact cl_zero
  · rw [if_neg h]
    refine ⟨fin_word s (by omega), word_lt s (by omega), fun h1 => ?_⟩
    rw [rungOf_word F32 s (by rw [F32_sw]; omega)] at h1
    omega
theorem clT_cl (T : Int) : Cl (clT T) := cw_cl _ _
theorem clM_cl (P : Int) : Cl (clM P) := cw_cl _ _
theorem val_cw (s : Bool) (r : Nat) : valOf F32 (cw s r) = if r = 0 ∨ 2139095040 ≤ r then 0 else if s then -(magOf F32 r : Int) else (magOf F32 r : Int) := by
  unfold cw
  by_cases h : r = 0 ∨ 2139095040 ≤ r
  · rw [if_pos h, if_pos h, val_zero]
  · rw [if_neg h, if_neg h, valOf_word F32 s (by rw [F32_sw]; omega)]

theorem sub_cl {a b : Nat} (ha : Fin32 a) (hb : Fin32 b) : ∃ r, F32.sub a b = some r ∧ setB r = clT (valOf F32 a - valOf F32 b) :=
  ⟨_, sub_fin F32 ha hb, set_round _ _⟩
theorem add_cl {a b : Nat} (ha : Fin32 a) (hb : Fin32 b) : ∃ r, F32.add a b = some r ∧ setB r = clT (valOf F32 a + valOf F32 b) :=
  ⟨_, add_fin F32 ha hb, set_round _ _⟩
theorem abs_val (x : Nat) : (valOf F32 x).natAbs = magOf F32 (rungOf F32 x) := by unfold valOf; split <;> omega
theorem val_neg {x : Nat} (h : valOf F32 x ≠ 0) : decide (valOf F32 x < 0) = negOf F32 x := by
  have hm := abs_val x
  unfold valOf at *
  cases negOf F32 x <;> simp_all <;> omega
theorem mul_cl {a b : Nat} (ha : Fin32 a) (hb : Fin32 b) : ∃ r, F32.mul a b = some r ∧ setB r = clM (valOf F32 a * valOf F32 b) := by
  refine ⟨_, mul_fin F32 (q := 149) F32_lp ha hb, ?_⟩
  unfold roundMul clM
  rw [set_word, Int.natAbs_mul, abs_val, abs_val]
  by_cases h : valOf F32 a * valOf F32 b = 0
  · have e : magOf F32 (rungOf F32 a) * magOf F32 (rungOf F32 b) = 0 := by rw [← abs_val, ← abs_val, ← Int.natAbs_mul, h]; rfl
    rw [e, rn_zero, cw_zero, cw_zero]
  · have h1 : valOf F32 a ≠ 0 := fun e => h (by rw [e, Int.zero_mul])
    have h2 : valOf F32 b ≠ 0 := fun e => h (by rw [e, Int.mul_zero])
    have e : (negOf F32 a ^^ negOf F32 b) = decide (valOf F32 a * valOf F32 b < 0) := by
      rw [← val_neg h1, ← val_neg h2]
      generalize valOf F32 a = x at *
      generalize valOf F32 b = y at *
      rcases Int.lt_or_gt_of_ne h1 with p | p <;> rcases Int.lt_or_gt_of_ne h2 with q | q
      · have := Int.mul_pos_of_neg_of_neg p q
        simp [p, q]; omega
      · have := Int.mul_neg_of_neg_of_pos p q
        simp [p, this]; omega
      · have := Int.mul_neg_of_pos_of_neg p q
        simp [q, this]; omega
      · have := Int.mul_pos p q
        have n1 : ¬ x < 0 := by omega
        have n2 : ¬ y < 0 := by omega
        have n3 : ¬ x * y < 0 := by omega
        simp [n1, n2, n3]
    rw [e]

theorem rung_cw {s : Bool} {r : Nat} : rungOf F32 (cw s r) = if r = 0 ∨ 2139095040 ≤ r then 0 else r := by
  unfold cw
  by_cases h : r = 0 ∨ 2139095040 ≤ r
  · rw [if_pos h, if_pos h]; exact rung_of_lt (by omega)
  · rw [if_neg h, if_neg h, rungOf_word F32 s (by rw [F32_sw]; omega)]

theorem val_odd {f : Int → Nat} {T : Int} {q : Nat} (hf : ∀ T, f T = cw (decide (T < 0)) (rn F32 T.natAbs q)) : valOf F32 (f (-T)) = - valOf F32 (f T) := by
  rw [hf, hf, val_cw, val_cw, Int.natAbs_neg]
  by_cases h : rn F32 T.natAbs q = 0 ∨ 2139095040 ≤ rn F32 T.natAbs q
  · rw [if_pos h, if_pos h]; rfl
  · rw [if_neg h, if_neg h]
    have hT : T ≠ 0 := fun e => h (Or.inl (by rw [e]; exact rn_zero q))
    rcases Int.lt_or_gt_of_ne hT with p | p
    · have n1 : ¬ -T < 0 := by omega
      simp [p, n1]; intro; omega
    · have n1 : ¬ T < 0 := by omega
      have n2 : -T < 0 := by omega
      simp [n1, n2]; intro; omega
theorem tv_neg (T : Int) : tv (-T) = - tv T := val_odd (f := clT) (q := 0) (fun _ => rfl)
theorem mv_neg (T : Int) : mv (-T) = - mv T := val_odd (f := clM) (q := 149) (fun _ => rfl)
theorem clT_zero : clT 0 = 0 := by unfold clT; rw [Int.natAbs_zero, rn_zero, cw_zero]
theorem clM_zero : clM 0 = 0 := by unfold clM; rw [Int.natAbs_zero, rn_zero, cw_zero]
theorem tv_zero : tv 0 = 0 := by unfold tv; rw [clT_zero, val_zero]
theorem mv_zero : mv 0 = 0 := by unfold mv; rw [clM_zero, val_zero]
theorem mv_nonneg {P : Int} (h : 0 ≤ P) : 0 ≤ mv P := by
  unfold mv clM
  rw [val_cw]
  have n1 : ¬ P < 0 := by omega
  simp only [n1, decide_false, Bool.false_eq_true, if_false]
  split <;> omega
theorem tv_val {x : Nat} (h : Fin32 x) : tv (valOf F32 x) = valOf F32 x := by
  unfold tv clT
  have hr := fin_rung h
  rw [rn_self, val_cw]
  by_cases h0 : rungOf F32 x = 0
  · rw [if_pos (Or.inl h0), val_eq_zero.2 h0]
  · rw [if_neg (by omega), val_neg (fun e => h0 (val_eq_zero.1 e))]
    rfl
theorem clT_ok {T : Int} (h : T.natAbs ≤ magOf F32 1166016512) : okB (clT T) = true := by
  have h1 : rn F32 T.natAbs 0 ≤ 1166016512 := rn_le F32 (by simpa using h)
  have h2 := (clT_cl T).lt
  have h3 : rungOf F32 (clT T) ≤ 1166016512 := by
    unfold clT; rw [rung_cw]; split <;> omega
  unfold rungOf at h3
  rw [F32_sw] at h3
  simp [okB, h2, h3]

/-- Words in reach. -/
structure Rch (x : Nat) : Prop where
  lt : x < 4294967296
  inb : inB x = true
theorem inB_fin {x : Nat} (h : inB x = true) : Fin32 x := by
  by_cases hf : Fin32 x
  · exact hf
  · exfalso
    unfold inB at h
    have h' : (((F32.read x).order (F32.read 3313500160) == some .gt || (F32.read x).order (F32.read 3313500160) == some .eq) && ((F32.read x).order (F32.read 1166016512) == some .lt || (F32.read x).order (F32.read 1166016512) == some .eq)) = true := h
    have r1 : F32.read 3313500160 = .number true 8388608 (-11) := by kernel_rfl
    have r2 : F32.read 1166016512 = .number false 8388608 (-11) := by kernel_rfl
    rw [r1, r2] at h'
    have h1 : F32.infRung ≤ rungOf F32 x := Nat.le_of_not_lt hf
    rcases Nat.eq_or_lt_of_le h1 with h2 | h2
    · rw [read_inf F32 h2.symm F32_eb] at h'
      cases hn : negOf F32 x <;> rw [hn] at h' <;> simp [Datum.order] at h'
    · rw [read_nan F32 h2 F32_eb] at h'; simp [Datum.order] at h'
theorem Rch.fin {x : Nat} (h : Rch x) : Fin32 x := inB_fin h.inb
theorem ok_rch {x : Nat} (h : okB x = true) : Rch x := ⟨ok_lt h, ok_in h⟩
theorem inB_val {x y : Nat} (hx : Fin32 x) (hy : Fin32 y) (e : valOf F32 x = valOf F32 y ∨ valOf F32 x = - valOf F32 y) : inB x = inB y := by
  have e1 : rungOf F32 3313500160 = 1166016512 := by unfold rungOf; rw [F32_sw]
  have e2 : negOf F32 3313500160 = true := by unfold negOf; rw [F32_sw]; rfl
  have f1 : Fin32 3313500160 := by unfold Fin32; rw [e1, F32_inf]; decide
  have f2 : Fin32 1166016512 := fin_of_lt (by omega)
  have v1 : valOf F32 3313500160 = -(magOf F32 1166016512 : Int) := by unfold valOf; rw [e1, e2]; rfl
  have v2 := val_of_lt (x := 1166016512) (by omega)
  unfold inB
  rw [order_fin F32 hx f1, order_fin F32 hx f2, order_fin F32 hy f1, order_fin F32 hy f2, v1, v2]
  simp only [cmp_eq, cmp_lt, cmp_gt]
  generalize (magOf F32 1166016512 : Int) = m
  rw [Bool.eq_iff_iff]
  simp only [Bool.and_eq_true, Bool.or_eq_true, decide_eq_true_eq]
  omega

/-- The side of a point, by values: what is seen from a to b of p. -/
def sideZ (a1 a2 b1 b2 p1 p2 : Int) : Int := tv (mv (tv (b1 - a1) * tv (p2 - a2)) - mv (tv (b2 - a2) * tv (p1 - a1)))
def sideW (a1 a2 b1 b2 p1 p2 : Nat) : Nat :=
  clT (mv (tv (valOf F32 b1 - valOf F32 a1) * tv (valOf F32 p2 - valOf F32 a2)) - mv (tv (valOf F32 b2 - valOf F32 a2) * tv (valOf F32 p1 - valOf F32 a1)))
theorem val_side (a1 a2 b1 b2 p1 p2 : Nat) : valOf F32 (sideW a1 a2 b1 b2 p1 p2) = sideZ (valOf F32 a1) (valOf F32 a2) (valOf F32 b1) (valOf F32 b2) (valOf F32 p1) (valOf F32 p2) := rfl
theorem side_cl (a1 a2 b1 b2 p1 p2 : Nat) : Cl (sideW a1 a2 b1 b2 p1 p2) := clT_cl _

theorem tv_flip (a b : Int) : tv (-a - -b) = - tv (a - b) := by rw [← tv_neg]; congr 1; omega
theorem tv_swap (a b : Int) : tv (a - b) = - tv (b - a) := by rw [← tv_neg]; congr 1; omega
/-- A point whose parts are ±, or exchanged: the side is the same, or its negative. -/
theorem side_turn (a1 a2 b1 b2 p1 p2 : Int) : sideZ (-a2) a1 (-b2) b1 (-p2) p1 = sideZ a1 a2 b1 b2 p1 p2 := by
  unfold sideZ
  rw [tv_flip, tv_flip, Int.neg_mul, mv_neg, Int.mul_neg, mv_neg]
  congr 1
  rw [Int.sub_neg, Int.mul_comm (tv (b1 - a1))]
  omega
theorem side_flip (a1 a2 b1 b2 p1 p2 : Int) : sideZ a1 (-a2) b1 (-b2) p1 (-p2) = - sideZ a1 a2 b1 b2 p1 p2 := by
  unfold sideZ
  rw [tv_flip, tv_flip, Int.neg_mul, mv_neg, Int.mul_neg, mv_neg, ← tv_neg]
  congr 1
  omega
theorem side_at_a (a1 a2 b1 b2 : Int) : sideZ a1 a2 b1 b2 a1 a2 = 0 := by
  unfold sideZ
  rw [Int.sub_self, Int.sub_self, tv_zero, Int.mul_zero, Int.mul_zero, mv_zero, Int.sub_zero, tv_zero]
theorem side_at_b (a1 a2 b1 b2 : Int) : sideZ a1 a2 b1 b2 b1 b2 = 0 := by
  unfold sideZ
  rw [Int.mul_comm (tv (b2 - a2)), Int.sub_self, tv_zero]
end Go.Proofs.Ytekkgpanmccdgaa

/-
  Parts of colours: singles from 0 to 1, as words; how both sides ask for them.
-/
namespace Go.Proofs.Ytekkgpanmccdgaa
open Ieee

theorem read_zero : F32.read 0 = .number false 0 F32.leastPlace := by kernel_rfl
theorem read_one : F32.read 1065353216 = .number false 8388608 (-23) := by kernel_rfl

/-- What is no number: infinite, or NaN. -/
theorem not_fin {x : Nat} (h : ¬ Fin32 x) : (F32.read x = .infinity (negOf F32 x)) ∨ ∃ s t, F32.read x = .nan s t := by
  have h1 : F32.infRung ≤ rungOf F32 x := Nat.le_of_not_lt h
  rcases Nat.eq_or_lt_of_le h1 with h2 | h2
  · exact Or.inl (read_inf F32 h2.symm F32_eb)
  · exact Or.inr ⟨_, _, read_nan F32 h2 F32_eb⟩

theorem sub_self_none {x : Nat} (h : ¬ Fin32 x) : F32.sub x x = none := by
  unfold Format.sub
  rcases not_fin h with e | ⟨s, t, e⟩
  · rw [e]; cases negOf F32 x <;> rfl
  · rw [e]; rfl

/-- A part: +0 up to 1, or -0. -/
def Part (x : Nat) : Prop := x ≤ 1065353216 ∨ x = 2147483648

theorem Part.fin {x : Nat} (h : Part x) : Fin32 x := by
  rcases h with h | h
  · exact fin_of_lt (by omega)
  · subst h; unfold Fin32 rungOf; rw [F32_sw, F32_inf]; decide

theorem Part.lt {x : Nat} (h : Part x) : x < 4294967296 := by
  rcases h with h | h <;> omega

theorem share_part {x : Nat} (hx : x < 4294967296) (h : shareB x = true) : Part x := by
  by_cases hf : Fin32 x
  · unfold shareB at h
    rw [order_zero hf, order_fin F32 hf (fin_of_lt (x := 1065353216) (by omega)), val_of_lt (x := 1065353216) (by omega)] at h
    simp only [cmp_eq, cmp_lt, cmp_gt] at h
    simp only [Bool.and_eq_true, Bool.or_eq_true, decide_eq_true_eq] at h
    by_cases hlt : x < 2147483648
    · left
      rw [val_of_lt hlt] at h
      exact le_of_magOf F32 (by omega)
    · right
      have e1 : rungOf F32 x = x - 2147483648 := by unfold rungOf; rw [F32_sw]; omega
      have e2 : negOf F32 x = true := by unfold negOf; rw [F32_sw]; have : x / 2147483648 = 1 := by omega
                                         rw [this]; rfl
      unfold valOf at h
      rw [e1, e2] at h
      simp only [if_true] at h
      rcases Nat.eq_zero_or_pos (x - 2147483648) with h0 | h0
      · omega
      · have := magOf_pos h0; omega
  · exfalso
    unfold shareB at h
    have h1 : ∀ y, F32.order x y = (F32.read x).order (F32.read y) := fun _ => rfl
    have h' : (((F32.read x).order (F32.read 0) == some .gt || (F32.read x).order (F32.read 0) == some .eq) && ((F32.read x).order (F32.read 1065353216) == some .lt || (F32.read x).order (F32.read 1065353216) == some .eq)) = true := h
    rw [read_zero, read_one] at h'
    rcases not_fin hf with e | ⟨s, t, e⟩
    · rw [e] at h'; cases hn : negOf F32 x <;> rw [hn] at h' <;> simp [Datum.order] at h'
    · rw [e] at h'; simp [Datum.order] at h'

theorem part_share {x : Nat} (h : Part x) : shareB x = true := by
  have hf := h.fin
  unfold shareB
  rw [order_zero hf, order_fin F32 hf (fin_of_lt (x := 1065353216) (by omega)), val_of_lt (x := 1065353216) (by omega)]
  simp only [cmp_eq, cmp_lt, cmp_gt]
  simp only [Bool.and_eq_true, Bool.or_eq_true, decide_eq_true_eq]
  rcases h with h | h
  · rw [val_of_lt (by omega)]
    have := magOf_le F32 h
    omega
  · subst h
    have : valOf F32 2147483648 = 0 := val_eq_zero.2 (by unfold rungOf; rw [F32_sw])
    rw [this]; omega

theorem share_iff {x : Nat} (hx : x < 4294967296) : shareB x = true ↔ Part x := ⟨share_part hx, part_share⟩

section
variable {P : Program} (w : World)
/-- An operation that has no number for an answer: some NaN, drawn. -/
theorem run_float_nan (t : TypeId) (x y : Nat) (h : FloatKind.f32.format.sub x y = none) : (binOp .sub t (.float .f32 x) (.float .f32 y)).run P w = .ok (.float .f32 ((Question.nanBits .f32 x y).cut (w.tape w.drawn (.nanBits .f32 x y)))) w.drew := by
  simp [binOp, Op.floatArith, h, Question.forced]
end

theorem nan_order (x y t : Nat) : (FloatKind.f32.format.order ((Question.nanBits .f32 x y).cut t) 0 == some .eq) = false := by
  have h : F32.infRung < rungOf F32 ((Question.nanBits .f32 x y).cut t) := by
    show _ < rungOf F32 (t % 2 * 2 ^ 31 + 0x7f800000 + 1 + t / 2 % (2 ^ 23 - 1))
    unfold rungOf
    rw [F32_inf, F32_sw]
    have hb : t / 2 % (2 ^ 23 - 1) < 2 ^ 23 - 1 := Nat.mod_lt _ (by omega)
    have ha : t % 2 = 0 ∨ t % 2 = 1 := by omega
    generalize t / 2 % (2 ^ 23 - 1) = b at hb ⊢
    rcases ha with e | e <;> rw [e] <;> omega
  show ((F32.read _).order (F32.read 0) == some .eq) = false
  rw [read_nan F32 h F32_eb]; rfl
end Go.Proofs.Ytekkgpanmccdgaa

/-
  Is it a part? Contracts of both sides.
-/
namespace Go.Proofs.Ytekkgpanmccdgaa
open Go.ChangeShapes Go.WideShapes Go.ChangeAt Go.RowKit Go.Joins
set_option linter.unusedSimpArgs false
set_option linter.unusedVariables false
set_option maxRecDepth 100000
attribute [local go_sem] store_f

theorem l1Single_yes (x : Nat) (w : World) (h : FloatKind.f32.format.sub x x = some 0) :
    Calls Try.prog 136 #[.float .f32 x] w fun e w' => e = .returned (.bool true) ∧ Below w.heap.size w w' := by
  have hop := fun t w => run_float_arith (P := Try.prog) w .sub t .f32 x x 0 h
  have h0 : (FloatKind.f32.format.order 0 0 == some .eq) = true := by kernel_rfl
  go_enter Try.func136, Try.ntmps136
  go_wp2_with (simp only [hop])
  all_goals (go_ret; exact ⟨by simp_all, Below.refl _ _⟩)

theorem l1Single_no (x : Nat) (w : World) (h : FloatKind.f32.format.sub x x = none) :
    Calls Try.prog 136 #[.float .f32 x] w fun e w' => e = .returned (.bool false) ∧ Below w.heap.size w w' := by
  have hop := fun t w => run_float_nan (P := Try.prog) w t x x h
  have h0 := nan_order x x
  go_enter Try.func136, Try.ntmps136
  go_wp2_with (simp only [hop])
  all_goals (go_ret; exact ⟨by simp_all, by (repeat' (first | (with_reducible exact Below.refl _ _) | (with_reducible assumption) | (with_reducible refine Below.alloc ?_ ?_ _) | (with_reducible refine Below.drew ?_) | (with_reducible refine Below.setCell ?_ ?_ _) | (with_reducible refine Below.trans ?_ (Below.mono (by assumption) ?_)) | (with_reducible exact Nat.le_refl _) | omega | (simp only [World.size_alloc, World.size_setCell, World.size_drew]; omega) | (simp; omega) | (simp; done)))⟩)


theorem l1Single_s (x : Nat) (w : World) :
    Calls Try.prog 136 #[.float .f32 x] w fun e w' => e = .returned (.bool (rungOf F32 x < F32.infRung)) ∧ Below w.heap.size w w' := by
  by_cases h : Fin32 x
  · refine (l1Single_yes x w (sub_self h)).mono ?_
    rintro e w1 ⟨rfl, hb⟩
    have h' : rungOf F32 x < F32.infRung := h
    exact ⟨by simp [h'], hb⟩
  · refine (l1Single_no x w (sub_self_none h)).mono ?_
    rintro e w1 ⟨rfl, hb⟩
    have h' : ¬ rungOf F32 x < F32.infRung := h
    exact ⟨by simp [h'], hb⟩

theorem part_fin' {x : Nat} (hx : x < 4294967296) (h : ¬ rungOf F32 x < F32.infRung) : shareB x = false := by
  cases h1 : shareB x
  · rfl
  · exact absurd (share_part hx h1).fin h

theorem l2Part_s (x : Nat) (hx : x < 4294967296) (w : World) :
    Calls Try.prog 108 #[.float .f32 x] w fun e w' => e = .returned (.bool (shareB x)) ∧ Below w.heap.size w w' := by
  have HX : Hid (x < 4294967296) := hx
  clear hx
  by_cases hs : rungOf F32 x < F32.infRung
  · go_enter Try.func108, Try.ntmps108
    go_wp2_with (go_at_call 136; refine (l1Single_s _ _).mono ?_; rintro e w1 ⟨rfl, hb⟩; simp only [hs, decide_true])
    all_goals (go_ret; exact ⟨by simp_all [shareB], by (repeat' (first | (with_reducible exact Below.refl _ _) | (with_reducible assumption) | (with_reducible refine Below.alloc ?_ ?_ _) | (with_reducible refine Below.drew ?_) | (with_reducible refine Below.setCell ?_ ?_ _) | (with_reducible refine Below.trans ?_ (Below.mono (by assumption) ?_)) | (with_reducible exact Nat.le_refl _) | omega | (simp only [World.size_alloc, World.size_setCell, World.size_drew]; omega) | (simp; omega) | (simp; done)))⟩)
  · have H2 : Hid (shareB x = false) := part_fin' HX.out hs
    go_enter Try.func108, Try.ntmps108
    go_wp2_with (go_at_call 136; refine (l1Single_s _ _).mono ?_; rintro e w1 ⟨rfl, hb⟩; simp only [hs, decide_false])
    all_goals (go_ret; exact ⟨by simp [H2.out], by (repeat' (first | (with_reducible exact Below.refl _ _) | (with_reducible assumption) | (with_reducible refine Below.alloc ?_ ?_ _) | (with_reducible refine Below.drew ?_) | (with_reducible refine Below.setCell ?_ ?_ _) | (with_reducible refine Below.trans ?_ (Below.mono (by assumption) ?_)) | (with_reducible exact Nat.le_refl _) | omega | (simp only [World.size_alloc, World.size_setCell, World.size_drew]; omega) | (simp; omega) | (simp; done)))⟩)

theorem l2Part_is {x : Nat} {s : Bool} (hs : shareB x = s) (hx : x < 4294967296) (w : World) :
    Calls Try.prog 108 #[.float .f32 x] w fun e w' => e = .returned (.bool s) ∧ Below w.heap.size w w' := hs ▸ l2Part_s x hx w
end Go.Proofs.Ytekkgpanmccdgaa

/-
  A function over the three parts: is each a part?
-/
namespace Go.Proofs.Ytekkgpanmccdgaa
open Go.ChangeShapes Go.WideShapes Go.ChangeAt Go.RowKit Go.Joins
set_option linter.unusedSimpArgs false
set_option linter.unusedVariables false
set_option maxRecDepth 100000
attribute [local go_sem] store_f

/-- Three cells, the first k of which are filled. -/
def row3 (a b c z : Value) (k : Int) : Array Value := #[if 0 < k then a else z, if 1 < k then b else z, if 2 < k then c else z]

theorem fBelow {W w1 : World} {b i : Nat} (hb : Below W.heap.size W w1) (hl : b < W.heap.size) (h : W.frozen? ⟨b, i, Option.none⟩ = false) : w1.frozen? ⟨b, i, Option.none⟩ = false := (hb.frozen (p := ⟨b, i, Option.none⟩) hl).trans h
theorem fDrew {W : World} {a : Addr} (h : W.frozen? a = false) : W.drew.frozen? a = false := h


theorem eachShare_i (x y z : Nat) (w : World) :
    Calls Try.prog 122 #[.agg #[.float .f32 x, .float .f32 y, .float .f32 z], .func (.func 55) #[] #[]] w fun e w' =>
      e = .returned (.agg #[.bool (shareB x), .bool (shareB y), .bool (shareB z)]) ∧ Below w.heap.size w w' := by
  have x0 : ∀ w : World, (Instr.index 129 (.agg #[.float .f32 x, .float .f32 y, .float .f32 z]) (.int .i64 0)).run Try.prog w = .ok (.float .f32 x) w := fun _ => by kernel_rfl
  have x1 : ∀ w : World, (Instr.index 129 (.agg #[.float .f32 x, .float .f32 y, .float .f32 z]) (.int .i64 1)).run Try.prog w = .ok (.float .f32 y) w := fun _ => by kernel_rfl
  have x2 : ∀ w : World, (Instr.index 129 (.agg #[.float .f32 x, .float .f32 y, .float .f32 z]) (.int .i64 2)).run Try.prog w = .ok (.float .f32 z) w := fun _ => by kernel_rfl
  go_enter Try.func122, Try.ntmps122
  go_wp2_with fail
  go_loopw [9] (fun i wr => ∃ k : Int, (k = 0 ∨ k = 1 ∨ k = 2 ∨ k = 3) ∧ i = .int .i64 k ∧ Blk wr (w.heap.size + 2) (row3 (.bool (shareB x)) (.bool (shareB y)) (.bool (shareB z)) (.bool false) k) 152 ∧ Blk wr (w.heap.size + 1) #[.bool false, .bool false, .bool false] 152 ∧ Below w.heap.size w wr)
    (fun i _ => 3 - (intOf i).toNat)
  case atStart => exact ⟨0, Or.inl rfl, rfl, Blk.newAt (by simp), (Blk.newAt (by simp)).alloc, by (repeat' (first | (with_reducible exact Below.refl _ _) | (with_reducible assumption) | (with_reducible refine Below.alloc ?_ ?_ _) | (with_reducible refine Below.drew ?_) | (with_reducible refine Below.setCell ?_ ?_ _) | (with_reducible refine Below.trans ?_ (Below.mono (by assumption) ?_)) | (with_reducible exact Nat.le_refl _) | omega | (simp only [World.size_alloc, World.size_setCell, World.size_drew]; omega) | (simp; omega) | (simp; done)))⟩
  case round =>
    obtain ⟨k, hk, rfl, hB2, hB1, hbel⟩ := hrel
    have l2 := hB2.lt
    have l1 := hB1.lt
    have c20 := hB2.cell 0
    have c21 := hB2.cell 1
    have c22 := hB2.cell 2
    have f20 := hB2.free 0
    have f21 := hB2.free 1
    have f22 := hB2.free 2
    have c10 := hB1.cell 0
    have c11 := hB1.cell 1
    have c12 := hB1.cell 2
    have f10 := hB1.free 0
    have f11 := hB1.free 1
    have f12 := hB1.free 2
    have H2 : Hid (Blk wr (w.heap.size + 2) (row3 (.bool (shareB x)) (.bool (shareB y)) (.bool (shareB z)) (.bool false) k) 152) := hB2
    have H1 : Hid (Blk wr (w.heap.size + 1) #[.bool false, .bool false, .bool false] 152) := hB1
    clear hB2 hB1
    rcases hk with rfl | rfl | rfl | rfl
    all_goals simp [row3] at c20 c21 c22 c10 c11 c12
    · go_wp2_with (first | simp only [x0] | (go_at_call 55; refine (isShare_i _ _).mono ?_; rintro e w1 ⟨rfl, rfl⟩))
      go_roundw
      case rel => exact ⟨1, by omega, rfl, H2.out.set, H1.out.other (by simp), by (repeat' (first | (with_reducible exact Below.refl _ _) | (with_reducible assumption) | (with_reducible refine Below.alloc ?_ ?_ _) | (with_reducible refine Below.drew ?_) | (with_reducible refine Below.setCell ?_ ?_ _) | (with_reducible refine Below.trans ?_ (Below.mono (by assumption) ?_)) | (with_reducible exact Nat.le_refl _) | omega | (simp only [World.size_alloc, World.size_setCell, World.size_drew]; omega) | (simp; omega) | (simp; done)))⟩
      case measure => simp [intOf]
    · go_wp2_with (first | simp only [x1] | (go_at_call 55; refine (isShare_i _ _).mono ?_; rintro e w1 ⟨rfl, rfl⟩))
      go_roundw
      case rel => exact ⟨2, by omega, rfl, H2.out.set, H1.out.other (by simp), by (repeat' (first | (with_reducible exact Below.refl _ _) | (with_reducible assumption) | (with_reducible refine Below.alloc ?_ ?_ _) | (with_reducible refine Below.drew ?_) | (with_reducible refine Below.setCell ?_ ?_ _) | (with_reducible refine Below.trans ?_ (Below.mono (by assumption) ?_)) | (with_reducible exact Nat.le_refl _) | omega | (simp only [World.size_alloc, World.size_setCell, World.size_drew]; omega) | (simp; omega) | (simp; done)))⟩
      case measure => simp [intOf]
    · go_wp2_with (first | simp only [x2] | (go_at_call 55; refine (isShare_i _ _).mono ?_; rintro e w1 ⟨rfl, rfl⟩))
      go_roundw
      case rel => exact ⟨3, by omega, rfl, H2.out.set, H1.out.other (by simp), by (repeat' (first | (with_reducible exact Below.refl _ _) | (with_reducible assumption) | (with_reducible refine Below.alloc ?_ ?_ _) | (with_reducible refine Below.drew ?_) | (with_reducible refine Below.setCell ?_ ?_ _) | (with_reducible refine Below.trans ?_ (Below.mono (by assumption) ?_)) | (with_reducible exact Nat.le_refl _) | omega | (simp only [World.size_alloc, World.size_setCell, World.size_drew]; omega) | (simp; omega) | (simp; done)))⟩
      case measure => simp [intOf]
    · have d0 := (H1.out.set (i := 0) (v := .bool (shareB x))).cell 0
      have d1 := ((H1.out.set (i := 0) (v := .bool (shareB x))).set (i := 1) (v := .bool (shareB y))).cell 1
      have d2 := (((H1.out.set (i := 0) (v := .bool (shareB x))).set (i := 1) (v := .bool (shareB y))).set (i := 2) (v := .bool (shareB z))).cell 2
      simp only [List.setIfInBounds_toArray, List.set_cons_zero, List.set_cons_succ, List.getElem?_toArray, List.getElem?_cons_zero, List.getElem?_cons_succ] at d0 d1 d2
      go_wp2
      exact bodyPost_ret (v := .agg #[.bool (shareB x), .bool (shareB y), .bool (shareB z)]) (by simp [results, Try.results122, go_sem, d0, d1, d2]) rfl ⟨rfl, by (repeat' (first | (with_reducible exact Below.refl _ _) | (with_reducible assumption) | (with_reducible refine Below.alloc ?_ ?_ _) | (with_reducible refine Below.drew ?_) | (with_reducible refine Below.setCell ?_ ?_ _) | (with_reducible refine Below.trans ?_ (Below.mono (by assumption) ?_)) | (with_reducible exact Nat.le_refl _) | omega | (simp only [World.size_alloc, World.size_setCell, World.size_drew]; omega) | (simp; omega) | (simp; done)))⟩
end Go.Proofs.Ytekkgpanmccdgaa

/-
  Is it a colour? Contracts of both sides, of toColour.
-/
namespace Go.Proofs.Ytekkgpanmccdgaa
open Go.ChangeShapes Go.WideShapes Go.ChangeAt Go.RowKit Go.Joins
set_option linter.unusedSimpArgs false
set_option linter.unusedVariables false
set_option maxRecDepth 100000
attribute [local go_sem] store_f

def colB (r g b : Nat) : Bool := shareB r && shareB g && shareB b

theorem toColour_any (r g b : Nat) (w : World) :
    Calls Try.prog 119 #[colV r g b] w fun e w' => e = .returned (colV r g b) ∧ Below w.heap.size w w' := by
  unfold colV
  go_enter Try.func119, Try.ntmps119
  go_wp2
  go_returns; exact ⟨rfl, by (repeat' (first | (with_reducible exact Below.refl _ _) | (with_reducible assumption) | (with_reducible refine Below.alloc ?_ ?_ _) | (with_reducible refine Below.drew ?_) | (with_reducible refine Below.setCell ?_ ?_ _) | (with_reducible refine Below.trans ?_ (Below.mono (by assumption) ?_)) | (with_reducible exact Nat.le_refl _) | omega | (simp only [World.size_alloc, World.size_setCell, World.size_drew]; omega) | (simp; omega) | (simp; done)))⟩

set_option maxHeartbeats 800000 in
theorem isColour_s (r g b : Nat) (hr : r < 4294967296) (hg : g < 4294967296) (hb : b < 4294967296) (w : World) :
    Calls Try.prog 116 #[colV r g b] w fun e w' => e = .returned (.bool (colB r g b)) ∧ Below w.heap.size w w' := by
  unfold colV colB
  cases hsr : shareB r
  · go_enter Try.func116, Try.ntmps116
    go_wp2_with (go_at_call 108; refine (l2Part_s _ (by assumption) _).mono ?_; rintro e w1 ⟨rfl, hb⟩; simp only [hsr]; obtain ⟨hc, hf⟩ := bcell hb; have HL := keepL (by (repeat (first | (with_reducible assumption) | (with_reducible apply AllLt.alloc) | (with_reducible apply AllLt.setCell) | (with_reducible apply AllLt.drew) | (with_reducible exact AllLt.nil _)))) hb; have hq := HL; simp only [AllLt, and_true, World.size_alloc, World.size_setCell, World.size_drew] at hq; have hbs := hb.size; try simp only [World.size_alloc, World.size_setCell, World.size_drew] at hbs)
    all_goals go_returns; exact ⟨rfl, by (repeat' (first | (with_reducible exact Below.refl _ _) | (with_reducible assumption) | (with_reducible refine Below.alloc ?_ ?_ _) | (with_reducible refine Below.drew ?_) | (with_reducible refine Below.setCell ?_ ?_ _) | (with_reducible refine Below.trans ?_ (Below.mono (by assumption) ?_)) | (with_reducible exact Nat.le_refl _) | omega | (simp only [World.size_alloc, World.size_setCell, World.size_drew]; omega) | (simp; omega) | (simp; done)))⟩
  · cases hsg : shareB g
    · go_enter Try.func116, Try.ntmps116
      go_wp2_with (go_at_call 108; refine (l2Part_s _ (by assumption) _).mono ?_; rintro e w1 ⟨rfl, hb⟩; simp only [hsr, hsg]; obtain ⟨hc, hf⟩ := bcell hb; have HL := keepL (by (repeat (first | (with_reducible assumption) | (with_reducible apply AllLt.alloc) | (with_reducible apply AllLt.setCell) | (with_reducible apply AllLt.drew) | (with_reducible exact AllLt.nil _)))) hb; have hq := HL; simp only [AllLt, and_true, World.size_alloc, World.size_setCell, World.size_drew] at hq; have hbs := hb.size; try simp only [World.size_alloc, World.size_setCell, World.size_drew] at hbs)
      all_goals go_returns; exact ⟨rfl, by (repeat' (first | (with_reducible exact Below.refl _ _) | (with_reducible assumption) | (with_reducible refine Below.alloc ?_ ?_ _) | (with_reducible refine Below.drew ?_) | (with_reducible refine Below.setCell ?_ ?_ _) | (with_reducible refine Below.trans ?_ (Below.mono (by assumption) ?_)) | (with_reducible exact Nat.le_refl _) | omega | (simp only [World.size_alloc, World.size_setCell, World.size_drew]; omega) | (simp; omega) | (simp; done)))⟩
    · cases hsb : shareB b
      · go_enter Try.func116, Try.ntmps116
        go_wp2_with (go_at_call 108; refine (l2Part_s _ (by assumption) _).mono ?_; rintro e w1 ⟨rfl, hb⟩; simp only [hsr, hsg, hsb]; obtain ⟨hc, hf⟩ := bcell hb; have HL := keepL (by (repeat (first | (with_reducible assumption) | (with_reducible apply AllLt.alloc) | (with_reducible apply AllLt.setCell) | (with_reducible apply AllLt.drew) | (with_reducible exact AllLt.nil _)))) hb; have hq := HL; simp only [AllLt, and_true, World.size_alloc, World.size_setCell, World.size_drew] at hq; have hbs := hb.size; try simp only [World.size_alloc, World.size_setCell, World.size_drew] at hbs)
        all_goals go_returns; exact ⟨rfl, by (repeat' (first | (with_reducible exact Below.refl _ _) | (with_reducible assumption) | (with_reducible refine Below.alloc ?_ ?_ _) | (with_reducible refine Below.drew ?_) | (with_reducible refine Below.setCell ?_ ?_ _) | (with_reducible refine Below.trans ?_ (Below.mono (by assumption) ?_)) | (with_reducible exact Nat.le_refl _) | omega | (simp only [World.size_alloc, World.size_setCell, World.size_drew]; omega) | (simp; omega) | (simp; done)))⟩
      · go_enter Try.func116, Try.ntmps116
        go_wp2_with (go_at_call 108; refine (l2Part_s _ (by assumption) _).mono ?_; rintro e w1 ⟨rfl, hb⟩; simp only [hsr, hsg, hsb]; obtain ⟨hc, hf⟩ := bcell hb; have HL := keepL (by (repeat (first | (with_reducible assumption) | (with_reducible apply AllLt.alloc) | (with_reducible apply AllLt.setCell) | (with_reducible apply AllLt.drew) | (with_reducible exact AllLt.nil _)))) hb; have hq := HL; simp only [AllLt, and_true, World.size_alloc, World.size_setCell, World.size_drew] at hq; have hbs := hb.size; try simp only [World.size_alloc, World.size_setCell, World.size_drew] at hbs)
        all_goals go_returns; exact ⟨rfl, by (repeat' (first | (with_reducible exact Below.refl _ _) | (with_reducible assumption) | (with_reducible refine Below.alloc ?_ ?_ _) | (with_reducible refine Below.drew ?_) | (with_reducible refine Below.setCell ?_ ?_ _) | (with_reducible refine Below.trans ?_ (Below.mono (by assumption) ?_)) | (with_reducible exact Nat.le_refl _) | omega | (simp only [World.size_alloc, World.size_setCell, World.size_drew]; omega) | (simp; omega) | (simp; done)))⟩

theorem partsOf_i (r g b : Nat) (w : World) :
    Calls Try.prog 123 #[colV r g b] w fun e w' => e = .returned (.agg #[.float .f32 r, .float .f32 g, .float .f32 b]) ∧ Below w.heap.size w w' := by
  unfold colV
  go_enter Try.func123, Try.ntmps123
  go_wp2
  go_returns; exact ⟨rfl, by (repeat' (first | (with_reducible exact Below.refl _ _) | (with_reducible assumption) | (with_reducible refine Below.alloc ?_ ?_ _) | (with_reducible refine Below.drew ?_) | (with_reducible refine Below.setCell ?_ ?_ _) | (with_reducible refine Below.trans ?_ (Below.mono (by assumption) ?_)) | (with_reducible exact Nat.le_refl _) | omega | (simp only [World.size_alloc, World.size_setCell, World.size_drew]; omega) | (simp; omega) | (simp; done)))⟩

theorem isColour_i (r g b : Nat) (w : World) :
    Calls Try.prog 87 #[colV r g b] w fun e w' => e = .returned (.bool (colB r g b)) ∧ Below w.heap.size w w' := by
  unfold colV colB
  have he : ∀ (a b c : Bool) (w : World), (binOp .eql 152 (.agg #[.bool a, .bool b, .bool c]) (.agg #[.bool true, .bool true, .bool true])).run Try.prog w = .ok (.bool (a && b && c)) w := fun a b c w => by cases a <;> cases b <;> cases c <;> kernel_rfl
  go_enter Try.func87, Try.ntmps87
  go_wp2_with (first | (go_at_call 123; refine (partsOf_i _ _ _ _).mono ?_; rintro e w1 ⟨rfl, hb⟩; obtain ⟨hc, hf⟩ := bcell hb; have HL := keepL (by (repeat (first | (with_reducible assumption) | (with_reducible apply AllLt.alloc) | (with_reducible apply AllLt.setCell) | (with_reducible apply AllLt.drew) | (with_reducible exact AllLt.nil _)))) hb; have hq := HL; simp only [AllLt, and_true, World.size_alloc, World.size_setCell, World.size_drew] at hq; have hbs := hb.size; try simp only [World.size_alloc, World.size_setCell, World.size_drew] at hbs) | (go_at_call 122; refine (eachShare_i _ _ _ _).mono ?_; rintro e w2 ⟨rfl, hb⟩; obtain ⟨hc, hf⟩ := bcell hb; have HL := keepL (by (repeat (first | (with_reducible assumption) | (with_reducible apply AllLt.alloc) | (with_reducible apply AllLt.setCell) | (with_reducible apply AllLt.drew) | (with_reducible exact AllLt.nil _)))) hb; have hq := HL; simp only [AllLt, and_true, World.size_alloc, World.size_setCell, World.size_drew] at hq; have hbs := hb.size; try simp only [World.size_alloc, World.size_setCell, World.size_drew] at hbs) | simp only [he])
  all_goals (go_returns; exact ⟨rfl, by (repeat' (first | (with_reducible exact Below.refl _ _) | (with_reducible assumption) | (with_reducible refine Below.alloc ?_ ?_ _) | (with_reducible refine Below.drew ?_) | (with_reducible refine Below.setCell ?_ ?_ _) | (with_reducible refine Below.trans ?_ (Below.mono (by assumption) ?_)) | (with_reducible exact Nat.le_refl _) | omega | (simp only [World.size_alloc, World.size_setCell, World.size_drew]; omega) | (simp; omega) | (simp; done)))⟩)
end Go.Proofs.Ytekkgpanmccdgaa
