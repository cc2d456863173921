/-
  All that the law of products calls, for three symmetries and a point in reach.
-/
import Derived.Test.YtfdgijmmgllmgaaFm
namespace Go.Proofs.Ytfdgijmmgllmgaa
open Go.ChangeShapes Go.WideShapes Go.ChangeAt Go.RowKit Go.Joins
set_option linter.unusedSimpArgs false
set_option linter.unusedVariables false
set_option maxRecDepth 100000
attribute [local go_sem] store_f
open Ieee

/-- A symmetry held against itself, field by field. -/
theorem run_eq_sym (t : Int) (f : Bool) (w : World) :
    (Op.equalIn 10000 101 (.agg #[.int .i64 t, .bool f]) (.agg #[.int .i64 t, .bool f])).run Try.prog w = .ok true w := by
  have u := Try.underlying3
  have u2 := Try.underlying4
  have a24 := Try.isAgg3
  have z24 := Try.sizeOf3
  have a25 := Try.isAgg4
  have z25 := Try.sizeOf4
  have hS : Try.prog.underlying 101 = some (.struct (Try.prog.fieldsOf 101)) := by kernel_rfl
  have hp : Try.prog.stoodInHeld 101 = false := by kernel_rfl
  rw [show (10000 : Nat) = 9999 + 1 from rfl, run_equalIn_agg w 9999 101 _ _ hS hp]
  simp only [Program.fieldsOf, Try.underlying101]
  go_simp

theorem ok_clean {x : Nat} (h : okB x = true) : okB (cleanB x) = true := by
  rw [clean_eq (ok_fin h)]
  split
  · exact ok_zero
  · exact h
theorem ok_ng {x : Nat} (h : okB x = true) : okB (ngB x) = true := by
  have hr := ok_rung h
  unfold ngB
  split
  · exact ok_zero
  · have e : F32.word (!negOf F32 x) (rungOf F32 x) = (if (!negOf F32 x) then 2147483648 else 0) + rungOf F32 x := by
      unfold Format.word; rw [F32_sw]; cases negOf F32 x <;> simp
    rw [e]
    simp only [okB, Bool.and_eq_true, decide_eq_true_eq]
    split <;> omega
/-- Parts of images: of 32 bits, finite, no -0, in reach. -/
structure Pt (x : Nat) : Prop where
  cl : Cl x
  ok : okB x = true
theorem pt_clean {x : Nat} (h : okB x = true) : Pt (cleanB x) := ⟨cl_clean (ok_fin h) (ok_lt h), ok_clean h⟩
theorem pt_ng {x : Nat} (h : okB x = true) : Pt (ngB x) := ⟨cl_ng (ok_fin h), ok_ng h⟩
theorem act_pt (t : Nat) (f : Bool) {x y : Nat} (hx : Pt x) (hy : Pt y) : Pt (actV t f x (ngB x) y (ngB y)).1 ∧ Pt (actV t f x (ngB x) y (ngB y)).2 := by
  have nx := pt_ng hx.ok
  have ny := pt_ng hy.ok
  unfold actV
  split <;> exact ⟨by assumption, by assumption⟩

structure ActM (t : Int) (f : Bool) (x y p q : Nat) : Prop where
  call : ∀ w : World, Calls Try.prog 104 #[.agg #[.int .i64 t, .bool f], .complex .f32 x y] w fun e w' => e = .returned (.complex .f32 p q) ∧ Below w.heap.size w w'

theorem act_of {t : Nat} (f : Bool) {x y : Nat} (ht : t < 4) (hx : okB x = true) (hy : okB y = true) :
    ActM t f x y (actV t f (cleanB x) (ngB (cleanB x)) (cleanB y) (ngB (cleanB y))).1 (actV t f (cleanB x) (ngB (cleanB x)) (cleanB y) (ngB (cleanB y))).2 := by
  rw [ng_clean (ok_fin hx), ng_clean (ok_fin hy)]
  exact ⟨fun w => actSym_i t f x y _ _ _ _ w ht (ok_in hx) (ok_in hy) (parts_of (ok_fin hx) (ok_lt hx)) (parts_of (ok_fin hy) (ok_lt hy))⟩
theorem act_of_pt {t : Nat} (f : Bool) {x y : Nat} (ht : t < 4) (hx : Pt x) (hy : Pt y) :
    ActM t f x y (actV t f x (ngB x) y (ngB y)).1 (actV t f x (ngB x) y (ngB y)).2 := by
  have h := act_of f ht hx.ok hy.ok
  rwa [cl_clean_eq hx.cl, cl_clean_eq hy.cl] at h

theorem order_self {x : Nat} (h : Fin32 x) : (FloatKind.f32.format.order x x == some .eq) = true := by
  show (F32.order x x == some .eq) = true
  rw [order_fin F32 h h, cmp_eq]; simp
theorem order_clean {x : Nat} (h : okB x = true) : (FloatKind.f32.format.order (cleanB x) x == some .eq) = true := by
  show (F32.order (cleanB x) x == some .eq) = true
  rw [order_fin F32 (cl_clean (ok_fin h) (ok_lt h)).fin (ok_fin h), cmp_eq]
  rw [clean_eq (ok_fin h)]
  by_cases h0 : rungOf F32 x = 0
  · rw [if_pos h0, val_zero, val_eq_zero.2 h0]; rfl
  · rw [if_neg h0]; simp

theorem then_assoc : ∀ (t u v : Fin 4) (f g h : Bool), thenT (t.val : Int) (thenT (u.val : Int) (v.val : Int) h) (thenF u.val v.val g h) = thenT (thenT (t.val : Int) (u.val : Int) g) (v.val : Int) h ∧ thenF (t.val : Int) (thenT (u.val : Int) (v.val : Int) h) f (thenF u.val v.val g h) = thenF (thenT (t.val : Int) (u.val : Int) g) (v.val : Int) (thenF t.val u.val f g) h := by decide +kernel
theorem then_back : ∀ (t : Fin 4) (f : Bool), thenT (t.val : Int) (backT t.val f) (backF t.val f) = 0 ∧ thenF t.val (backT t.val f) f (backF t.val f) = false ∧ thenT (backT t.val f) (t.val : Int) f = 0 ∧ thenF (backT t.val f) t.val (backF t.val f) f = false ∧ thenT 0 (t.val : Int) f = t.val ∧ thenF 0 (t.val : Int) false f = f := by decide +kernel
theorem then_in : ∀ (t u : Fin 4) (f : Bool), thenT (t.val : Int) (u.val : Int) f = ((thenT (t.val : Int) (u.val : Int) f).toNat : Int) ∧ (thenT (t.val : Int) (u.val : Int) f).toNat < 4 := by decide +kernel
theorem back_in : ∀ (t : Fin 4) (f : Bool), backT (t.val : Int) f = ((backT (t.val : Int) f).toNat : Int) ∧ (backT (t.val : Int) f).toNat < 4 := by decide +kernel

end Go.Proofs.Ytfdgijmmgllmgaa
