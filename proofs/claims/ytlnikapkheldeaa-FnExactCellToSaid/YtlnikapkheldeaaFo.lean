/-
  All that the law of products calls, for three symmetries and a point in reach.
-/
import Derived.Test.YtlnikapkheldeaaFm
namespace Go.Proofs.Ytlnikapkheldeaa
open Go.ChangeShapes Go.WideShapes Go.ChangeAt Go.RowKit Go.Joins
set_option linter.unusedSimpArgs false
set_option linter.unusedVariables false
set_option maxRecDepth 100000
attribute [local go_sem] store_f
open Ieee

/-- A symmetry held against itself, field by field. -/
theorem run_eq_sym (t : Int) (f : Bool) (w : World) :
    (Op.equalIn 10000 25 (.agg #[.int .i64 t, .bool f]) (.agg #[.int .i64 t, .bool f])).run Try.prog w = .ok true w := by
  have u := Try.underlying3
  have u2 := Try.underlying4
  have a24 := Try.isAgg3
  have z24 := Try.sizeOf3
  have a25 := Try.isAgg4
  have z25 := Try.sizeOf4
  have hS : Try.prog.underlying 25 = some (.struct (Try.prog.fieldsOf 25)) := by kernel_rfl
  have hp : Try.prog.stoodInHeld 25 = false := by kernel_rfl
  rw [show (10000 : Nat) = 9999 + 1 from rfl, run_equalIn_agg w 9999 25 _ _ hS hp]
  simp only [Program.fieldsOf, Try.underlying25]
  go_simp

theorem ok_clean {x : Nat} (h : okB x = true) : okB (cleanB x) = true := by
  rw [clean_eq (ok_fin h)]
  split
  · exact ok_zero
  · exact h
theorem ok_ng {x : Nat} (h : okB x = true) : okB (ngB x) = true := by
  have hr := ok_rung h
  unfold ngB
  split
  · exact ok_zero
  · have e : F32.word (!negOf F32 x) (rungOf F32 x) = (if (!negOf F32 x) then 2147483648 else 0) + rungOf F32 x := by
      unfold Format.word; rw [F32_sw]; cases negOf F32 x <;> simp
    rw [e]
    simp only [okB, Bool.and_eq_true, decide_eq_true_eq]
    split <;> omega
/-- Parts of images: of 32 bits, finite, no -0, in reach. -/
structure Pt (x : Nat) : Prop where
  cl : Cl x
  ok : okB x = true
theorem pt_clean {x : Nat} (h : okB x = true) : Pt (cleanB x) := ⟨cl_clean (ok_fin h) (ok_lt h), ok_clean h⟩
theorem pt_ng {x : Nat} (h : okB x = true) : Pt (ngB x) := ⟨cl_ng (ok_fin h), ok_ng h⟩
theorem act_pt (t : Nat) (f : Bool) {x y : Nat} (hx : Pt x) (hy : Pt y) : Pt (actV t f x (ngB x) y (ngB y)).1 ∧ Pt (actV t f x (ngB x) y (ngB y)).2 := by
  have nx := pt_ng hx.ok
  have ny := pt_ng hy.ok
  unfold actV
  split <;> exact ⟨by assumption, by assumption⟩

structure ThenM (t : Int) (f : Bool) (u : Int) (g : Bool) (p : Int) (a : Bool) : Prop where
  call : ∀ w : World, Calls Try.prog 25 #[.agg #[.int .i64 t, .bool f], .agg #[.int .i64 u, .bool g]] w fun e w' => e = .returned (.agg #[.int .i64 p, .bool a]) ∧ Below w.heap.size w w'
structure BackM (t : Int) (f : Bool) (p : Int) (a : Bool) : Prop where
  call : ∀ w : World, Calls Try.prog 26 #[.agg #[.int .i64 t, .bool f]] w fun e w' => e = .returned (.agg #[.int .i64 p, .bool a]) ∧ Below w.heap.size w w'
structure ActM (t : Int) (f : Bool) (x y p q : Nat) : Prop where
  call : ∀ w : World, Calls Try.prog 24 #[.agg #[.int .i64 t, .bool f], .complex .f32 x y] w fun e w' => e = .returned (.complex .f32 p q) ∧ Below w.heap.size w w'

theorem act_of {t : Nat} (f : Bool) {x y : Nat} (ht : t < 4) (hx : okB x = true) (hy : okB y = true) :
    ActM t f x y (actV t f (cleanB x) (ngB (cleanB x)) (cleanB y) (ngB (cleanB y))).1 (actV t f (cleanB x) (ngB (cleanB x)) (cleanB y) (ngB (cleanB y))).2 := by
  rw [ng_clean (ok_fin hx), ng_clean (ok_fin hy)]
  exact ⟨fun w => actSym_i t f x y _ _ _ _ w ht (ok_in hx) (ok_in hy) (parts_of (ok_fin hx) (ok_lt hx)) (parts_of (ok_fin hy) (ok_lt hy))⟩
theorem act_of_pt {t : Nat} (f : Bool) {x y : Nat} (ht : t < 4) (hx : Pt x) (hy : Pt y) :
    ActM t f x y (actV t f x (ngB x) y (ngB y)).1 (actV t f x (ngB x) y (ngB y)).2 := by
  have h := act_of f ht hx.ok hy.ok
  rwa [cl_clean_eq hx.cl, cl_clean_eq hy.cl] at h

theorem order_self {x : Nat} (h : Fin32 x) : (FloatKind.f32.format.order x x == some .eq) = true := by
  show (F32.order x x == some .eq) = true
  rw [order_fin F32 h h, cmp_eq]; simp
theorem order_clean {x : Nat} (h : okB x = true) : (FloatKind.f32.format.order (cleanB x) x == some .eq) = true := by
  show (F32.order (cleanB x) x == some .eq) = true
  rw [order_fin F32 (cl_clean (ok_fin h) (ok_lt h)).fin (ok_fin h), cmp_eq]
  rw [clean_eq (ok_fin h)]
  by_cases h0 : rungOf F32 x = 0
  · rw [if_pos h0, val_zero, val_eq_zero.2 h0]; rfl
  · rw [if_neg h0]; simp

theorem then_assoc : ∀ (t u v : Fin 4) (f g h : Bool), thenT (t.val : Int) (thenT (u.val : Int) (v.val : Int) h) (thenF u.val v.val g h) = thenT (thenT (t.val : Int) (u.val : Int) g) (v.val : Int) h ∧ thenF (t.val : Int) (thenT (u.val : Int) (v.val : Int) h) f (thenF u.val v.val g h) = thenF (thenT (t.val : Int) (u.val : Int) g) (v.val : Int) (thenF t.val u.val f g) h := by decide +kernel
theorem then_back : ∀ (t : Fin 4) (f : Bool), thenT (t.val : Int) (backT t.val f) (backF t.val f) = 0 ∧ thenF t.val (backT t.val f) f (backF t.val f) = false ∧ thenT (backT t.val f) (t.val : Int) f = 0 ∧ thenF (backT t.val f) t.val (backF t.val f) f = false ∧ thenT 0 (t.val : Int) f = t.val ∧ thenF 0 (t.val : Int) false f = f := by decide +kernel
theorem then_in : ∀ (t u : Fin 4) (f : Bool), thenT (t.val : Int) (u.val : Int) f = ((thenT (t.val : Int) (u.val : Int) f).toNat : Int) ∧ (thenT (t.val : Int) (u.val : Int) f).toNat < 4 := by decide +kernel
theorem back_in : ∀ (t : Fin 4) (f : Bool), backT (t.val : Int) f = ((backT (t.val : Int) f).toNat : Int) ∧ (backT (t.val : Int) f).toNat < 4 := by decide +kernel

/-- All that the law's calls give. -/
structure Prods (t u v : Int) (f g h : Bool) (x y : Nat) (p r s b : Int) (a c d e : Bool) (x1 y1 x2 y2 x3 y3 : Nat) : Prop where
  tu : ThenM t f u g p a
  tuv : ThenM p a v h r c
  uv : ThenM u g v h s d
  tuv' : ThenM t f s d r c
  bk : BackM t f b e
  tb : ThenM t f b e 0 false
  bt : ThenM b e t f 0 false
  zt : ThenM 0 false t f t f
  a1 : ActM t f x y x1 y1
  a2 : ActM u g x1 y1 x2 y2
  a3 : ActM p a x y x2 y2
  a4 : ActM b e x1 y1 x3 y3
  e1 : (FloatKind.f32.format.order x2 x2 == some .eq) = true
  e2 : (FloatKind.f32.format.order y2 y2 == some .eq) = true
  e3 : (FloatKind.f32.format.order x3 x == some .eq) = true
  e4 : (FloatKind.f32.format.order y3 y == some .eq) = true

theorem prods_of {t u v : Nat} (f g h : Bool) {x y : Nat} (ht : t < 4) (hu : u < 4) (hv : v < 4) (hx : okB x = true) (hy : okB y = true) :
    ∃ p r s b a c d e x1 y1 x2 y2 x3 y3, Prods t u v f g h x y p r s b a c d e x1 y1 x2 y2 x3 y3 := by
  have hA := then_assoc ⟨t, ht⟩ ⟨u, hu⟩ ⟨v, hv⟩ f g h
  have hB := then_back ⟨t, ht⟩ f
  have hI := then_in ⟨t, ht⟩ ⟨u, hu⟩ g
  have hJ := back_in ⟨t, ht⟩ f
  dsimp only at hA hB hI hJ
  obtain ⟨b1, b2, b3, b4, b5, b6⟩ := hB
  have px := pt_clean hx
  have py := pt_clean hy
  obtain ⟨q1, q2⟩ := act_pt t f px py
  have k1 := act_then t u f g ht hu px.cl py.cl
  have k2 := act_back t f ht px.cl py.cl
  have A1 := act_of f ht hx hy
  have A2 := act_of_pt g hu q1 q2
  have A3 := act_of (thenF t u f g) hI.2 hx hy
  have A4 := act_of_pt (backF t f) hJ.2 q1 q2
  rw [← hI.1, ← k1] at A3
  rw [← hJ.1, k2] at A4
  obtain ⟨r1, r2⟩ := act_pt u g q1 q2
  refine ⟨_, _, _, _, _, _, _, _, _, _, _, _, _, _, ⟨⟨fun w => thenSym_i t u f g w⟩, ⟨fun w => thenSym_i _ v _ h w⟩, ⟨fun w => thenSym_i u v g h w⟩, ⟨fun w => ?_⟩, ⟨fun w => backSym_i t f w⟩, ⟨fun w => ?_⟩, ⟨fun w => ?_⟩, ⟨fun w => ?_⟩, A1, A2, A3, A4, order_self r1.cl.fin, order_self r2.cl.fin, order_clean hx, order_clean hy⟩⟩
  · have H := thenSym_i t (thenT u v h) f (thenF u v g h) w
    rw [hA.1, hA.2] at H
    exact H
  · have H := thenSym_i t (backT t f) f (backF t f) w
    rw [b1, b2] at H
    exact H
  · have H := thenSym_i (backT t f) t (backF t f) f w
    rw [b3, b4] at H
    exact H
  · have H := thenSym_i 0 t false f w
    rw [b5, b6] at H
    exact H
end Go.Proofs.Ytlnikapkheldeaa
