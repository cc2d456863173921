/-
  Mixing parts: the closure of the program, l2Mix of the model.
-/
import Derived.Test.YtkcfekhpppihhaaCfil
import Derived.Test.YtkcfekhpppihhaaCeMix
namespace Go.Proofs.Ytkcfekhpppihhaa
open Go.ChangeShapes Go.WideShapes Go.ChangeAt Go.RowKit Go.Joins
set_option linter.unusedSimpArgs false
set_option linter.unusedVariables false
set_option maxRecDepth 100000
attribute [local go_sem] store_f
open Ieee

/-- min and max of two floats that can be compared. -/
def minF (o : Ordering) (x y : Nat) : Nat := match o with | .lt => x | .gt => y | .eq => if (FloatKind.f32.decode x).neg then x else y
def maxF (o : Ordering) (x y : Nat) : Nat := match o with | .lt => y | .gt => x | .eq => if (FloatKind.f32.decode x).neg then y else x
theorem run_min_f (P : Program) (w : World) (ts : Array TypeId) (t : TypeId) (x y : Nat) (o : Ordering) (h : FloatKind.f32.format.order x y = some o) : (Builtin.min_ ts t #[.float .f32 x, .float .f32 y]).run P w = .ok (.float .f32 (minF o x y)) w := by
  cases o <;> simp [Builtin.min_, Builtin.min2, h, minF]
theorem run_max_f (P : Program) (w : World) (ts : Array TypeId) (t : TypeId) (x y : Nat) (o : Ordering) (h : FloatKind.f32.format.order x y = some o) : (Builtin.max_ ts t #[.float .f32 x, .float .f32 y]).run P w = .ok (.float .f32 (maxF o x y)) w := by
  cases o <;> simp [Builtin.max_, Builtin.max2, h, maxF]

theorem boundB_of {x : Nat} {o : Ordering} (e : FloatKind.f32.format.order x 1065353216 = some o) : boundB x = if (some o == some Ordering.gt) = true then 1065353216 else x := by
  unfold boundB; rw [e]

theorem order_one {x : Nat} (h : x < 2139095040) : FloatKind.f32.format.order x 1065353216 = some (compare (magOf F32 x : Int) (magOf F32 1065353216 : Int)) := by
  have h1 := order_fin F32 (fin_of_lt h) (fin_of_lt (x := 1065353216) (by omega))
  rw [val_of_lt (x := x) (by omega), val_of_lt (x := 1065353216) (by omega)] at h1
  exact h1

theorem minF_bound {x : Nat} (h : x < 2139095040) : ∃ o, FloatKind.f32.format.order x 1065353216 = some o ∧ minF o x 1065353216 = boundB x := by
  have e := order_one h
  have he := cmp_eq (a := (magOf F32 x : Int)) (b := (magOf F32 1065353216 : Int))
  generalize hp : (magOf F32 1065353216 : Int) = p at e he
  generalize ho : compare (magOf F32 x : Int) p = o at e he
  refine ⟨o, e, ?_⟩
  rw [boundB_of e]
  cases o
  · rfl
  · have h3 : x = 1065353216 := by
      have h4 : (magOf F32 x : Int) = p := by simpa using he
      rw [← hp] at h4
      exact magOf_inj F32 (by omega)
    show (if _ then x else 1065353216) = x
    rw [h3]
    split <;> rfl
  · rfl

theorem keepInBounds_i {x : Nat} (h : x < 2139095040) (w : World) :
    Calls Try.prog 66 #[.float .f32 x] w fun e w' => e = .returned (.float .f32 (boundB x)) ∧ w' = w := by
  obtain ⟨o, e1, e2⟩ := minF_bound h
  have hm := fun ts t w => run_min_f Try.prog w ts t x 1065353216 o e1
  rw [e2] at hm
  clear h e1 e2
  go_enter Try.func66, Try.ntmps66
  go_wp2_with (simp only [hm])
  all_goals (go_ret; exact ⟨rfl, rfl⟩)

/-- What a mixture of two parts is. -/
def mixB (a b k : Nat) : Nat := boundB (addB (mulB a (subB 1065353216 k)) (mulB b k))

theorem boundB_le {x : Nat} (h : x < 2139095040) : boundB x ≤ 1065353216 := by
  have e := order_one h
  have he := cmp_gt (a := (magOf F32 x : Int)) (b := (magOf F32 1065353216 : Int))
  generalize hp : (magOf F32 1065353216 : Int) = p at e he
  generalize ho : compare (magOf F32 x : Int) p = o at e he
  rw [boundB_of e]
  rw [he]
  by_cases h1 : p < (magOf F32 x : Int)
  · rw [decide_eq_true h1, if_pos rfl]; exact Nat.le_refl _
  · rw [decide_eq_false h1, if_neg (by simp)]
    rw [← hp] at h1
    exact le_of_magOf F32 (by omega)

theorem boundB_part {x : Nat} (h : x < 2139095040) : Part (boundB x) := part_of_le (boundB_le h)

/-- The calls that mixing two parts makes, of the program and of the model. -/
structure MixI (a b s k p q r m : Nat) : Prop where
  sa : ∀ w : World, Calls Try.prog 67 #[.float .f32 a, .float .f64 s] w fun e w' => e = .returned (.float .f32 p) ∧ w' = w
  sb : ∀ w : World, Calls Try.prog 67 #[.float .f32 b, .float .f64 k] w fun e w' => e = .returned (.float .f32 q) ∧ w' = w
  su : ∀ w : World, Calls Try.prog 35 #[.float .f32 p, .float .f32 q] w fun e w' => e = .returned (.float .f32 r) ∧ w' = w
  ke : ∀ w : World, Calls Try.prog 66 #[.float .f32 r] w fun e w' => e = .returned (.float .f32 m) ∧ w' = w
theorem part_less {k : Nat} (hk : Part k) : Part (subB 1065353216 k) := part_one.sub hk (by rw [pm_one]; exact hk.pm_le)

theorem mixI {a b k : Nat} (ha : Part a) (hb : Part b) (hk : Part k) : MixI a b (wide (subB 1065353216 k)) (wide k) (mulB a (subB 1065353216 k)) (mulB b k) (addB (mulB a (subB 1065353216 k)) (mulB b k)) (mixB a b k) :=
  ⟨fun w => shareOf_i ha (part_less hk) w, fun w => shareOf_i hb hk w, fun w => sumOf_p (ha.mul (part_less hk)) (hb.mul hk) w,
    fun w => keepInBounds_i (by have := (addB_part (ha.mul (part_less hk)) (hb.mul hk)).2; omega) w⟩
theorem mixB_le {a b k : Nat} (ha : Part a) (hb : Part b) (hk : Part k) : mixB a b k ≤ 1065353216 := boundB_le (by have := (addB_part (ha.mul (part_less hk)) (hb.mul hk)).2; omega)

theorem mixPart_i {a b s k p q r m : Nat} (H : MixI a b s k p q r m) (pa pb : Nat) (w : World) (ca : w.cell? ⟨pa, 0, Option.none⟩ = some (.float .f64 s)) (cb : w.cell? ⟨pb, 0, Option.none⟩ = some (.float .f64 k)) :
    Calls Try.prog 65 #[.agg #[.float .f32 a, .float .f32 b], .pointer (some ⟨pa, 0, Option.none⟩), .pointer (some ⟨pb, 0, Option.none⟩)] w fun e w' => e = .returned (.float .f32 m) ∧ Below w.heap.size w w' := by
  go_enter Try.func65, Try.ntmps65
  go_wp2_with fail
  have hB : Blk (w.alloc (.cells #[.float .f32 a, .float .f32 b] 98)) w.heap.size #[.float .f32 a, .float .f32 b] 98 := Blk.new _ _ _
  have ca1 : (w.alloc (.cells #[.float .f32 a, .float .f32 b] 98)).cell? ⟨pa, 0, Option.none⟩ = some (.float .f64 s) := cAlloc ca
  have cb1 : (w.alloc (.cells #[.float .f32 a, .float .f32 b] 98)).cell? ⟨pb, 0, Option.none⟩ = some (.float .f64 k) := cAlloc cb
  have hbel : Below w.heap.size w (w.alloc (.cells #[.float .f32 a, .float .f32 b] 98)) := by (repeat' (first | (with_reducible exact Below.refl _ _) | (with_reducible assumption) | (with_reducible refine Below.alloc ?_ ?_ _) | (with_reducible refine Below.drew ?_) | (with_reducible refine Below.setCell ?_ ?_ _) | (with_reducible refine Below.trans ?_ (Below.mono (by assumption) ?_)) | (with_reducible exact Nat.le_refl _) | omega | (simp only [World.size_alloc, World.size_setCell, World.size_drew]; omega) | (simp; omega) | (simp; done)))
  clear ca cb
  generalize w.alloc (.cells #[.float .f32 a, .float .f32 b] 98) = w1 at hB ca1 cb1 hbel ⊢
  have b0 := hB.cell 0
  have b1 := hB.cell 1
  simp at b0 b1
  refine wp_region_still_lit (by kernel_rfl) (by kernel_rfl) ?_
  repeat still_step
  still_call (H.sa _)
  repeat still_step
  still_call (H.sb _)
  repeat still_step
  still_call (H.su _)
  repeat still_step
  still_call (H.ke _)
  repeat still_step
  refine wpStill_nil ?_
  go_wp2
  all_goals (go_ret; exact ⟨rfl, hbel.drew⟩)

theorem eachMix_of {a b c x y z s k p0 q0 r0 p1 q1 r1 p2 q2 r2 m0 m1 m2 : Nat} (H0 : MixI a x s k p0 q0 r0 m0) (H1 : MixI b y s k p1 q1 r1 m1) (H2 : MixI c z s k p2 q2 r2 m2)
    (pa pb : Nat) (w : World) (ca : w.cell? ⟨pa, 0, Option.none⟩ = some (.float .f64 s)) (cb : w.cell? ⟨pb, 0, Option.none⟩ = some (.float .f64 k)) :
    Calls Try.prog 63 #[.agg #[.float .f32 a, .float .f32 x, .float .f32 b, .float .f32 y, .float .f32 c, .float .f32 z], .func (.func 65) #[] #[.pointer (some ⟨pa, 0, Option.none⟩), .pointer (some ⟨pb, 0, Option.none⟩)]] w fun e w' =>
      e = .returned (.agg #[.float .f32 m0, .float .f32 m1, .float .f32 m2]) ∧ Below w.heap.size w w' :=
  eachMix_i (a0 := a) (b0 := x) (a1 := b) (b1 := y) (a2 := c) (b2 := z) _ _ _ ⟨pa, 0, Option.none⟩ ⟨pb, 0, Option.none⟩ w
    (fun w1 h => mixPart_i H0 pa pb w1 (cBelow h ca) (cBelow h cb)) (fun w1 h => mixPart_i H1 pa pb w1 (cBelow h ca) (cBelow h cb)) (fun w1 h => mixPart_i H2 pa pb w1 (cBelow h ca) (cBelow h cb))
end Go.Proofs.Ytkcfekhpppihhaa
