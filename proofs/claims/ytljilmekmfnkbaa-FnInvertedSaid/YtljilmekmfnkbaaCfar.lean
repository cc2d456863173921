/-
  How far two parts are; the greatest of three parts.
-/
import Derived.Test.YtljilmekmfnkbaaCmix
import Derived.Test.YtljilmekmfnkbaaCeFar
namespace Go.Proofs.Ytljilmekmfnkbaa
open Go.ChangeShapes Go.WideShapes Go.ChangeAt Go.RowKit Go.Joins
set_option linter.unusedSimpArgs false
set_option linter.unusedVariables false
set_option maxRecDepth 100000
attribute [local go_sem] store_f
open Ieee

def farB (a b : Nat) : Nat := if pm a < pm b then subB b a else subB a b

theorem subB_zero {a b : Nat} (ha : Part a) (hb : Part b) (h : pm a = pm b) : subB a b = 0 := by
  have := (subB_part ha hb (Nat.le_of_eq h.symm)).1
  rw [this, h, Nat.sub_self, rn_zero]

theorem farB_le {a b : Nat} (ha : Part a) (hb : Part b) : farB a b ≤ 1065353216 := by
  unfold farB
  split
  · have h1 := (subB_part hb ha (by omega)).2
    have := hb.rung
    omega
  · have h1 := (subB_part ha hb (by omega)).2
    have := ha.rung
    omega

structure DifI (a b r : Nat) : Prop where
  call : ∀ w : World, Calls Try.prog 49 #[.float .f32 a, .float .f32 b] w fun e w' => e = .returned (.float .f32 r) ∧ w' = w

theorem farPart_of {a b x y r : Nat} {o : Ordering} (e : FloatKind.f32.format.order a b = some o) (hx : maxF o a b = x) (hy : minF o a b = y) (D : DifI x y r) (w : World) :
    Calls Try.prog 59 #[.agg #[.float .f32 a, .float .f32 b]] w fun e w' => e = .returned (.float .f32 r) ∧ Below w.heap.size w w' := by
  have hM := fun ts t w => run_max_f Try.prog w ts t a b o e
  have hm := fun ts t w => run_min_f Try.prog w ts t a b o e
  rw [hx] at hM
  rw [hy] at hm
  clear e hx hy
  go_enter Try.func59, Try.ntmps59
  go_wp2_with (first | simp only [hM] | simp only [hm] | (go_at_call 49; refine (D.call _).mono ?_; rintro e w1 ⟨rfl, rfl⟩))
  all_goals (go_returns; exact ⟨rfl, by (repeat' (first | (with_reducible exact Below.refl _ _) | (with_reducible assumption) | (with_reducible refine Below.alloc ?_ ?_ _) | (with_reducible refine Below.drew ?_) | (with_reducible refine Below.setCell ?_ ?_ _) | (with_reducible refine Below.trans ?_ (Below.mono (by assumption) ?_)) | (with_reducible exact Nat.le_refl _) | omega | (simp only [World.size_alloc, World.size_setCell, World.size_drew]; omega) | (simp; omega) | (simp; done)))⟩)

theorem farPart_i {a b : Nat} (ha : Part a) (hb : Part b) (w : World) :
    Calls Try.prog 59 #[.agg #[.float .f32 a, .float .f32 b]] w fun e w' => e = .returned (.float .f32 (farB a b)) ∧ Below w.heap.size w w' := by
  have e := ha.order hb
  have h1 := cmp_lt (a := (pm a : Int)) (b := (pm b : Int))
  have h2 := cmp_eq (a := (pm a : Int)) (b := (pm b : Int))
  generalize compare (pm a : Int) (pm b : Int) = o at e h1 h2
  cases o
  · have hlt : pm a < pm b := by
      have : (pm a : Int) < (pm b : Int) := by simpa using h1
      omega
    have ef : farB a b = subB b a := by unfold farB; rw [if_pos hlt]
    rw [ef]
    exact farPart_of e rfl rfl ⟨fun w => differenceOf_p hb ha w⟩ w
  · have heq : pm a = pm b := by
      have : (pm a : Int) = (pm b : Int) := by simpa using h2
      omega
    have ef : farB a b = 0 := by unfold farB; rw [if_neg (by omega)]; exact subB_zero ha hb heq
    rw [ef]
    cases hn : (FloatKind.f32.decode a).neg
    · have := farPart_of (r := subB a b) e (x := a) (y := b) (by simp [maxF, hn]) (by simp [minF, hn]) ⟨fun w => differenceOf_p ha hb w⟩ w
      rw [subB_zero ha hb heq] at this; exact this
    · have := farPart_of (r := subB b a) e (x := b) (y := a) (by simp [maxF, hn]) (by simp [minF, hn]) ⟨fun w => differenceOf_p hb ha w⟩ w
      rw [subB_zero hb ha heq.symm] at this; exact this
  · have hge : ¬ pm a < pm b := by
      have : ¬ (pm a : Int) < (pm b : Int) := by simpa using h1
      omega
    have ef : farB a b = subB a b := by unfold farB; rw [if_neg hge]
    rw [ef]
    exact farPart_of e rfl rfl ⟨fun w => differenceOf_p ha hb w⟩ w

structure MinC (a b r : Nat) : Prop where
  call : ∀ w : World, Calls Try.prog 74 #[.float .f32 a, .float .f32 b] w fun e w' => e = .returned (.float .f32 r) ∧ w' = w

theorem l2Far_of {a b r s : Nat} (t : Bool) (e : (FloatKind.f32.format.order a b == some .lt) = t) (A : MinC b a r) (B : MinC a b s) (w : World) :
    Calls Try.prog 76 #[.float .f32 a, .float .f32 b] w fun e w' => e = .returned (.float .f32 (if t = true then r else s)) ∧ w' = w := by
  cases t
  · go_enter Try.func76, Try.ntmps76
    go_wp2_with (go_at_call 74; (with_reducible refine (B.call _).mono ?_); rintro e w1 ⟨rfl, rfl⟩)
    all_goals (first | (go_ret; exact ⟨rfl, rfl⟩) | (exfalso; simp_all; done))
  · go_enter Try.func76, Try.ntmps76
    go_wp2_with (go_at_call 74; (with_reducible refine (A.call _).mono ?_); rintro e w1 ⟨rfl, rfl⟩)
    all_goals (first | (go_ret; exact ⟨rfl, rfl⟩) | (exfalso; simp_all; done))

theorem l2Far_s {a b : Nat} (ha : Part a) (hb : Part b) (w : World) :
    Calls Try.prog 76 #[.float .f32 a, .float .f32 b] w fun e w' => e = .returned (.float .f32 (farB a b)) ∧ w' = w := by
  have e : (FloatKind.f32.format.order a b == some .lt) = decide (pm a < pm b) := by
    have e1 := ha.order hb
    show (F32.order a b == some .lt) = _
    rw [e1, cmp_lt]
    simp
  have := l2Far_of _ e ⟨fun w => l1Minus_p hb ha w⟩ ⟨fun w => l1Minus_p ha hb w⟩ w
  have ef : farB a b = if decide (pm a < pm b) = true then subB b a else subB a b := by
    unfold farB; simp
  rw [ef]; exact this

theorem isNaN_no {x : Nat} (h : FloatKind.f32.format.order x x = some .eq) (w : World) :
    Calls Try.prog 90 #[.float .f32 x] w fun e w' => e = .returned (.bool false) ∧ w' = w := by
  have h1 : (FloatKind.f32.format.order x x != some .eq) = false := by rw [h]; rfl
  clear h
  go_enter Try.func90, Try.ntmps90
  go_wp2
  all_goals (go_ret; exact ⟨by simp_all, rfl⟩)

/-- How words of numbers from 0 on compare. -/
theorem order_words {x y : Nat} (hx : x < 2139095040) (hy : y < 2139095040) : F32.order x y = some (compare (x : Int) (y : Int)) := by
  rw [order_fin F32 (fin_of_lt hx) (fin_of_lt hy), val_of_lt (by omega), val_of_lt (by omega)]
  congr 1
  rcases Nat.lt_trichotomy x y with h | h | h
  · have := magOf_lt F32 h
    have h1 : (x : Int) < y := by omega
    have h2 : (magOf F32 x : Int) < magOf F32 y := by omega
    simp [compare, compareOfLessAndEq, h1, h2]
  · subst h; simp
  · have := magOf_lt F32 h
    have h1 : ¬ (x : Int) < y := by omega
    have h2 : ¬ (magOf F32 x : Int) < magOf F32 y := by omega
    have h3 : ¬ (x : Int) = y := by omega
    have h4 : ¬ (magOf F32 x : Int) = magOf F32 y := by omega
    simp only [compare, compareOfLessAndEq, h1, h2, h3, h4, if_false]

structure NaNI (x : Nat) : Prop where
  call : ∀ w : World, Calls Try.prog 90 #[.float .f32 x] w fun e w' => e = .returned (.bool false) ∧ w' = w

theorem compare_of {x y : Nat} (X : NaNI x) (Y : NaNI y) (l g : Bool) (hl : (FloatKind.f32.format.order x y == some .lt) = l) (hg : (FloatKind.f32.format.order x y == some .gt) = g) (w : World) :
    Calls Try.prog 82 #[.float .f32 x, .float .f32 y] w fun e w' => e = .returned (.int .i64 (if l = true then -1 else if g = true then 1 else 0)) ∧ w' = w := by
  cases l
  · cases g
    all_goals
      go_enter Try.func82, Try.ntmps82
      go_wp2_with (go_at_call 90; (first | (with_reducible refine (X.call _).mono ?_) | (with_reducible refine (Y.call _).mono ?_)); rintro e w1 ⟨rfl, rfl⟩)
      all_goals (first | (go_ret; exact ⟨rfl, rfl⟩) | (exfalso; simp_all; done))
  · clear hg
    go_enter Try.func82, Try.ntmps82
    go_wp2_with (go_at_call 90; (first | (with_reducible refine (X.call _).mono ?_) | (with_reducible refine (Y.call _).mono ?_)); rintro e w1 ⟨rfl, rfl⟩)
    all_goals (first | (go_ret; exact ⟨rfl, rfl⟩) | (exfalso; simp_all; done))

theorem compare_i {x y : Nat} (hx : x < 2139095040) (hy : y < 2139095040) (w : World) :
    Calls Try.prog 82 #[.float .f32 x, .float .f32 y] w fun e w' => e = .returned (.int .i64 (if x < y then -1 else if y < x then 1 else 0)) ∧ w' = w := by
  have e := order_words hx hy
  have same : ∀ {z : Nat}, z < 2139095040 → FloatKind.f32.format.order z z = some .eq := fun {z} h => by
    have := order_words h h
    show F32.order z z = _
    rw [this]; simp
  have h1 : (FloatKind.f32.format.order x y == some .lt) = decide (x < y) := by
    show (F32.order x y == some .lt) = _
    rw [e, cmp_lt]; simp
  have h2 : (FloatKind.f32.format.order x y == some .gt) = decide (y < x) := by
    show (F32.order x y == some .gt) = _
    rw [e, cmp_gt]; simp
  have := compare_of ⟨fun w => isNaN_no (same hx) w⟩ ⟨fun w => isNaN_no (same hy) w⟩ _ _ h1 h2 w
  simpa using this
end Go.Proofs.Ytljilmekmfnkbaa
