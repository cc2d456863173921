/-
  The wedge of mirrors: each point has one image in it, the same for all images.
-/
import Derived.Test.YtjkcmcpgppfhhaaOi
namespace Go.Proofs.Ytjkcmcpgppfhhaa
open Go.ChangeShapes Go.WideShapes Go.ChangeAt Go.RowKit Go.Joins
set_option linter.unusedSimpArgs false
set_option linter.unusedVariables false
set_option maxRecDepth 100000
attribute [local go_sem] store_f
open Ieee Go.Lib

/-- Does a pair of numbers lie in the wedge? -/
def wedI (kind : Int) (z : Int × Int) : Bool :=
  if kind = 0 then true else if kind = 1 then decide (0 ≤ z.2) else if kind = 2 then decide (0 ≤ z.1) && decide (0 ≤ z.2) else decide (0 ≤ z.2) && decide (z.2 ≤ z.1)
/-- Does a point lie in the wedge? -/
def wed (kind : Int) (p : PtW) : Bool := wedI kind (vP p)

theorem wed_some_I (kind X Y : Int) (h0 : 0 ≤ kind) (h3 : kind ≤ 3) : ∃ s ∈ symsTo kind 8, wedI kind (actI s (X, Y)) = true := by
  rcases (by omega : kind = 0 ∨ kind = 1 ∨ kind = 2 ∨ kind = 3) with rfl | rfl | rfl | rfl
  · rw [syms0]; simp [wedI]
  · rw [syms1]; simp [wedI, actI]; omega
  · rw [syms2]; simp [wedI, actI]; omega
  · rw [syms3]; simp [wedI, actI]; omega
theorem wed_one_I (kind X Y : Int) (h0 : 0 ≤ kind) (h3 : kind ≤ 3) : ∀ s ∈ symsTo kind 8, ∀ r ∈ symsTo kind 8, wedI kind (actI s (X, Y)) = true → wedI kind (actI r (X, Y)) = true → actI s (X, Y) = actI r (X, Y) := by
  intro s hs r hr h1 h2
  rcases (by omega : kind = 0 ∨ kind = 1 ∨ kind = 2 ∨ kind = 3) with rfl | rfl | rfl | rfl
  · rw [syms0] at hs hr
    simp at hs hr
    subst hs hr; rfl
  · rw [syms1] at hs hr
    simp at hs hr
    rcases hs with rfl | rfl <;> rcases hr with rfl | rfl <;> simp [wedI, actI] at h1 h2 ⊢ <;> omega
  · rw [syms2] at hs hr
    simp at hs hr
    rcases hs with rfl | rfl | rfl | rfl <;> rcases hr with rfl | rfl | rfl | rfl <;> simp [wedI, actI] at h1 h2 ⊢ <;> omega
  · rw [syms3] at hs hr
    simp at hs hr
    rcases hs with rfl | rfl | rfl | rfl | rfl | rfl | rfl | rfl <;> rcases hr with rfl | rfl | rfl | rfl | rfl | rfl | rfl | rfl <;> simp [wedI, actI] at h1 h2 ⊢ <;> omega

theorem wed_some {kind : Int} (h0 : 0 ≤ kind) (h3 : kind ≤ 3) (p : PtW) : ∃ s ∈ symsTo kind 8, wed kind (actP s p) = true := by
  obtain ⟨s, hs, h⟩ := wed_some_I kind (vX p) (vY p) h0 h3
  exact ⟨s, hs, by unfold wed; rw [vP_act]; exact h⟩
theorem wed_one {kind : Int} (h0 : 0 ≤ kind) (h3 : kind ≤ 3) (p : PtW) {s r : Int × Bool} (hs : s ∈ symsTo kind 8) (hr : r ∈ symsTo kind 8) (h1 : wed kind (actP s p) = true) (h2 : wed kind (actP r p) = true) : actP s p = actP r p := by
  apply vP_inj
  unfold wed at h1 h2
  rw [vP_act] at *
  rw [vP_act]
  exact wed_one_I kind _ _ h0 h3 s hs r hr h1 h2

/-- One symmetry behind another one is one of these mirrors. -/
theorem syms_then {kind : Int} (h0 : 0 ≤ kind) (h3 : kind ≤ 3) : ∀ s ∈ symsTo kind 8, ∀ r ∈ symsTo kind 8, (thenT s.1 r.1 r.2, thenF s.1 r.1 s.2 r.2) ∈ symsTo kind 8 := by
  rcases (by omega : kind = 0 ∨ kind = 1 ∨ kind = 2 ∨ kind = 3) with rfl | rfl | rfl | rfl <;> decide
theorem actP_then {s r : Int × Bool} (hs : isSymB s.1 = true) (hr : isSymB r.1 = true) (p : PtW) : actP r (actP s p) = actP (thenT s.1 r.1 r.2, thenF s.1 r.1 s.2 r.2) p := by
  obtain ⟨a1, a2⟩ := isSymB_iff.1 hs
  obtain ⟨b1, b2⟩ := isSymB_iff.1 hr
  apply Subtype.ext
  have h := act_then s.1.toNat r.1.toNat s.2 r.2 (by omega) (by omega) p.2.1.cl p.2.2.cl
  rw [Int.toNat_of_nonneg a1, Int.toNat_of_nonneg b1] at h
  exact h

/-- The image of an image in the wedge is the image in the wedge. -/
theorem fold_same {kind : Int} (h0 : 0 ≤ kind) (h3 : kind ≤ 3) (p q : PtW) (hq : q ∈ imgs (symsTo kind 8) p) {s r : Int × Bool} (hs : s ∈ symsTo kind 8) (hr : r ∈ symsTo kind 8) (h1 : wed kind (actP s p) = true) (h2 : wed kind (actP r q) = true) : actP r q = actP s p := by
  obtain ⟨t, ht, rfl⟩ := List.mem_map.1 hq
  have hrg := syms_range kind h0 h3
  rw [actP_then (hrg t ht) (hrg r hr)] at h2 ⊢
  exact wed_one h0 h3 p (syms_then h0 h3 t ht r hr) hs h2 h1
theorem wed_iff {kind : Int} (h0 : 0 ≤ kind) (h3 : kind ≤ 3) (p q : PtW) (hq : q ∈ imgs (symsTo kind 8) p) {s : Int × Bool} (hs : s ∈ symsTo kind 8) (h1 : wed kind (actP s p) = true) : wed kind q = decide (q = actP s p) := by
  obtain ⟨t, ht, rfl⟩ := List.mem_map.1 hq
  by_cases h : actP t p = actP s p
  · rw [h, h1]; simp
  · simp only [h, decide_false]
    cases hw : wed kind (actP t p)
    · rfl
    · exact absurd (wed_one h0 h3 p ht hs hw h1) h

theorem le_zero {y : Nat} (h : Fin32 y) : (FloatKind.f32.format.order y 0 == some .gt || FloatKind.f32.format.order y 0 == some .eq) = decide (0 ≤ valOf F32 y) := by
  show (F32.order y 0 == some .gt || F32.order y 0 == some .eq) = _
  rw [order_zero h, cmp_eq, cmp_gt, ← Bool.decide_or]
  apply decide_eq_decide.2
  omega
theorem zero_le {y : Nat} (h : Fin32 y) : (FloatKind.f32.format.order 0 y == some .lt || FloatKind.f32.format.order 0 y == some .eq) = decide (0 ≤ valOf F32 y) := by
  show (F32.order 0 y == some .lt || F32.order 0 y == some .eq) = _
  rw [order_fin F32 (fin_of_lt (by omega)) h, val_zero, cmp_eq, cmp_lt, ← Bool.decide_or]
  apply decide_eq_decide.2
  omega
theorem le_le {x y : Nat} (hx : Fin32 x) (hy : Fin32 y) : (FloatKind.f32.format.order y x == some .lt || FloatKind.f32.format.order y x == some .eq) = decide (valOf F32 y ≤ valOf F32 x) := by
  show (F32.order y x == some .lt || F32.order y x == some .eq) = _
  rw [order_fin F32 hy hx, cmp_eq, cmp_lt, ← Bool.decide_or]
  apply decide_eq_decide.2
  omega

structure WedM (kind : Int) (x y : Nat) (b : Bool) : Prop where
  call : ∀ w : World, Calls Try.prog 13 #[.int .i64 kind, .complex .f32 x y] w fun e w' => e = .returned (.bool b) ∧ w' = w

set_option maxHeartbeats 2000000 in
theorem inWedge_of {kind : Int} {x y : Nat} (h0 : 0 ≤ kind) (h3 : kind ≤ 3) (PY : PtYes x y) {b1 b2 b4 : Bool}
    (e1 : (FloatKind.f32.format.order x 0 == some .gt || FloatKind.f32.format.order x 0 == some .eq) = b1)
    (e2 : (FloatKind.f32.format.order y 0 == some .gt || FloatKind.f32.format.order y 0 == some .eq) = b2)
    (e3 : (FloatKind.f32.format.order 0 y == some .lt || FloatKind.f32.format.order 0 y == some .eq) = b2)
    (e4 : (FloatKind.f32.format.order y x == some .lt || FloatKind.f32.format.order y x == some .eq) = b4) :
    WedM kind x y (if kind = 0 then true else if kind = 1 then b2 else if kind = 2 then b1 && b2 else b2 && b4) := by
  refine ⟨fun w => ?_⟩
  rcases (by omega : kind = 0 ∨ kind = 1 ∨ kind = 2 ∨ kind = 3) with rfl | rfl | rfl | rfl <;> cases b1 <;> cases b2 <;> cases b4
  all_goals
    go_enter Try.func13, Try.ntmps13
    go_wp2_with fail
    refine (PY.call _).mono ?_
    rintro e w1 ⟨rfl, rfl⟩
    go_wp2
    all_goals (go_ret; exact ⟨by simp_all, rfl⟩)

theorem inWedge_p {kind : Int} (h0 : 0 ≤ kind) (h3 : kind ≤ 3) (p : PtW) : WedM kind p.1.1 p.1.2 (wed kind p) := by
  have h := inWedge_of h0 h3 (x := p.1.1) (y := p.1.2) ⟨fun w => isPoint_yes _ _ w (ok_in p.2.1.ok) (ok_in p.2.2.ok)⟩ (le_zero p.2.1.cl.fin) (le_zero p.2.2.cl.fin) (zero_le p.2.2.cl.fin) (le_le p.2.1.cl.fin p.2.2.cl.fin)
  exact h
end Go.Proofs.Ytjkcmcpgppfhhaa
