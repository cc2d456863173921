/-
  Texts of this proof, joined: CeFar, Ccp, Cfar.
-/
import Derived.Test.YtlnikapkheldeaaK11
import Derived.Test.YtlnikapkheldeaaK02
import Derived.Test.YtlnikapkheldeaaK26
/-
  A function over the three parts: farPart over three pairs.
-/
namespace Go.Proofs.Ytlnikapkheldeaa
open Go.ChangeShapes Go.WideShapes Go.ChangeAt Go.RowKit Go.Joins
set_option linter.unusedSimpArgs false
set_option linter.unusedVariables false
set_option maxRecDepth 100000
attribute [local go_sem] store_f

theorem eachFar_i (a0 b0 a1 b1 a2 b2 : Nat) (y0 y1 y2 : Nat) (w : World)
    (k0 : ∀ w1 : World, Below w.heap.size w w1 → Calls Try.prog 155 #[.agg #[.float .f32 a0, .float .f32 b0]] w1 fun e w' => e = .returned (.float .f32 y0) ∧ Below w1.heap.size w1 w')
    (k1 : ∀ w1 : World, Below w.heap.size w w1 → Calls Try.prog 155 #[.agg #[.float .f32 a1, .float .f32 b1]] w1 fun e w' => e = .returned (.float .f32 y1) ∧ Below w1.heap.size w1 w')
    (k2 : ∀ w1 : World, Below w.heap.size w w1 → Calls Try.prog 155 #[.agg #[.float .f32 a2, .float .f32 b2]] w1 fun e w' => e = .returned (.float .f32 y2) ∧ Below w1.heap.size w1 w')
    : Calls Try.prog 153 #[.agg #[.float .f32 a0, .float .f32 b0, .float .f32 a1, .float .f32 b1, .float .f32 a2, .float .f32 b2], .func (.func 155) #[] #[]] w fun e w' =>
      e = .returned (.agg #[.float .f32 y0, .float .f32 y1, .float .f32 y2]) ∧ Below w.heap.size w w' := by
  have K0 : Hid (∀ w1 : World, Below w.heap.size w w1 → Calls Try.prog 155 #[.agg #[.float .f32 a0, .float .f32 b0]] w1 fun e w' => e = .returned (.float .f32 y0) ∧ Below w1.heap.size w1 w') := k0
  have K1 : Hid (∀ w1 : World, Below w.heap.size w w1 → Calls Try.prog 155 #[.agg #[.float .f32 a1, .float .f32 b1]] w1 fun e w' => e = .returned (.float .f32 y1) ∧ Below w1.heap.size w1 w') := k1
  have K2 : Hid (∀ w1 : World, Below w.heap.size w w1 → Calls Try.prog 155 #[.agg #[.float .f32 a2, .float .f32 b2]] w1 fun e w' => e = .returned (.float .f32 y2) ∧ Below w1.heap.size w1 w') := k2
  clear k0 k1 k2
  have x0 : ∀ w : World, (Instr.index 175 (.agg #[.float .f32 a0, .float .f32 b0, .float .f32 a1, .float .f32 b1, .float .f32 a2, .float .f32 b2]) (.int .i64 0)).run Try.prog w = .ok (.agg #[.float .f32 a0, .float .f32 b0]) w := fun _ => by kernel_rfl
  have x1 : ∀ w : World, (Instr.index 175 (.agg #[.float .f32 a0, .float .f32 b0, .float .f32 a1, .float .f32 b1, .float .f32 a2, .float .f32 b2]) (.int .i64 1)).run Try.prog w = .ok (.agg #[.float .f32 a1, .float .f32 b1]) w := fun _ => by kernel_rfl
  have x2 : ∀ w : World, (Instr.index 175 (.agg #[.float .f32 a0, .float .f32 b0, .float .f32 a1, .float .f32 b1, .float .f32 a2, .float .f32 b2]) (.int .i64 2)).run Try.prog w = .ok (.agg #[.float .f32 a2, .float .f32 b2]) w := fun _ => by kernel_rfl
  go_enter Try.func153, Try.ntmps153
  go_wp2_with fail
  go_loopw [9] (fun i wr => ∃ k : Int, (k = 0 ∨ k = 1 ∨ k = 2 ∨ k = 3) ∧ i = .int .i64 k ∧ Blk wr (w.heap.size + 2) (row3 (.float .f32 y0) (.float .f32 y1) (.float .f32 y2) (.float .f32 0) k) 153 ∧ Blk wr (w.heap.size + 1) #[.float .f32 0, .float .f32 0, .float .f32 0] 153 ∧ Below w.heap.size w wr)
    (fun i _ => 3 - (intOf i).toNat)
  case atStart => exact ⟨0, Or.inl rfl, rfl, Blk.newAt (by simp), (Blk.newAt (by simp)).alloc, by (repeat' (first | (with_reducible exact Below.refl _ _) | (with_reducible assumption) | (with_reducible refine Below.alloc ?_ ?_ _) | (with_reducible refine Below.drew ?_) | (with_reducible refine Below.setCell ?_ ?_ _) | (with_reducible refine Below.trans ?_ (Below.mono (by assumption) ?_)) | (with_reducible exact Nat.le_refl _) | omega | (simp only [World.size_alloc, World.size_setCell, World.size_drew]; omega) | (simp; omega) | (simp; done)))⟩
  case round =>
    obtain ⟨k, hk, rfl, hB2, hB1, hbel⟩ := hrel
    have l2 := hB2.lt
    have l1 := hB1.lt
    have c20 := hB2.cell 0
    have c21 := hB2.cell 1
    have c22 := hB2.cell 2
    have f20 := hB2.free 0
    have f21 := hB2.free 1
    have f22 := hB2.free 2
    have c10 := hB1.cell 0
    have c11 := hB1.cell 1
    have c12 := hB1.cell 2
    have f10 := hB1.free 0
    have f11 := hB1.free 1
    have f12 := hB1.free 2
    have H2 : Hid (Blk wr (w.heap.size + 2) (row3 (.float .f32 y0) (.float .f32 y1) (.float .f32 y2) (.float .f32 0) k) 153) := hB2
    have H1 : Hid (Blk wr (w.heap.size + 1) #[.float .f32 0, .float .f32 0, .float .f32 0] 153) := hB1
    clear hB2 hB1
    rcases hk with rfl | rfl | rfl | rfl
    all_goals simp [row3] at c20 c21 c22 c10 c11 c12
    · go_wp2_with (first | simp only [x0] | (go_at_call 155; refine (K0.out _ (by (repeat' (first | (with_reducible exact Below.refl _ _) | (with_reducible assumption) | (with_reducible refine Below.alloc ?_ ?_ _) | (with_reducible refine Below.drew ?_) | (with_reducible refine Below.setCell ?_ ?_ _) | (with_reducible refine Below.trans ?_ (Below.mono (by assumption) ?_)) | (with_reducible exact Nat.le_refl _) | omega | (simp only [World.size_alloc, World.size_setCell, World.size_drew]; omega) | (simp; omega) | (simp; done))))).mono ?_; rintro e w1 ⟨rfl, hb⟩; obtain ⟨hc, hf⟩ := bcell hb; have HL := keepL (by (repeat (first | (with_reducible assumption) | (with_reducible apply AllLt.alloc) | (with_reducible apply AllLt.setCell) | (with_reducible apply AllLt.drew) | (with_reducible exact AllLt.nil _)))) hb; have hq := HL; simp only [AllLt, and_true, World.size_alloc, World.size_setCell, World.size_drew] at hq; have hbs := hb.size; try simp only [World.size_alloc, World.size_setCell, World.size_drew] at hbs))
      go_roundw
      case rel => exact ⟨1, by omega, rfl, Blk.setAt (cs := row3 (.float .f32 y0) (.float .f32 y1) (.float .f32 y2) (.float .f32 0) 0) (by omega) (by (repeat (first | (with_reducible exact H2.out) | (with_reducible refine Blk.below ?_ (by assumption)) | (with_reducible refine Blk.alloc ?_) | (with_reducible refine Blk.drew ?_) | (with_reducible refine Blk.other ?_ (by dsimp only; omega))))) rfl, by (repeat (first | (with_reducible exact H1.out) | (with_reducible refine Blk.below ?_ (by assumption)) | (with_reducible refine Blk.alloc ?_) | (with_reducible refine Blk.drew ?_) | (with_reducible refine Blk.other ?_ (by dsimp only; omega)))), by (repeat' (first | (with_reducible exact Below.refl _ _) | (with_reducible assumption) | (with_reducible refine Below.alloc ?_ ?_ _) | (with_reducible refine Below.drew ?_) | (with_reducible refine Below.setCell ?_ ?_ _) | (with_reducible refine Below.trans ?_ (Below.mono (by assumption) ?_)) | (with_reducible exact Nat.le_refl _) | omega | (simp only [World.size_alloc, World.size_setCell, World.size_drew]; omega) | (simp; omega) | (simp; done)))⟩
      case measure => simp [intOf]
    · go_wp2_with (first | simp only [x1] | (go_at_call 155; refine (K1.out _ (by (repeat' (first | (with_reducible exact Below.refl _ _) | (with_reducible assumption) | (with_reducible refine Below.alloc ?_ ?_ _) | (with_reducible refine Below.drew ?_) | (with_reducible refine Below.setCell ?_ ?_ _) | (with_reducible refine Below.trans ?_ (Below.mono (by assumption) ?_)) | (with_reducible exact Nat.le_refl _) | omega | (simp only [World.size_alloc, World.size_setCell, World.size_drew]; omega) | (simp; omega) | (simp; done))))).mono ?_; rintro e w1 ⟨rfl, hb⟩; obtain ⟨hc, hf⟩ := bcell hb; have HL := keepL (by (repeat (first | (with_reducible assumption) | (with_reducible apply AllLt.alloc) | (with_reducible apply AllLt.setCell) | (with_reducible apply AllLt.drew) | (with_reducible exact AllLt.nil _)))) hb; have hq := HL; simp only [AllLt, and_true, World.size_alloc, World.size_setCell, World.size_drew] at hq; have hbs := hb.size; try simp only [World.size_alloc, World.size_setCell, World.size_drew] at hbs))
      go_roundw
      case rel => exact ⟨2, by omega, rfl, Blk.setAt (cs := row3 (.float .f32 y0) (.float .f32 y1) (.float .f32 y2) (.float .f32 0) 1) (by omega) (by (repeat (first | (with_reducible exact H2.out) | (with_reducible refine Blk.below ?_ (by assumption)) | (with_reducible refine Blk.alloc ?_) | (with_reducible refine Blk.drew ?_) | (with_reducible refine Blk.other ?_ (by dsimp only; omega))))) rfl, by (repeat (first | (with_reducible exact H1.out) | (with_reducible refine Blk.below ?_ (by assumption)) | (with_reducible refine Blk.alloc ?_) | (with_reducible refine Blk.drew ?_) | (with_reducible refine Blk.other ?_ (by dsimp only; omega)))), by (repeat' (first | (with_reducible exact Below.refl _ _) | (with_reducible assumption) | (with_reducible refine Below.alloc ?_ ?_ _) | (with_reducible refine Below.drew ?_) | (with_reducible refine Below.setCell ?_ ?_ _) | (with_reducible refine Below.trans ?_ (Below.mono (by assumption) ?_)) | (with_reducible exact Nat.le_refl _) | omega | (simp only [World.size_alloc, World.size_setCell, World.size_drew]; omega) | (simp; omega) | (simp; done)))⟩
      case measure => simp [intOf]
    · go_wp2_with (first | simp only [x2] | (go_at_call 155; refine (K2.out _ (by (repeat' (first | (with_reducible exact Below.refl _ _) | (with_reducible assumption) | (with_reducible refine Below.alloc ?_ ?_ _) | (with_reducible refine Below.drew ?_) | (with_reducible refine Below.setCell ?_ ?_ _) | (with_reducible refine Below.trans ?_ (Below.mono (by assumption) ?_)) | (with_reducible exact Nat.le_refl _) | omega | (simp only [World.size_alloc, World.size_setCell, World.size_drew]; omega) | (simp; omega) | (simp; done))))).mono ?_; rintro e w1 ⟨rfl, hb⟩; obtain ⟨hc, hf⟩ := bcell hb; have HL := keepL (by (repeat (first | (with_reducible assumption) | (with_reducible apply AllLt.alloc) | (with_reducible apply AllLt.setCell) | (with_reducible apply AllLt.drew) | (with_reducible exact AllLt.nil _)))) hb; have hq := HL; simp only [AllLt, and_true, World.size_alloc, World.size_setCell, World.size_drew] at hq; have hbs := hb.size; try simp only [World.size_alloc, World.size_setCell, World.size_drew] at hbs))
      go_roundw
      case rel => exact ⟨3, by omega, rfl, Blk.setAt (cs := row3 (.float .f32 y0) (.float .f32 y1) (.float .f32 y2) (.float .f32 0) 2) (by omega) (by (repeat (first | (with_reducible exact H2.out) | (with_reducible refine Blk.below ?_ (by assumption)) | (with_reducible refine Blk.alloc ?_) | (with_reducible refine Blk.drew ?_) | (with_reducible refine Blk.other ?_ (by dsimp only; omega))))) rfl, by (repeat (first | (with_reducible exact H1.out) | (with_reducible refine Blk.below ?_ (by assumption)) | (with_reducible refine Blk.alloc ?_) | (with_reducible refine Blk.drew ?_) | (with_reducible refine Blk.other ?_ (by dsimp only; omega)))), by (repeat' (first | (with_reducible exact Below.refl _ _) | (with_reducible assumption) | (with_reducible refine Below.alloc ?_ ?_ _) | (with_reducible refine Below.drew ?_) | (with_reducible refine Below.setCell ?_ ?_ _) | (with_reducible refine Below.trans ?_ (Below.mono (by assumption) ?_)) | (with_reducible exact Nat.le_refl _) | omega | (simp only [World.size_alloc, World.size_setCell, World.size_drew]; omega) | (simp; omega) | (simp; done)))⟩
      case measure => simp [intOf]
    · have d0 := (H1.out.set (i := 0) (v := .float .f32 y0)).cell 0
      have d1 := ((H1.out.set (i := 0) (v := .float .f32 y0)).set (i := 1) (v := .float .f32 y1)).cell 1
      have d2 := (((H1.out.set (i := 0) (v := .float .f32 y0)).set (i := 1) (v := .float .f32 y1)).set (i := 2) (v := .float .f32 y2)).cell 2
      simp only [List.setIfInBounds_toArray, List.set_cons_zero, List.set_cons_succ, List.getElem?_toArray, List.getElem?_cons_zero, List.getElem?_cons_succ] at d0 d1 d2
      go_wp2
      exact bodyPost_ret (v := .agg #[.float .f32 y0, .float .f32 y1, .float .f32 y2]) (by simp [results, Try.results153, go_sem, d0, d1, d2]) rfl ⟨rfl, by (repeat' (first | (with_reducible exact Below.refl _ _) | (with_reducible assumption) | (with_reducible refine Below.alloc ?_ ?_ _) | (with_reducible refine Below.drew ?_) | (with_reducible refine Below.setCell ?_ ?_ _) | (with_reducible refine Below.trans ?_ (Below.mono (by assumption) ?_)) | (with_reducible exact Nat.le_refl _) | omega | (simp only [World.size_alloc, World.size_setCell, World.size_drew]; omega) | (simp; omega) | (simp; done)))⟩
end Go.Proofs.Ytlnikapkheldeaa

/-
  cmp.Compare on singles that are numbers.
-/
namespace Go.Proofs.Ytlnikapkheldeaa
open Go.ChangeShapes Go.WideShapes Go.ChangeAt Go.RowKit Go.Joins
set_option linter.unusedSimpArgs false
set_option linter.unusedVariables false
set_option maxRecDepth 100000
attribute [local go_sem] store_f
open Ieee

theorem isNaN_no {x : Nat} (h : FloatKind.f32.format.order x x = some .eq) (w : World) :
    Calls Try.prog 192 #[.float .f32 x] w fun e w' => e = .returned (.bool false) ∧ w' = w := by
  have h1 : (FloatKind.f32.format.order x x != some .eq) = false := by rw [h]; rfl
  clear h
  go_enter Try.func192, Try.ntmps192
  go_wp2
  all_goals (go_ret; exact ⟨by simp_all, rfl⟩)

structure NaNI (x : Nat) : Prop where
  call : ∀ w : World, Calls Try.prog 192 #[.float .f32 x] w fun e w' => e = .returned (.bool false) ∧ w' = w

theorem compare_of {x y : Nat} (X : NaNI x) (Y : NaNI y) (l g : Bool) (hl : (FloatKind.f32.format.order x y == some .lt) = l) (hg : (FloatKind.f32.format.order x y == some .gt) = g) (w : World) :
    Calls Try.prog 150 #[.float .f32 x, .float .f32 y] w fun e w' => e = .returned (.int .i64 (if l = true then -1 else if g = true then 1 else 0)) ∧ w' = w := by
  cases l
  · cases g
    all_goals
      go_enter Try.func150, Try.ntmps150
      go_wp2_with (go_at_call 192; (first | (with_reducible refine (X.call _).mono ?_) | (with_reducible refine (Y.call _).mono ?_)); rintro e w1 ⟨rfl, rfl⟩)
      all_goals (first | (go_ret; exact ⟨rfl, rfl⟩) | (exfalso; simp_all; done))
  · clear hg
    go_enter Try.func150, Try.ntmps150
    go_wp2_with (go_at_call 192; (first | (with_reducible refine (X.call _).mono ?_) | (with_reducible refine (Y.call _).mono ?_)); rintro e w1 ⟨rfl, rfl⟩)
    all_goals (first | (go_ret; exact ⟨rfl, rfl⟩) | (exfalso; simp_all; done))

end Go.Proofs.Ytlnikapkheldeaa

/-
  How far two parts are; the greatest of three parts.
-/
namespace Go.Proofs.Ytlnikapkheldeaa
open Go.ChangeShapes Go.WideShapes Go.ChangeAt Go.RowKit Go.Joins
set_option linter.unusedSimpArgs false
set_option linter.unusedVariables false
set_option maxRecDepth 100000
attribute [local go_sem] store_f
open Ieee

def farB (a b : Nat) : Nat := if pm a < pm b then subB b a else subB a b

theorem subB_zero {a b : Nat} (ha : Part a) (hb : Part b) (h : pm a = pm b) : subB a b = 0 := by
  have := (subB_part ha hb (Nat.le_of_eq h.symm)).1
  rw [this, h, Nat.sub_self, rn_zero]

theorem farB_le {a b : Nat} (ha : Part a) (hb : Part b) : farB a b ≤ 1065353216 := by
  unfold farB
  split
  · have h1 := (subB_part hb ha (by omega)).2
    have := hb.rung
    omega
  · have h1 := (subB_part ha hb (by omega)).2
    have := ha.rung
    omega

structure DifI (a b r : Nat) : Prop where
  call : ∀ w : World, Calls Try.prog 175 #[.float .f32 a, .float .f32 b] w fun e w' => e = .returned (.float .f32 r) ∧ w' = w

theorem farPart_of {a b x y r : Nat} {o : Ordering} (e : FloatKind.f32.format.order a b = some o) (hx : maxF o a b = x) (hy : minF o a b = y) (D : DifI x y r) (w : World) :
    Calls Try.prog 155 #[.agg #[.float .f32 a, .float .f32 b]] w fun e w' => e = .returned (.float .f32 r) ∧ Below w.heap.size w w' := by
  have hM := fun ts t w => run_max_f Try.prog w ts t a b o e
  have hm := fun ts t w => run_min_f Try.prog w ts t a b o e
  rw [hx] at hM
  rw [hy] at hm
  clear e hx hy
  go_enter Try.func155, Try.ntmps155
  go_wp2_with (first | simp only [hM] | simp only [hm] | (go_at_call 175; refine (D.call _).mono ?_; rintro e w1 ⟨rfl, rfl⟩))
  all_goals (go_returns; exact ⟨rfl, by (repeat' (first | (with_reducible exact Below.refl _ _) | (with_reducible assumption) | (with_reducible refine Below.alloc ?_ ?_ _) | (with_reducible refine Below.drew ?_) | (with_reducible refine Below.setCell ?_ ?_ _) | (with_reducible refine Below.trans ?_ (Below.mono (by assumption) ?_)) | (with_reducible exact Nat.le_refl _) | omega | (simp only [World.size_alloc, World.size_setCell, World.size_drew]; omega) | (simp; omega) | (simp; done)))⟩)

theorem farPart_i {a b : Nat} (ha : Part a) (hb : Part b) (w : World) :
    Calls Try.prog 155 #[.agg #[.float .f32 a, .float .f32 b]] w fun e w' => e = .returned (.float .f32 (farB a b)) ∧ Below w.heap.size w w' := by
  have e := ha.order hb
  have h1 := cmp_lt (a := (pm a : Int)) (b := (pm b : Int))
  have h2 := cmp_eq (a := (pm a : Int)) (b := (pm b : Int))
  generalize compare (pm a : Int) (pm b : Int) = o at e h1 h2
  cases o
  · have hlt : pm a < pm b := by
      have : (pm a : Int) < (pm b : Int) := by simpa using h1
      omega
    have ef : farB a b = subB b a := by unfold farB; rw [if_pos hlt]
    rw [ef]
    exact farPart_of e rfl rfl ⟨fun w => differenceOf_p hb ha w⟩ w
  · have heq : pm a = pm b := by
      have : (pm a : Int) = (pm b : Int) := by simpa using h2
      omega
    have ef : farB a b = 0 := by unfold farB; rw [if_neg (by omega)]; exact subB_zero ha hb heq
    rw [ef]
    cases hn : (FloatKind.f32.decode a).neg
    · have := farPart_of (r := subB a b) e (x := a) (y := b) (by simp [maxF, hn]) (by simp [minF, hn]) ⟨fun w => differenceOf_p ha hb w⟩ w
      rw [subB_zero ha hb heq] at this; exact this
    · have := farPart_of (r := subB b a) e (x := b) (y := a) (by simp [maxF, hn]) (by simp [minF, hn]) ⟨fun w => differenceOf_p hb ha w⟩ w
      rw [subB_zero hb ha heq.symm] at this; exact this
  · have hge : ¬ pm a < pm b := by
      have : ¬ (pm a : Int) < (pm b : Int) := by simpa using h1
      omega
    have ef : farB a b = subB a b := by unfold farB; rw [if_neg hge]
    rw [ef]
    exact farPart_of e rfl rfl ⟨fun w => differenceOf_p ha hb w⟩ w

structure MinC (a b r : Nat) : Prop where
  call : ∀ w : World, Calls Try.prog 163 #[.float .f32 a, .float .f32 b] w fun e w' => e = .returned (.float .f32 r) ∧ w' = w

theorem l2Far_of {a b r s : Nat} (t : Bool) (e : (FloatKind.f32.format.order a b == some .lt) = t) (A : MinC b a r) (B : MinC a b s) (w : World) :
    Calls Try.prog 165 #[.float .f32 a, .float .f32 b] w fun e w' => e = .returned (.float .f32 (if t = true then r else s)) ∧ w' = w := by
  cases t
  · go_enter Try.func165, Try.ntmps165
    go_wp2_with (go_at_call 163; (with_reducible refine (B.call _).mono ?_); rintro e w1 ⟨rfl, rfl⟩)
    all_goals (first | (go_ret; exact ⟨rfl, rfl⟩) | (exfalso; simp_all; done))
  · go_enter Try.func165, Try.ntmps165
    go_wp2_with (go_at_call 163; (with_reducible refine (A.call _).mono ?_); rintro e w1 ⟨rfl, rfl⟩)
    all_goals (first | (go_ret; exact ⟨rfl, rfl⟩) | (exfalso; simp_all; done))

theorem l2Far_s {a b : Nat} (ha : Part a) (hb : Part b) (w : World) :
    Calls Try.prog 165 #[.float .f32 a, .float .f32 b] w fun e w' => e = .returned (.float .f32 (farB a b)) ∧ w' = w := by
  have e : (FloatKind.f32.format.order a b == some .lt) = decide (pm a < pm b) := by
    have e1 := ha.order hb
    show (F32.order a b == some .lt) = _
    rw [e1, cmp_lt]
    simp
  have := l2Far_of _ e ⟨fun w => l1Minus_p hb ha w⟩ ⟨fun w => l1Minus_p ha hb w⟩ w
  have ef : farB a b = if decide (pm a < pm b) = true then subB b a else subB a b := by
    unfold farB; simp
  rw [ef]; exact this

/-- How words of numbers from 0 on compare. -/
theorem order_words {x y : Nat} (hx : x < 2139095040) (hy : y < 2139095040) : F32.order x y = some (compare (x : Int) (y : Int)) := by
  rw [order_fin F32 (fin_of_lt hx) (fin_of_lt hy), val_of_lt (by omega), val_of_lt (by omega)]
  congr 1
  rcases Nat.lt_trichotomy x y with h | h | h
  · have := magOf_lt F32 h
    have h1 : (x : Int) < y := by omega
    have h2 : (magOf F32 x : Int) < magOf F32 y := by omega
    simp [compare, compareOfLessAndEq, h1, h2]
  · subst h; simp
  · have := magOf_lt F32 h
    have h1 : ¬ (x : Int) < y := by omega
    have h2 : ¬ (magOf F32 x : Int) < magOf F32 y := by omega
    have h3 : ¬ (x : Int) = y := by omega
    have h4 : ¬ (magOf F32 x : Int) = magOf F32 y := by omega
    simp only [compare, compareOfLessAndEq, h1, h2, h3, h4, if_false]

theorem compare_i {x y : Nat} (hx : x < 2139095040) (hy : y < 2139095040) (w : World) :
    Calls Try.prog 150 #[.float .f32 x, .float .f32 y] w fun e w' => e = .returned (.int .i64 (if x < y then -1 else if y < x then 1 else 0)) ∧ w' = w := by
  have e := order_words hx hy
  have same : ∀ {z : Nat}, z < 2139095040 → FloatKind.f32.format.order z z = some .eq := fun {z} h => by
    have := order_words h h
    show F32.order z z = _
    rw [this]; simp
  have h1 : (FloatKind.f32.format.order x y == some .lt) = decide (x < y) := by
    show (F32.order x y == some .lt) = _
    rw [e, cmp_lt]; simp
  have h2 : (FloatKind.f32.format.order x y == some .gt) = decide (y < x) := by
    show (F32.order x y == some .gt) = _
    rw [e, cmp_gt]; simp
  have := compare_of ⟨fun w => isNaN_no (same hx) w⟩ ⟨fun w => isNaN_no (same hy) w⟩ _ _ h1 h2 w
  simpa using this
end Go.Proofs.Ytlnikapkheldeaa
