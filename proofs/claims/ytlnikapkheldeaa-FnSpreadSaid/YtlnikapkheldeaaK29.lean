/-
  Texts of this proof, joined: Cfc, Ga, Gb, Gc.
-/
import Derived.Test.YtlnikapkheldeaaK28
import Derived.Test.YtlnikapkheldeaaK09
import Derived.Test.YtlnikapkheldeaaK11
import Derived.Test.YtlnikapkheldeaaK07
/-
  FarColours of both.
-/
namespace Go.Proofs.Ytlnikapkheldeaa
open Go.ChangeShapes Go.WideShapes Go.ChangeAt Go.RowKit Go.Joins
set_option linter.unusedSimpArgs false
set_option linter.unusedVariables false
set_option maxRecDepth 100000
attribute [local go_sem] store_f
open Ieee

theorem far_i_no (a b c x y z : Nat) (h : (colB a b c && colB x y z) = false) (w : World) :
    Calls Try.prog 108 #[colV a b c, colV x y z] w fun e w' => e = .returned (.float .f32 0) ∧ Below w.heap.size w w' := by
  have K : Hid (∀ w : World, Calls Try.prog 151 #[colV a b c, colV x y z] w fun e w' => e = .returned (.bool false) ∧ Below w.heap.size w w') := fun w => h ▸ areColours_i a b c x y z w
  clear h
  unfold colV at K ⊢
  go_enter Try.func108, Try.ntmps108
  go_wp2_with (go_at_call 151; refine (K.out _).mono ?_; rintro e w1 ⟨rfl, hb⟩; obtain ⟨hc, hf⟩ := bcell hb; have HL := keepL (by (repeat (first | (with_reducible assumption) | (with_reducible apply AllLt.alloc) | (with_reducible apply AllLt.setCell) | (with_reducible apply AllLt.drew) | (with_reducible exact AllLt.nil _)))) hb; have hq := HL; simp only [AllLt, and_true, World.size_alloc, World.size_setCell, World.size_drew] at hq; have hbs := hb.size; try simp only [World.size_alloc, World.size_setCell, World.size_drew] at hbs)
  go_returns; exact ⟨rfl, by (repeat' (first | (with_reducible exact Below.refl _ _) | (with_reducible assumption) | (with_reducible refine Below.alloc ?_ ?_ _) | (with_reducible refine Below.drew ?_) | (with_reducible refine Below.setCell ?_ ?_ _) | (with_reducible refine Below.trans ?_ (Below.mono (by assumption) ?_)) | (with_reducible exact Nat.le_refl _) | omega | (simp only [World.size_alloc, World.size_setCell, World.size_drew]; omega) | (simp; omega) | (simp; done)))⟩

theorem far_i_yes (a b c x y z : Nat) (ha : Part a) (hb : Part b) (hc : Part c) (hx : Part x) (hy : Part y) (hz : Part z) (w : World) :
    Calls Try.prog 108 #[colV a b c, colV x y z] w fun e w' => e = .returned (.float .f32 (max (max (farB a x) (farB b y)) (farB c z))) ∧ Below w.heap.size w w' := by
  have hcc : (colB a b c && colB x y z) = true := by rw [parts_colB ha hb hc, parts_colB hx hy hz]; rfl
  have K : Hid (∀ w : World, Calls Try.prog 151 #[colV a b c, colV x y z] w fun e w' => e = .returned (.bool true) ∧ Below w.heap.size w w') := fun w => hcc ▸ areColours_i a b c x y z w
  have E : Hid (∀ w : World, Calls Try.prog 153 #[.agg #[.float .f32 a, .float .f32 x, .float .f32 b, .float .f32 y, .float .f32 c, .float .f32 z], .func (.func 155) #[] #[]] w fun e w' =>
      e = .returned (.agg #[.float .f32 (farB a x), .float .f32 (farB b y), .float .f32 (farB c z)]) ∧ Below w.heap.size w w') := fun w => eachFar_i (a0 := a) (b0 := x) (a1 := b) (b1 := y) (a2 := c) (b2 := z) _ _ _ w (fun w1 _ => farPart_i ha hx w1) (fun w1 _ => farPart_i hb hy w1) (fun w1 _ => farPart_i hc hz w1)
  have G : Hid (∀ w : World, Calls Try.prog 152 #[.agg #[.float .f32 (farB a x), .float .f32 (farB b y), .float .f32 (farB c z)]] w fun e w' => e = .returned (.float .f32 (max (max (farB a x) (farB b y)) (farB c z))) ∧ Below w.heap.size w w') :=
    fun w => greatestPart_i (by have := farB_le ha hx; omega) (by have := farB_le hb hy; omega) (by have := farB_le hc hz; omega) w
  clear ha hb hc hx hy hz hcc
  generalize max (max (farB a x) (farB b y)) (farB c z) = m at G ⊢
  generalize farB a x = p at E G
  generalize farB b y = q at E G
  generalize farB c z = r at E G
  have P : Hid (∀ w : World, Calls Try.prog 154 #[colV a b c, colV x y z] w fun e w' => e = .returned (.agg #[.float .f32 a, .float .f32 x, .float .f32 b, .float .f32 y, .float .f32 c, .float .f32 z]) ∧ Below w.heap.size w w') := fun w => pairsOf_i a b c x y z w
  unfold colV at K P ⊢
  go_enter Try.func108, Try.ntmps108
  go_wp2_with (first | (go_at_call 151; refine (K.out _).mono ?_; rintro e w1 ⟨rfl, hb⟩; obtain ⟨hc, hf⟩ := bcell hb; have HL := keepL (by (repeat (first | (with_reducible assumption) | (with_reducible apply AllLt.alloc) | (with_reducible apply AllLt.setCell) | (with_reducible apply AllLt.drew) | (with_reducible exact AllLt.nil _)))) hb; have hq := HL; simp only [AllLt, and_true, World.size_alloc, World.size_setCell, World.size_drew] at hq; have hbs := hb.size; try simp only [World.size_alloc, World.size_setCell, World.size_drew] at hbs) | (go_at_call 154; refine (P.out _).mono ?_; rintro e w2 ⟨rfl, hb⟩; obtain ⟨hc, hf⟩ := bcell hb; have HL := keepL (by (repeat (first | (with_reducible assumption) | (with_reducible apply AllLt.alloc) | (with_reducible apply AllLt.setCell) | (with_reducible apply AllLt.drew) | (with_reducible exact AllLt.nil _)))) hb; have hq := HL; simp only [AllLt, and_true, World.size_alloc, World.size_setCell, World.size_drew] at hq; have hbs := hb.size; try simp only [World.size_alloc, World.size_setCell, World.size_drew] at hbs) | (go_at_call 153; refine (E.out _).mono ?_; rintro e w3 ⟨rfl, hb⟩; obtain ⟨hc, hf⟩ := bcell hb; have HL := keepL (by (repeat (first | (with_reducible assumption) | (with_reducible apply AllLt.alloc) | (with_reducible apply AllLt.setCell) | (with_reducible apply AllLt.drew) | (with_reducible exact AllLt.nil _)))) hb; have hq := HL; simp only [AllLt, and_true, World.size_alloc, World.size_setCell, World.size_drew] at hq; have hbs := hb.size; try simp only [World.size_alloc, World.size_setCell, World.size_drew] at hbs) | (go_at_call 152; refine (G.out _).mono ?_; rintro e w4 ⟨rfl, hb⟩; obtain ⟨hc, hf⟩ := bcell hb; have HL := keepL (by (repeat (first | (with_reducible assumption) | (with_reducible apply AllLt.alloc) | (with_reducible apply AllLt.setCell) | (with_reducible apply AllLt.drew) | (with_reducible exact AllLt.nil _)))) hb; have hq := HL; simp only [AllLt, and_true, World.size_alloc, World.size_setCell, World.size_drew] at hq; have hbs := hb.size; try simp only [World.size_alloc, World.size_setCell, World.size_drew] at hbs))
  go_returns; exact ⟨rfl, by (repeat' (first | (with_reducible exact Below.refl _ _) | (with_reducible assumption) | (with_reducible refine Below.alloc ?_ ?_ _) | (with_reducible refine Below.drew ?_) | (with_reducible refine Below.setCell ?_ ?_ _) | (with_reducible refine Below.trans ?_ (Below.mono (by assumption) ?_)) | (with_reducible exact Nat.le_refl _) | omega | (simp only [World.size_alloc, World.size_setCell, World.size_drew]; omega) | (simp; omega) | (simp; done)))⟩

theorem far_s_no (a b c x y z : Nat) (p q : Bool) (K : IsCol a b c p) (K2 : IsCol x y z q) (h : (p && q) = false) (w : World) :
    Calls Try.prog 125 #[colV a b c, colV x y z] w fun e w' => e = .returned (.float .f32 0) ∧ Below w.heap.size w w' := by
  unfold colV
  cases p
  · clear K2
    go_enter Try.func125, Try.ntmps125
    go_wp2_with (go_at_call 113; refine (K.call _).mono ?_; rintro e w1 ⟨rfl, hb⟩; obtain ⟨hc, hf⟩ := bcell hb; have HL := keepL (by (repeat (first | (with_reducible assumption) | (with_reducible apply AllLt.alloc) | (with_reducible apply AllLt.setCell) | (with_reducible apply AllLt.drew) | (with_reducible exact AllLt.nil _)))) hb; have hq := HL; simp only [AllLt, and_true, World.size_alloc, World.size_setCell, World.size_drew] at hq; have hbs := hb.size; try simp only [World.size_alloc, World.size_setCell, World.size_drew] at hbs)
    go_returns; exact ⟨rfl, by (repeat' (first | (with_reducible exact Below.refl _ _) | (with_reducible assumption) | (with_reducible refine Below.alloc ?_ ?_ _) | (with_reducible refine Below.drew ?_) | (with_reducible refine Below.setCell ?_ ?_ _) | (with_reducible refine Below.trans ?_ (Below.mono (by assumption) ?_)) | (with_reducible exact Nat.le_refl _) | omega | (simp only [World.size_alloc, World.size_setCell, World.size_drew]; omega) | (simp; omega) | (simp; done)))⟩
  · obtain rfl : q = false := by simpa using h
    clear h
    go_enter Try.func125, Try.ntmps125
    go_wp2_with fail
    go_at_call 113
    refine (K.call _).mono ?_
    rintro e w1 ⟨rfl, hb⟩
    obtain ⟨hc, hf⟩ := bcell hb; have HL := keepL (by (repeat (first | (with_reducible assumption) | (with_reducible apply AllLt.alloc) | (with_reducible apply AllLt.setCell) | (with_reducible apply AllLt.drew) | (with_reducible exact AllLt.nil _)))) hb; have hq := HL; simp only [AllLt, and_true, World.size_alloc, World.size_setCell, World.size_drew] at hq; have hbs := hb.size; try simp only [World.size_alloc, World.size_setCell, World.size_drew] at hbs
    go_wp2_with (go_at_call 113; refine (K2.call _).mono ?_; rintro e w2 ⟨rfl, hb⟩; obtain ⟨hc, hf⟩ := bcell hb; have HL := keepL (by (repeat (first | (with_reducible assumption) | (with_reducible apply AllLt.alloc) | (with_reducible apply AllLt.setCell) | (with_reducible apply AllLt.drew) | (with_reducible exact AllLt.nil _)))) hb; have hq := HL; simp only [AllLt, and_true, World.size_alloc, World.size_setCell, World.size_drew] at hq; have hbs := hb.size; try simp only [World.size_alloc, World.size_setCell, World.size_drew] at hbs)
    go_returns; exact ⟨rfl, by (repeat' (first | (with_reducible exact Below.refl _ _) | (with_reducible assumption) | (with_reducible refine Below.alloc ?_ ?_ _) | (with_reducible refine Below.drew ?_) | (with_reducible refine Below.setCell ?_ ?_ _) | (with_reducible refine Below.trans ?_ (Below.mono (by assumption) ?_)) | (with_reducible exact Nat.le_refl _) | omega | (simp only [World.size_alloc, World.size_setCell, World.size_drew]; omega) | (simp; omega) | (simp; done)))⟩

theorem run_max_f3 (P : Program) (w : World) (ts : Array TypeId) (t : TypeId) (x y z : Nat) (o1 o2 : Ordering) (h1 : FloatKind.f32.format.order x y = some o1) (h2 : FloatKind.f32.format.order (maxF o1 x y) z = some o2) :
    (Builtin.max_ ts t #[.float .f32 x, .float .f32 y, .float .f32 z]).run P w = .ok (.float .f32 (maxF o2 (maxF o1 x y) z)) w := by
  cases o1 <;> simp only [maxF] at h2 ⊢ <;> cases o2 <;> simp [Builtin.max_, Builtin.max2, h1, h2, maxF] <;> rfl

theorem maxF_max {x y : Nat} (hx : x < 2139095040) (hy : y < 2139095040) : ∃ o, FloatKind.f32.format.order x y = some o ∧ maxF o x y = max x y := by
  have e := order_words hx hy
  have h1 := cmp_lt (a := (x : Int)) (b := (y : Int))
  have h2 := cmp_eq (a := (x : Int)) (b := (y : Int))
  generalize compare (x : Int) (y : Int) = o at e h1 h2
  refine ⟨o, e, ?_⟩
  cases o
  · have : (x : Int) < y := by simpa using h1
    show y = max x y
    omega
  · have : (x : Int) = y := by simpa using h2
    obtain rfl : x = y := by omega
    show (if _ then x else x) = max x x
    simp
  · have : ¬ (x : Int) < y := by simpa using h1
    show x = max x y
    omega

structure FarC (a b r : Nat) : Prop where
  call : ∀ w : World, Calls Try.prog 165 #[.float .f32 a, .float .f32 b] w fun e w' => e = .returned (.float .f32 r) ∧ w' = w

theorem far_s_of (a b c x y z p q r m : Nat) (K : IsCol a b c true) (K2 : IsCol x y z true) (A : FarC a x p) (B : FarC b y q) (C : FarC c z r)
    (hm : ∀ ts t w, (Builtin.max_ ts t #[.float .f32 p, .float .f32 q, .float .f32 r]).run Try.prog w = .ok (.float .f32 m) w) (w : World) :
    Calls Try.prog 125 #[colV a b c, colV x y z] w fun e w' => e = .returned (.float .f32 m) ∧ Below w.heap.size w w' := by
  unfold colV
  go_enter Try.func125, Try.ntmps125
  go_wp2_with fail
  go_at_call 113
  refine (K.call _).mono ?_
  rintro e w1 ⟨rfl, hb1⟩
  have hb := hb1
  obtain ⟨hc, hf⟩ := bcell hb; have HL := keepL (by (repeat (first | (with_reducible assumption) | (with_reducible apply AllLt.alloc) | (with_reducible apply AllLt.setCell) | (with_reducible apply AllLt.drew) | (with_reducible exact AllLt.nil _)))) hb; have hq := HL; simp only [AllLt, and_true, World.size_alloc, World.size_setCell, World.size_drew] at hq; have hbs := hb.size; try simp only [World.size_alloc, World.size_setCell, World.size_drew] at hbs
  go_wp2_with (go_at_call 113; refine (K2.call _).mono ?_; rintro e w2 ⟨rfl, hb2⟩; have hb := hb2; obtain ⟨hc, hf⟩ := bcell hb; have HL := keepL (by (repeat (first | (with_reducible assumption) | (with_reducible apply AllLt.alloc) | (with_reducible apply AllLt.setCell) | (with_reducible apply AllLt.drew) | (with_reducible exact AllLt.nil _)))) hb; have hq := HL; simp only [AllLt, and_true, World.size_alloc, World.size_setCell, World.size_drew] at hq; have hbs := hb.size; try simp only [World.size_alloc, World.size_setCell, World.size_drew] at hbs)
  refine wp_region_still_lit (by kernel_rfl) (by kernel_rfl) ?_
  repeat still_step
  still_call (A.call _)
  repeat still_step
  still_call (B.call _)
  repeat still_step
  still_call (C.call _)
  repeat still_step
  have hb0 : Below w.heap.size w w2 := by (repeat' (first | (with_reducible exact Below.refl _ _) | (with_reducible assumption) | (with_reducible refine Below.alloc ?_ ?_ _) | (with_reducible refine Below.drew ?_) | (with_reducible refine Below.setCell ?_ ?_ _) | (with_reducible refine Below.trans ?_ (Below.mono (by assumption) ?_)) | (with_reducible exact Nat.le_refl _) | omega | (simp only [World.size_alloc, World.size_setCell, World.size_drew]; omega) | (simp; omega) | (simp; done)))
  refine wpStill_nil ?_
  go_wp2
  all_goals (go_returns; exact ⟨rfl, hb0.drew⟩)

theorem far_s_yes (a b c x y z : Nat) (ha : Part a) (hb : Part b) (hc : Part c) (hx : Part x) (hy : Part y) (hz : Part z) (w : World) :
    Calls Try.prog 125 #[colV a b c, colV x y z] w fun e w' => e = .returned (.float .f32 (max (max (farB a x) (farB b y)) (farB c z))) ∧ Below w.heap.size w w' := by
  have l1 := farB_le ha hx
  have l2 := farB_le hb hy
  have l3 := farB_le hc hz
  obtain ⟨o1, e1, m1⟩ := maxF_max (x := farB a x) (y := farB b y) (by omega) (by omega)
  obtain ⟨o2, e2, m2⟩ := maxF_max (x := max (farB a x) (farB b y)) (y := farB c z) (by omega) (by omega)
  refine far_s_of a b c x y z _ _ _ _ ⟨fun w => parts_colB ha hb hc ▸ isColour_s a b c ha.lt hb.lt hc.lt w⟩ ⟨fun w => parts_colB hx hy hz ▸ isColour_s x y z hx.lt hy.lt hz.lt w⟩ ⟨fun w => l2Far_s ha hx w⟩ ⟨fun w => l2Far_s hb hy w⟩ ⟨fun w => l2Far_s hc hz w⟩ ?_ w
  intro ts t w
  have := run_max_f3 Try.prog w ts t (farB a x) (farB b y) (farB c z) o1 o2 e1 (by rw [m1]; exact e2)
  rw [m1, m2] at this
  exact this
end Go.Proofs.Ytlnikapkheldeaa

/-
  Sums, differences and products of finite singles as rounded whole numbers: +0 for 0 and for what is too great.
-/
namespace Go.Proofs.Ytlnikapkheldeaa
open Go.ChangeShapes Go.WideShapes Go.ChangeAt Go.RowKit Go.Joins
set_option linter.unusedSimpArgs false
set_option linter.unusedVariables false
set_option maxRecDepth 100000
attribute [local go_sem] store_f
open Ieee

/-- A sign and a rung as a clean word. -/
def cw (s : Bool) (r : Nat) : Nat := if r = 0 ∨ 2139095040 ≤ r then 0 else F32.word s r
/-- A number of units, rounded. -/
def clT (T : Int) : Nat := cw (decide (T < 0)) (rn F32 T.natAbs 0)
/-- A product of two numbers of units, rounded. -/
def clM (P : Int) : Nat := cw (decide (P < 0)) (rn F32 P.natAbs 149)
def tv (T : Int) : Int := valOf F32 (clT T)
def mv (P : Int) : Int := valOf F32 (clM P)

theorem set_inf (s : Bool) : setB (F32.word s 2139095040) = 0 := by cases s <;> decide +kernel
theorem set_word (s : Bool) (r : Nat) : setB (F32.word s (min r F32.infRung)) = cw s r := by
  unfold cw
  rw [F32_inf]
  by_cases h : r < 2139095040
  · rw [Nat.min_eq_left (by omega), set_clean (fin_word s h), clean_w s h]
    by_cases h0 : r = 0
    · rw [if_pos h0, if_pos (Or.inl h0)]
    · rw [if_neg h0, if_neg (by omega)]
  · rw [Nat.min_eq_right (by omega), set_inf, if_pos (Or.inr (by omega))]
theorem cw_zero (s : Bool) : cw s 0 = 0 := by unfold cw; rw [if_pos (Or.inl rfl)]
theorem set_round (z : Bool) (T : Int) : setB (roundTo F32 z T) = clT T := by
  unfold roundTo clT
  rw [set_word]
  by_cases h : T = 0
  · subst h
    rw [Int.natAbs_zero, rn_zero, cw_zero, cw_zero]
  · rw [if_neg h]
theorem cw_cl (s : Bool) (r : Nat) : Cl (cw s r) := by
  unfold cw
  by_cases h : r = 0 ∨ 2139095040 ≤ r
  · rw [if_pos h]; exact cl_zero
  · rw [if_neg h]
    refine ⟨fin_word s (by omega), word_lt s (by omega), fun h1 => ?_⟩
    rw [rungOf_word F32 s (by rw [F32_sw]; omega)] at h1
    omega
theorem clT_cl (T : Int) : Cl (clT T) := cw_cl _ _
theorem clM_cl (P : Int) : Cl (clM P) := cw_cl _ _
theorem val_cw (s : Bool) (r : Nat) : valOf F32 (cw s r) = if r = 0 ∨ 2139095040 ≤ r then 0 else if s then -(magOf F32 r : Int) else (magOf F32 r : Int) := by
  unfold cw
  by_cases h : r = 0 ∨ 2139095040 ≤ r
  · rw [if_pos h, if_pos h, val_zero]
  · rw [if_neg h, if_neg h, valOf_word F32 s (by rw [F32_sw]; omega)]

theorem sub_cl {a b : Nat} (ha : Fin32 a) (hb : Fin32 b) : ∃ r, F32.sub a b = some r ∧ setB r = clT (valOf F32 a - valOf F32 b) :=
  ⟨_, sub_fin F32 ha hb, set_round _ _⟩
theorem add_cl {a b : Nat} (ha : Fin32 a) (hb : Fin32 b) : ∃ r, F32.add a b = some r ∧ setB r = clT (valOf F32 a + valOf F32 b) :=
  ⟨_, add_fin F32 ha hb, set_round _ _⟩
theorem abs_val (x : Nat) : (valOf F32 x).natAbs = magOf F32 (rungOf F32 x) := by unfold valOf; split <;> omega
theorem val_neg {x : Nat} (h : valOf F32 x ≠ 0) : decide (valOf F32 x < 0) = negOf F32 x := by
  have hm := abs_val x
  unfold valOf at *
  cases negOf F32 x <;> simp_all <;> omega
theorem mul_cl {a b : Nat} (ha : Fin32 a) (hb : Fin32 b) : ∃ r, F32.mul a b = some r ∧ setB r = clM (valOf F32 a * valOf F32 b) := by
  refine ⟨_, mul_fin F32 (q := 149) F32_lp ha hb, ?_⟩
  unfold roundMul clM
  rw [set_word, Int.natAbs_mul, abs_val, abs_val]
  by_cases h : valOf F32 a * valOf F32 b = 0
  · have e : magOf F32 (rungOf F32 a) * magOf F32 (rungOf F32 b) = 0 := by rw [← abs_val, ← abs_val, ← Int.natAbs_mul, h]; rfl
    rw [e, rn_zero, cw_zero, cw_zero]
  · have h1 : valOf F32 a ≠ 0 := fun e => h (by rw [e, Int.zero_mul])
    have h2 : valOf F32 b ≠ 0 := fun e => h (by rw [e, Int.mul_zero])
    have e : (negOf F32 a ^^ negOf F32 b) = decide (valOf F32 a * valOf F32 b < 0) := by
      rw [← val_neg h1, ← val_neg h2]
      generalize valOf F32 a = x at *
      generalize valOf F32 b = y at *
      rcases Int.lt_or_gt_of_ne h1 with p | p <;> rcases Int.lt_or_gt_of_ne h2 with q | q
      · have := Int.mul_pos_of_neg_of_neg p q
        simp [p, q]; omega
      · have := Int.mul_neg_of_neg_of_pos p q
        simp [p, this]; omega
      · have := Int.mul_neg_of_pos_of_neg p q
        simp [q, this]; omega
      · have := Int.mul_pos p q
        have n1 : ¬ x < 0 := by omega
        have n2 : ¬ y < 0 := by omega
        have n3 : ¬ x * y < 0 := by omega
        simp [n1, n2, n3]
    rw [e]

theorem rung_cw {s : Bool} {r : Nat} : rungOf F32 (cw s r) = if r = 0 ∨ 2139095040 ≤ r then 0 else r := by
  unfold cw
  by_cases h : r = 0 ∨ 2139095040 ≤ r
  · rw [if_pos h, if_pos h]; exact rung_of_lt (by omega)
  · rw [if_neg h, if_neg h, rungOf_word F32 s (by rw [F32_sw]; omega)]

theorem val_odd {f : Int → Nat} {T : Int} {q : Nat} (hf : ∀ T, f T = cw (decide (T < 0)) (rn F32 T.natAbs q)) : valOf F32 (f (-T)) = - valOf F32 (f T) := by
  rw [hf, hf, val_cw, val_cw, Int.natAbs_neg]
  by_cases h : rn F32 T.natAbs q = 0 ∨ 2139095040 ≤ rn F32 T.natAbs q
  · rw [if_pos h, if_pos h]; rfl
  · rw [if_neg h, if_neg h]
    have hT : T ≠ 0 := fun e => h (Or.inl (by rw [e]; exact rn_zero q))
    rcases Int.lt_or_gt_of_ne hT with p | p
    · have n1 : ¬ -T < 0 := by omega
      simp [p, n1]; intro; omega
    · have n1 : ¬ T < 0 := by omega
      have n2 : -T < 0 := by omega
      simp [n1, n2]; intro; omega
theorem tv_neg (T : Int) : tv (-T) = - tv T := val_odd (f := clT) (q := 0) (fun _ => rfl)
theorem mv_neg (T : Int) : mv (-T) = - mv T := val_odd (f := clM) (q := 149) (fun _ => rfl)
theorem clT_zero : clT 0 = 0 := by unfold clT; rw [Int.natAbs_zero, rn_zero, cw_zero]
theorem clM_zero : clM 0 = 0 := by unfold clM; rw [Int.natAbs_zero, rn_zero, cw_zero]
theorem tv_zero : tv 0 = 0 := by unfold tv; rw [clT_zero, val_zero]
theorem mv_zero : mv 0 = 0 := by unfold mv; rw [clM_zero, val_zero]
theorem mv_nonneg {P : Int} (h : 0 ≤ P) : 0 ≤ mv P := by
  unfold mv clM
  rw [val_cw]
  have n1 : ¬ P < 0 := by omega
  simp only [n1, decide_false, Bool.false_eq_true, if_false]
  split <;> omega
theorem tv_val {x : Nat} (h : Fin32 x) : tv (valOf F32 x) = valOf F32 x := by
  unfold tv clT
  have hr := fin_rung h
  rw [rn_self, val_cw]
  by_cases h0 : rungOf F32 x = 0
  · rw [if_pos (Or.inl h0), val_eq_zero.2 h0]
  · rw [if_neg (by omega), val_neg (fun e => h0 (val_eq_zero.1 e))]
    rfl
theorem clT_ok {T : Int} (h : T.natAbs ≤ magOf F32 1142947840) : okB (clT T) = true := by
  have h1 : rn F32 T.natAbs 0 ≤ 1142947840 := rn_le F32 (by simpa using h)
  have h2 := (clT_cl T).lt
  have h3 : rungOf F32 (clT T) ≤ 1142947840 := by
    unfold clT; rw [rung_cw]; split <;> omega
  unfold rungOf at h3
  rw [F32_sw] at h3
  simp [okB, h2, h3]

/-- Words in reach. -/
structure Rch (x : Nat) : Prop where
  lt : x < 4294967296
  inb : inB x = true
theorem inB_fin {x : Nat} (h : inB x = true) : Fin32 x := by
  by_cases hf : Fin32 x
  · exact hf
  · exfalso
    unfold inB at h
    have h' : (((F32.read x).order (F32.read 3313500160) == some .gt || (F32.read x).order (F32.read 3313500160) == some .eq) && ((F32.read x).order (F32.read 1166016512) == some .lt || (F32.read x).order (F32.read 1166016512) == some .eq)) = true := h
    have r1 : F32.read 3313500160 = .number true 8388608 (-11) := by kernel_rfl
    have r2 : F32.read 1166016512 = .number false 8388608 (-11) := by kernel_rfl
    rw [r1, r2] at h'
    have h1 : F32.infRung ≤ rungOf F32 x := Nat.le_of_not_lt hf
    rcases Nat.eq_or_lt_of_le h1 with h2 | h2
    · rw [read_inf F32 h2.symm F32_eb] at h'
      cases hn : negOf F32 x <;> rw [hn] at h' <;> simp [Datum.order] at h'
    · rw [read_nan F32 h2 F32_eb] at h'; simp [Datum.order] at h'
theorem Rch.fin {x : Nat} (h : Rch x) : Fin32 x := inB_fin h.inb
theorem ok_rch {x : Nat} (h : okB x = true) : Rch x := ⟨ok_lt h, ok_in h⟩
theorem inB_val {x y : Nat} (hx : Fin32 x) (hy : Fin32 y) (e : valOf F32 x = valOf F32 y ∨ valOf F32 x = - valOf F32 y) : inB x = inB y := by
  have e1 : rungOf F32 3313500160 = 1166016512 := by unfold rungOf; rw [F32_sw]
  have e2 : negOf F32 3313500160 = true := by unfold negOf; rw [F32_sw]; rfl
  have f1 : Fin32 3313500160 := by unfold Fin32; rw [e1, F32_inf]; decide
  have f2 : Fin32 1166016512 := fin_of_lt (by omega)
  have v1 : valOf F32 3313500160 = -(magOf F32 1166016512 : Int) := by unfold valOf; rw [e1, e2]; rfl
  have v2 := val_of_lt (x := 1166016512) (by omega)
  unfold inB
  rw [order_fin F32 hx f1, order_fin F32 hx f2, order_fin F32 hy f1, order_fin F32 hy f2, v1, v2]
  simp only [cmp_eq, cmp_lt, cmp_gt]
  generalize (magOf F32 1166016512 : Int) = m
  rw [Bool.eq_iff_iff]
  simp only [Bool.and_eq_true, Bool.or_eq_true, decide_eq_true_eq]
  omega

/-- The side of a point, by values: what is seen from a to b of p. -/
def sideZ (a1 a2 b1 b2 p1 p2 : Int) : Int := tv (mv (tv (b1 - a1) * tv (p2 - a2)) - mv (tv (b2 - a2) * tv (p1 - a1)))
def sideW (a1 a2 b1 b2 p1 p2 : Nat) : Nat :=
  clT (mv (tv (valOf F32 b1 - valOf F32 a1) * tv (valOf F32 p2 - valOf F32 a2)) - mv (tv (valOf F32 b2 - valOf F32 a2) * tv (valOf F32 p1 - valOf F32 a1)))
theorem val_side (a1 a2 b1 b2 p1 p2 : Nat) : valOf F32 (sideW a1 a2 b1 b2 p1 p2) = sideZ (valOf F32 a1) (valOf F32 a2) (valOf F32 b1) (valOf F32 b2) (valOf F32 p1) (valOf F32 p2) := rfl
theorem side_cl (a1 a2 b1 b2 p1 p2 : Nat) : Cl (sideW a1 a2 b1 b2 p1 p2) := clT_cl _

theorem tv_flip (a b : Int) : tv (-a - -b) = - tv (a - b) := by rw [← tv_neg]; congr 1; omega
theorem tv_swap (a b : Int) : tv (a - b) = - tv (b - a) := by rw [← tv_neg]; congr 1; omega
/-- A point whose parts are ±, or exchanged: the side is the same, or its negative. -/
theorem side_turn (a1 a2 b1 b2 p1 p2 : Int) : sideZ (-a2) a1 (-b2) b1 (-p2) p1 = sideZ a1 a2 b1 b2 p1 p2 := by
  unfold sideZ
  rw [tv_flip, tv_flip, Int.neg_mul, mv_neg, Int.mul_neg, mv_neg]
  congr 1
  rw [Int.sub_neg, Int.mul_comm (tv (b1 - a1))]
  omega
theorem side_flip (a1 a2 b1 b2 p1 p2 : Int) : sideZ a1 (-a2) b1 (-b2) p1 (-p2) = - sideZ a1 a2 b1 b2 p1 p2 := by
  unfold sideZ
  rw [tv_flip, tv_flip, Int.neg_mul, mv_neg, Int.mul_neg, mv_neg, ← tv_neg]
  congr 1
  omega
theorem side_at_a (a1 a2 b1 b2 : Int) : sideZ a1 a2 b1 b2 a1 a2 = 0 := by
  unfold sideZ
  rw [Int.sub_self, Int.sub_self, tv_zero, Int.mul_zero, Int.mul_zero, mv_zero, Int.sub_zero, tv_zero]
theorem side_at_b (a1 a2 b1 b2 : Int) : sideZ a1 a2 b1 b2 b1 b2 = 0 := by
  unfold sideZ
  rw [Int.mul_comm (tv (b2 - a2)), Int.sub_self, tv_zero]
end Go.Proofs.Ytlnikapkheldeaa

/-
  Shards as they lie in memory; which points and shards are valid.
-/
namespace Go.Proofs.Ytlnikapkheldeaa
open Go.ChangeShapes Go.WideShapes Go.ChangeAt Go.RowKit Go.Joins
set_option linter.unusedSimpArgs false
set_option linter.unusedVariables false
set_option maxRecDepth 100000
attribute [local go_sem] store_f
open Ieee

/-- A shard: the parts of its corners, its glass. -/
structure Shd where
  a1 : Nat
  a2 : Nat
  b1 : Nat
  b2 : Nat
  c1 : Nat
  c2 : Nat
  r : Nat
  g : Nat
  b : Nat
  k : Nat
instance : Inhabited Shd := ⟨⟨0, 0, 0, 0, 0, 0, 0, 0, 0, 0⟩⟩
def Shd.cells (s : Shd) : List Value := [.complex .f32 s.a1 s.a2, .complex .f32 s.b1 s.b2, .complex .f32 s.c1 s.c2, .float .f32 s.r, .float .f32 s.g, .float .f32 s.b, .float .f32 s.k]
def shCells (l : List Shd) : List Value := l.flatMap Shd.cells
theorem shCells_len (l : List Shd) : (shCells l).length = l.length * 7 := by
  induction l with
  | nil => rfl
  | cons p l ih => simp [shCells, Shd.cells] at ih ⊢; omega
theorem shCells_snoc (l : List Shd) (s : Shd) : shCells (l ++ [s]) = shCells l ++ s.cells := by simp [shCells]

/-- The cells of a list of shards, from a place of a block on. -/
def ShRow (W : World) (b off : Nat) (l : List Shd) : Prop :=
  ∀ k, k < l.length → W.cell? ⟨b, (off + k * 7), Option.none⟩ = some (.complex .f32 (l.getD k default).a1 (l.getD k default).a2) ∧ W.cell? ⟨b, (off + k * 7) + 1, Option.none⟩ = some (.complex .f32 (l.getD k default).b1 (l.getD k default).b2) ∧ W.cell? ⟨b, (off + k * 7) + 2, Option.none⟩ = some (.complex .f32 (l.getD k default).c1 (l.getD k default).c2) ∧ W.cell? ⟨b, (off + k * 7) + 3, Option.none⟩ = some (.float .f32 (l.getD k default).r) ∧ W.cell? ⟨b, (off + k * 7) + 4, Option.none⟩ = some (.float .f32 (l.getD k default).g) ∧ W.cell? ⟨b, (off + k * 7) + 5, Option.none⟩ = some (.float .f32 (l.getD k default).b) ∧ W.cell? ⟨b, (off + k * 7) + 6, Option.none⟩ = some (.float .f32 (l.getD k default).k)
/-- A list of shards as a slice shows it. -/
def RowAt (W : World) (a : Option Addr) (l : List Shd) : Prop :=
  l = [] ∨ ∃ b off, a = some ⟨b, off, Option.none⟩ ∧ ShRow W b off l

theorem ShRow.below {W w1 : World} {b off : Nat} {l : List Shd} (h : ShRow W b off l) (hb : Below W.heap.size W w1) : ShRow w1 b off l := fun k hk => by
  obtain ⟨h0, h1, h2, h3, h4, h5, h6⟩ := h k hk
  exact ⟨cBelow hb h0, cBelow hb h1, cBelow hb h2, cBelow hb h3, cBelow hb h4, cBelow hb h5, cBelow hb h6⟩
theorem ShRow.grown {W w1 : World} {b off : Nat} {l : List Shd} {r : Option Nat} (h : ShRow W b off l) (hg : W.grownBy w1 r) (hne : r ≠ some b) : ShRow w1 b off l := fun k hk => by
  obtain ⟨h0, h1, h2, h3, h4, h5, h6⟩ := h k hk
  have hl := cell_lt h0
  have e : ∀ i, w1.cell? ⟨b, i, Option.none⟩ = W.cell? ⟨b, i, Option.none⟩ := fun i => World.cell?_of_block (hg.block b hl (fun e => hne e.symm))
  rw [e, e, e, e, e, e, e]
  exact ⟨h0, h1, h2, h3, h4, h5, h6⟩
theorem ShRow.set {W : World} {b off : Nat} {a : Addr} {v : Value} {l : List Shd} (h : ShRow W b off l) (hne : b ≠ a.block) : ShRow (W.setCell a v) b off l := fun k hk => by
  obtain ⟨h0, h1, h2, h3, h4, h5, h6⟩ := h k hk
  exact ⟨cSet hne h0, cSet hne h1, cSet hne h2, cSet hne h3, cSet hne h4, cSet hne h5, cSet hne h6⟩
theorem RowAt.below {W w1 : World} {a : Option Addr} {l : List Shd} (h : RowAt W a l) (hb : Below W.heap.size W w1) : RowAt w1 a l := by
  rcases h with h | ⟨b, off, e, h⟩
  · exact .inl h
  · exact .inr ⟨b, off, e, h.below hb⟩

theorem shCells_get : ∀ (l : List Shd) (k : Nat), k < l.length → ∀ j, j < 7 → (shCells l)[k * 7 + j]? = (l.getD k default).cells[j]?
  | p :: l, 0, _, j, hj => by
    have e : shCells (p :: l) = p.cells ++ shCells l := rfl
    rw [e, Nat.zero_mul, Nat.zero_add, List.getElem?_append_left (by simp [Shd.cells]; omega)]
    rfl
  | p :: l, k + 1, h, j, hj => by
    have ih := shCells_get l k (by simpa using h) j hj
    have e : shCells (p :: l) = p.cells ++ shCells l := rfl
    have hl : p.cells.length = 7 := rfl
    rw [e, List.getElem?_append_right (by omega), hl, show (k + 1) * 7 + j - 7 = k * 7 + j by omega, ih]
    rfl
theorem shRow_of {W : World} {base g n cap : Nat} {l : List Shd} (h : W.ownsRow base 57 7 (.slice (some ⟨g, 0, Option.none⟩) n cap) n (shCells l)) (hn : l.length = n) : ShRow W g 0 l := fun k hk => by
  have hg := shCells_get l k hk
  simp only [Nat.zero_add]
  rw [h.cellAt _ (by omega), h.cellAt _ (by omega), h.cellAt _ (by omega), h.cellAt _ (by omega), h.cellAt _ (by omega), h.cellAt _ (by omega), h.cellAt _ (by omega)]
  exact ⟨hg 0 (by omega), hg 1 (by omega), hg 2 (by omega), hg 3 (by omega), hg 4 (by omega), hg 5 (by omega), hg 6 (by omega)⟩
theorem ShRow.left {W : World} {b off : Nat} {l : List Shd} (h : ShRow W b off l) (n : Nat) : ShRow W b off (l.take n) := fun k hk => by
  have h1 : k < l.length := by simp at hk; omega
  have h2 : k < n := by simp at hk; omega
  have e : (l.take n).getD k default = l.getD k default := by simp [List.getD, h2]
  rw [e]; exact h k h1
theorem ShRow.right {W : World} {b off : Nat} {l : List Shd} (h : ShRow W b off l) (n : Nat) : ShRow W b (off + n * 7) (l.drop n) := fun k hk => by
  have h1 : n + k < l.length := by simp at hk; omega
  have e : (l.drop n).getD k default = l.getD (n + k) default := by simp [List.getD]
  have e2 : off + n * 7 + k * 7 = off + (n + k) * 7 := by omega
  rw [e, e2]; exact h (n + k) h1

/-- Is it a point? -/
def ptB (x y : Nat) : Bool := inB x && inB y
def shardB (s : Shd) : Bool := ptB s.a1 s.a2 && ptB s.b1 s.b2 && ptB s.c1 s.c2 && colB s.r s.g s.b && shareB s.k
/-- A shard of 32-bit words that is valid. -/
structure Shd.Ok (s : Shd) : Prop where
  a1 : Rch s.a1
  a2 : Rch s.a2
  b1 : Rch s.b1
  b2 : Rch s.b2
  c1 : Rch s.c1
  c2 : Rch s.c2
  r : Part s.r
  g : Part s.g
  b : Part s.b
  k : Part s.k
theorem parts_col {r g b : Nat} (hr : Part r) (hg : Part g) (hb : Part b) : colB r g b = true := by
  unfold colB; rw [part_share hr, part_share hg, part_share hb]; rfl
theorem Shd.Ok.yes {s : Shd} (h : s.Ok) : shardB s = true := by
  unfold shardB ptB
  rw [h.a1.inb, h.a2.inb, h.b1.inb, h.b2.inb, h.c1.inb, h.c2.inb, parts_col h.r h.g h.b, part_share h.k]; rfl

structure PtIs (x y : Nat) (p : Bool) : Prop where
  call : ∀ w : World, Calls Try.prog 77 #[.complex .f32 x y] w fun e w' => e = .returned (.bool p) ∧ w' = w
theorem ptIs (x y : Nat) : PtIs x y (ptB x y) := ⟨fun w => by
  unfold ptB
  cases hx : inB x
  all_goals
    go_enter Try.func77, Try.ntmps77
    go_wp2_with (go_at_call 129; refine (inReach_i _ _).mono ?_; rintro e w1 ⟨rfl, rfl⟩)
    all_goals (go_ret; exact ⟨by simp_all, rfl⟩)⟩

theorem cornersOf_i (s : Shd) (w : World) :
    Calls Try.prog 145 #[.agg #[.complex .f32 s.a1 s.a2, .complex .f32 s.b1 s.b2, .complex .f32 s.c1 s.c2, .float .f32 s.r, .float .f32 s.g, .float .f32 s.b, .float .f32 s.k]] w fun e w' => e = .returned (.slice (some ⟨w.heap.size + 1, 0, Option.none⟩) 3 3) ∧ Blk w' (w.heap.size + 1) #[.complex .f32 s.a1 s.a2, .complex .f32 s.b1 s.b2, .complex .f32 s.c1 s.c2] 28 ∧ Below w.heap.size w w' := by
  go_enter Try.func145, Try.ntmps145
  go_wp2
  go_returns
  exact ⟨by first | rfl | (simp; done), Blk.newAt (by simp), by (repeat' (first | (with_reducible exact Below.refl _ _) | (with_reducible assumption) | (with_reducible refine Below.alloc ?_ ?_ _) | (with_reducible refine Below.drew ?_) | (with_reducible refine Below.setCell ?_ ?_ _) | (with_reducible refine Below.trans ?_ (Below.mono (by assumption) ?_)) | (with_reducible exact Nat.le_refl _) | omega | (simp only [World.size_alloc, World.size_setCell, World.size_drew]; omega) | (simp; omega) | (simp; done)))⟩
end Go.Proofs.Ytlnikapkheldeaa

/-
  Is it a shard? The side of a point.
-/
namespace Go.Proofs.Ytlnikapkheldeaa
open Go.ChangeShapes Go.WideShapes Go.ChangeAt Go.RowKit Go.Joins
set_option linter.unusedSimpArgs false
set_option linter.unusedVariables false
set_option maxRecDepth 100000
attribute [local go_sem] store_f
open Ieee

structure ColIs (r g b : Nat) (p : Bool) : Prop where
  call : ∀ w : World, Calls Try.prog 95 #[.agg #[.float .f32 r, .float .f32 g, .float .f32 b]] w fun e w' => e = .returned (.bool p) ∧ Below w.heap.size w w'
theorem colIs (r g b : Nat) : ColIs r g b (colB r g b) := ⟨fun w => isColour_i r g b w⟩
structure ShareIs (k : Nat) (p : Bool) : Prop where
  call : ∀ w : World, Calls Try.prog 137 #[.float .f32 k] w fun e w' => e = .returned (.bool p) ∧ w' = w
theorem shareIs (k : Nat) : ShareIs k (shareB k) := ⟨fun w => isShare_i k w⟩
structure Corn (s : Shd) : Prop where
  call : ∀ w : World, Calls Try.prog 145 #[.agg #[.complex .f32 s.a1 s.a2, .complex .f32 s.b1 s.b2, .complex .f32 s.c1 s.c2, .float .f32 s.r, .float .f32 s.g, .float .f32 s.b, .float .f32 s.k]] w fun e w' => e = .returned (.slice (some ⟨w.heap.size + 1, 0, Option.none⟩) 3 3) ∧ Blk w' (w.heap.size + 1) #[.complex .f32 s.a1 s.a2, .complex .f32 s.b1 s.b2, .complex .f32 s.c1 s.c2] 28 ∧ Below w.heap.size w w'

set_option maxHeartbeats 4000000 in
theorem isShard_of (s : Shd) (p q r c k : Bool) (C : Corn s) (P : PtIs s.a1 s.a2 p) (Q : PtIs s.b1 s.b2 q) (R : PtIs s.c1 s.c2 r) (CC : ColIs s.r s.g s.b c) (K : ShareIs s.k k) (w : World) :
    Calls Try.prog 101 #[.agg #[.complex .f32 s.a1 s.a2, .complex .f32 s.b1 s.b2, .complex .f32 s.c1 s.c2, .float .f32 s.r, .float .f32 s.g, .float .f32 s.b, .float .f32 s.k]] w fun e w' => e = .returned (.bool (p && q && r && c && k)) ∧ Below w.heap.size w w' := by
  go_enter Try.func101, Try.ntmps101
  go_wp2_with fail
  refine (C.call _).mono ?_
  rintro e w1 ⟨rfl, hB, hb1⟩
  have hbel : Below w.heap.size w w1 := by (repeat' (first | (with_reducible exact Below.refl _ _) | (with_reducible assumption) | (with_reducible refine Below.alloc ?_ ?_ _) | (with_reducible refine Below.drew ?_) | (with_reducible refine Below.setCell ?_ ?_ _) | (with_reducible refine Below.trans ?_ (Below.mono (by assumption) ?_)) | (with_reducible exact Nat.le_refl _) | omega | (simp only [World.size_alloc, World.size_setCell, World.size_drew]; omega) | (simp; omega) | (simp; done)))
  have hs : Blk w1 w.heap.size #[.complex .f32 s.a1 s.a2, .complex .f32 s.b1 s.b2, .complex .f32 s.c1 s.c2, .float .f32 s.r, .float .f32 s.g, .float .f32 s.b, .float .f32 s.k] 57 := Blk.belowAt hb1 (Blk.newAt rfl)
  simp only [World.size_alloc] at hB
  have hl := hs.lt
  have c0 := Blk.cellAt (i := 0) hB rfl
  have c1 := Blk.cellAt (i := 1) hB rfl
  have c2 := Blk.cellAt (i := 2) hB rfl
  have d3 := Blk.cellAt (i := 3) hs rfl
  have d4 := Blk.cellAt (i := 4) hs rfl
  have d5 := Blk.cellAt (i := 5) hs rfl
  have d6 := Blk.cellAt (i := 6) hs rfl
  simp only [List.getElem_toArray, List.getElem_cons_zero, List.getElem_cons_succ] at c0 c1 c2 d3 d4 d5 d6
  have HB : Hid (Below w.heap.size w w1) := hbel
  clear hB hb1 hbel hs
  simp only [World.size_alloc]
  go_wp2_with fail
  go_loopw [4, 8] (fun v i wr => wr = w1 ∧ (i = .int .i64 0 ∨ (i = .int .i64 1 ∧ p = true) ∨ (i = .int .i64 2 ∧ p = true ∧ q = true) ∨ (i = .int .i64 3 ∧ p = true ∧ q = true ∧ r = true))) (fun _ i _ => 3 - (intOf i).toNat)
  case atStart => exact ⟨rfl, .inl rfl⟩
  case round =>
    obtain ⟨rfl, hrel⟩ := hrel
    rcases hrel with rfl | ⟨rfl, rfl⟩ | ⟨rfl, rfl, rfl⟩ | ⟨rfl, rfl, rfl, rfl⟩
    · cases p
      · go_wp2_with (go_at_call 77; refine (P.call _).mono ?_; rintro e w2 ⟨rfl, rfl⟩)
        go_ret
        exact ⟨rfl, HB.out⟩
      · go_wp2_with (go_at_call 77; refine (P.call _).mono ?_; rintro e w2 ⟨rfl, rfl⟩)
        go_roundw
        case rel => simp
        case measure => simp [intOf]
    · cases q
      · go_wp2_with (go_at_call 77; refine (Q.call _).mono ?_; rintro e w2 ⟨rfl, rfl⟩)
        go_ret
        exact ⟨rfl, HB.out⟩
      · go_wp2_with (go_at_call 77; refine (Q.call _).mono ?_; rintro e w2 ⟨rfl, rfl⟩)
        go_roundw
        case rel => simp
        case measure => simp [intOf]
    · cases r
      · go_wp2_with (go_at_call 77; refine (R.call _).mono ?_; rintro e w2 ⟨rfl, rfl⟩)
        go_ret
        exact ⟨rfl, HB.out⟩
      · go_wp2_with (go_at_call 77; refine (R.call _).mono ?_; rintro e w2 ⟨rfl, rfl⟩)
        go_roundw
        case rel => simp
        case measure => simp [intOf]
    · cases c
      · go_wp2_with fail
        refine (CC.call _).mono ?_
        rintro e w2 ⟨rfl, hb2⟩
        have HB2 : Hid (Below w.heap.size w w2) := HB.out.trans (hb2.mono (by omega))
        clear hb2
        go_wp2
        go_ret
        exact ⟨rfl, HB2.out⟩
      · go_wp2_with fail
        refine (CC.call _).mono ?_
        rintro e w2 ⟨rfl, hb2⟩
        have HB2 : Hid (Below w.heap.size w w2) := HB.out.trans (hb2.mono (by omega))
        have e6 := cBelow hb2 d6
        clear hb2
        go_wp2_with (go_at_call 137; refine (K.call _).mono ?_; rintro e w3 ⟨rfl, rfl⟩)
        go_ret
        exact ⟨by simp, HB2.out⟩

structure ShdIs (s : Shd) (p : Bool) : Prop where
  call : ∀ w : World, Calls Try.prog 101 #[.agg #[.complex .f32 s.a1 s.a2, .complex .f32 s.b1 s.b2, .complex .f32 s.c1 s.c2, .float .f32 s.r, .float .f32 s.g, .float .f32 s.b, .float .f32 s.k]] w fun e w' => e = .returned (.bool p) ∧ Below w.heap.size w w'
theorem shdIs (s : Shd) : ShdIs s (shardB s) := ⟨fun w => isShard_of s _ _ _ _ _ ⟨fun w => cornersOf_i s w⟩ (ptIs _ _) (ptIs _ _) (ptIs _ _) (colIs _ _ _) (shareIs _) w⟩

/-- An operation on two singles. -/
structure Op2 (F : FuncId) (a b r : Nat) : Prop where
  call : ∀ w : World, Calls Try.prog F #[.float .f32 a, .float .f32 b] w fun e w' => e = .returned (.float .f32 r) ∧ w' = w
theorem diff2 {a b : Nat} (ha : Fin32 a) (hb : Fin32 b) : Op2 175 a b (clT (valOf F32 a - valOf F32 b)) := ⟨fun w => by
  obtain ⟨r, e, h⟩ := sub_cl ha hb
  rw [← h]; exact differenceOf_i a b r w e⟩
theorem sum2 {a b : Nat} (ha : Fin32 a) (hb : Fin32 b) : Op2 80 a b (clT (valOf F32 a + valOf F32 b)) := ⟨fun w => by
  obtain ⟨r, e, h⟩ := add_cl ha hb
  rw [← h]; exact sumOf_i a b r w e⟩
theorem prod2 {a b : Nat} (ha : Fin32 a) (hb : Fin32 b) : Op2 81 a b (clM (valOf F32 a * valOf F32 b)) := ⟨fun w => by
  obtain ⟨r, e, h⟩ := mul_cl ha hb
  rw [← h]; exact productOf_i a b r w e⟩

structure Join (F : FuncId) (a1 a2 b1 b2 x y : Nat) : Prop where
  call : ∀ w : World, Calls Try.prog 144 #[.complex .f32 a1 a2, .complex .f32 b1 b2, .func (.func F) #[] #[]] w fun e w' => e = .returned (.complex .f32 x y) ∧ w' = w
structure SideIs (a1 a2 b1 b2 p1 p2 z : Nat) : Prop where
  call : ∀ w : World, Calls Try.prog 203 #[.complex .f32 a1 a2, .complex .f32 b1 b2, .complex .f32 p1 p2] w fun e w' => e = .returned (.float .f32 z) ∧ w' = w
set_option maxHeartbeats 4000000 in
theorem side_of {a1 a2 b1 b2 p1 p2 d1 d2 e1 e2 x y z : Nat} (A : PtIs a1 a2 true) (B : PtIs b1 b2 true) (P : PtIs p1 p2 true) (D : Join 175 b1 b2 a1 a2 d1 d2) (E : Join 175 p1 p2 a1 a2 e1 e2)
    (X : Op2 81 d1 e2 x) (Y : Op2 81 d2 e1 y) (Z : Op2 175 x y z) : SideIs a1 a2 b1 b2 p1 p2 z := ⟨fun w => by
  go_enter Try.func203, Try.ntmps203
  go_wp2_with (first | (go_at_call 77; (first | (with_reducible refine (A.call _).mono ?_) | (with_reducible refine (B.call _).mono ?_) | (with_reducible refine (P.call _).mono ?_)); rintro e w1 ⟨rfl, rfl⟩) | (go_at_call 144; (first | (with_reducible refine (D.call _).mono ?_) | (with_reducible refine (E.call _).mono ?_)); rintro e w1 ⟨rfl, rfl⟩) | (go_at_call 81; (first | (with_reducible refine (X.call _).mono ?_) | (with_reducible refine (Y.call _).mono ?_)); rintro e w1 ⟨rfl, rfl⟩) | (go_at_call 175; (with_reducible refine (Z.call _).mono ?_); rintro e w1 ⟨rfl, rfl⟩))
  go_ret
  exact ⟨rfl, rfl⟩⟩
theorem ptYes {x y : Nat} (hx : inB x = true) (hy : inB y = true) : PtIs x y true := by
  have h := ptIs x y
  unfold ptB at h
  rwa [hx, hy] at h
end Go.Proofs.Ytlnikapkheldeaa
