/-
  FarColours of both.
-/
import Derived.Test.YtljilmekmfnkbaaCgr
namespace Go.Proofs.Ytljilmekmfnkbaa
open Go.ChangeShapes Go.WideShapes Go.ChangeAt Go.RowKit Go.Joins
set_option linter.unusedSimpArgs false
set_option linter.unusedVariables false
set_option maxRecDepth 100000
attribute [local go_sem] store_f
open Ieee

theorem far_i_no (a b c x y z : Nat) (h : (colB a b c && colB x y z) = false) (w : World) :
    Calls Try.prog 24 #[colV a b c, colV x y z] w fun e w' => e = .returned (.float .f32 0) ∧ Below w.heap.size w w' := by
  have K : Hid (∀ w : World, Calls Try.prog 43 #[colV a b c, colV x y z] w fun e w' => e = .returned (.bool false) ∧ Below w.heap.size w w') := fun w => h ▸ areColours_i a b c x y z w
  clear h
  unfold colV at K ⊢
  go_enter Try.func24, Try.ntmps24
  go_wp2_with (go_at_call 43; refine (K.out _).mono ?_; rintro e w1 ⟨rfl, hb⟩; obtain ⟨hc, hf⟩ := bcell hb; have HL := keepL (by (repeat (first | (with_reducible assumption) | (with_reducible apply AllLt.alloc) | (with_reducible apply AllLt.setCell) | (with_reducible apply AllLt.drew) | (with_reducible exact AllLt.nil _)))) hb; have hq := HL; simp only [AllLt, and_true, World.size_alloc, World.size_setCell, World.size_drew] at hq; have hbs := hb.size; try simp only [World.size_alloc, World.size_setCell, World.size_drew] at hbs)
  go_returns; exact ⟨rfl, by (repeat' (first | (with_reducible exact Below.refl _ _) | (with_reducible assumption) | (with_reducible refine Below.alloc ?_ ?_ _) | (with_reducible refine Below.drew ?_) | (with_reducible refine Below.setCell ?_ ?_ _) | (with_reducible refine Below.trans ?_ (Below.mono (by assumption) ?_)) | (with_reducible exact Nat.le_refl _) | omega | (simp only [World.size_alloc, World.size_setCell, World.size_drew]; omega) | (simp; omega) | (simp; done)))⟩

theorem far_i_yes (a b c x y z : Nat) (ha : Part a) (hb : Part b) (hc : Part c) (hx : Part x) (hy : Part y) (hz : Part z) (w : World) :
    Calls Try.prog 24 #[colV a b c, colV x y z] w fun e w' => e = .returned (.float .f32 (max (max (farB a x) (farB b y)) (farB c z))) ∧ Below w.heap.size w w' := by
  have hcc : (colB a b c && colB x y z) = true := by rw [parts_colB ha hb hc, parts_colB hx hy hz]; rfl
  have K : Hid (∀ w : World, Calls Try.prog 43 #[colV a b c, colV x y z] w fun e w' => e = .returned (.bool true) ∧ Below w.heap.size w w') := fun w => hcc ▸ areColours_i a b c x y z w
  have E : Hid (∀ w : World, Calls Try.prog 45 #[.agg #[.float .f32 a, .float .f32 x, .float .f32 b, .float .f32 y, .float .f32 c, .float .f32 z], .func (.func 59) #[] #[]] w fun e w' =>
      e = .returned (.agg #[.float .f32 (farB a x), .float .f32 (farB b y), .float .f32 (farB c z)]) ∧ Below w.heap.size w w') := fun w => eachFar_i (a0 := a) (b0 := x) (a1 := b) (b1 := y) (a2 := c) (b2 := z) _ _ _ w (fun w1 _ => farPart_i ha hx w1) (fun w1 _ => farPart_i hb hy w1) (fun w1 _ => farPart_i hc hz w1)
  have G : Hid (∀ w : World, Calls Try.prog 56 #[.agg #[.float .f32 (farB a x), .float .f32 (farB b y), .float .f32 (farB c z)]] w fun e w' => e = .returned (.float .f32 (max (max (farB a x) (farB b y)) (farB c z))) ∧ Below w.heap.size w w') :=
    fun w => greatestPart_i (by have := farB_le ha hx; omega) (by have := farB_le hb hy; omega) (by have := farB_le hc hz; omega) w
  clear ha hb hc hx hy hz hcc
  generalize max (max (farB a x) (farB b y)) (farB c z) = m at G ⊢
  generalize farB a x = p at E G
  generalize farB b y = q at E G
  generalize farB c z = r at E G
  have P : Hid (∀ w : World, Calls Try.prog 46 #[colV a b c, colV x y z] w fun e w' => e = .returned (.agg #[.float .f32 a, .float .f32 x, .float .f32 b, .float .f32 y, .float .f32 c, .float .f32 z]) ∧ Below w.heap.size w w') := fun w => pairsOf_i a b c x y z w
  unfold colV at K P ⊢
  go_enter Try.func24, Try.ntmps24
  go_wp2_with (first | (go_at_call 43; refine (K.out _).mono ?_; rintro e w1 ⟨rfl, hb⟩; obtain ⟨hc, hf⟩ := bcell hb; have HL := keepL (by (repeat (first | (with_reducible assumption) | (with_reducible apply AllLt.alloc) | (with_reducible apply AllLt.setCell) | (with_reducible apply AllLt.drew) | (with_reducible exact AllLt.nil _)))) hb; have hq := HL; simp only [AllLt, and_true, World.size_alloc, World.size_setCell, World.size_drew] at hq; have hbs := hb.size; try simp only [World.size_alloc, World.size_setCell, World.size_drew] at hbs) | (go_at_call 46; refine (P.out _).mono ?_; rintro e w2 ⟨rfl, hb⟩; obtain ⟨hc, hf⟩ := bcell hb; have HL := keepL (by (repeat (first | (with_reducible assumption) | (with_reducible apply AllLt.alloc) | (with_reducible apply AllLt.setCell) | (with_reducible apply AllLt.drew) | (with_reducible exact AllLt.nil _)))) hb; have hq := HL; simp only [AllLt, and_true, World.size_alloc, World.size_setCell, World.size_drew] at hq; have hbs := hb.size; try simp only [World.size_alloc, World.size_setCell, World.size_drew] at hbs) | (go_at_call 45; refine (E.out _).mono ?_; rintro e w3 ⟨rfl, hb⟩; obtain ⟨hc, hf⟩ := bcell hb; have HL := keepL (by (repeat (first | (with_reducible assumption) | (with_reducible apply AllLt.alloc) | (with_reducible apply AllLt.setCell) | (with_reducible apply AllLt.drew) | (with_reducible exact AllLt.nil _)))) hb; have hq := HL; simp only [AllLt, and_true, World.size_alloc, World.size_setCell, World.size_drew] at hq; have hbs := hb.size; try simp only [World.size_alloc, World.size_setCell, World.size_drew] at hbs) | (go_at_call 56; refine (G.out _).mono ?_; rintro e w4 ⟨rfl, hb⟩; obtain ⟨hc, hf⟩ := bcell hb; have HL := keepL (by (repeat (first | (with_reducible assumption) | (with_reducible apply AllLt.alloc) | (with_reducible apply AllLt.setCell) | (with_reducible apply AllLt.drew) | (with_reducible exact AllLt.nil _)))) hb; have hq := HL; simp only [AllLt, and_true, World.size_alloc, World.size_setCell, World.size_drew] at hq; have hbs := hb.size; try simp only [World.size_alloc, World.size_setCell, World.size_drew] at hbs))
  go_returns; exact ⟨rfl, by (repeat' (first | (with_reducible exact Below.refl _ _) | (with_reducible assumption) | (with_reducible refine Below.alloc ?_ ?_ _) | (with_reducible refine Below.drew ?_) | (with_reducible refine Below.setCell ?_ ?_ _) | (with_reducible refine Below.trans ?_ (Below.mono (by assumption) ?_)) | (with_reducible exact Nat.le_refl _) | omega | (simp only [World.size_alloc, World.size_setCell, World.size_drew]; omega) | (simp; omega) | (simp; done)))⟩

theorem far_s_no (a b c x y z : Nat) (p q : Bool) (K : IsCol a b c p) (K2 : IsCol x y z q) (h : (p && q) = false) (w : World) :
    Calls Try.prog 37 #[colV a b c, colV x y z] w fun e w' => e = .returned (.float .f32 0) ∧ Below w.heap.size w w' := by
  unfold colV
  cases p
  · clear K2
    go_enter Try.func37, Try.ntmps37
    go_wp2_with (go_at_call 28; refine (K.call _).mono ?_; rintro e w1 ⟨rfl, hb⟩; obtain ⟨hc, hf⟩ := bcell hb; have HL := keepL (by (repeat (first | (with_reducible assumption) | (with_reducible apply AllLt.alloc) | (with_reducible apply AllLt.setCell) | (with_reducible apply AllLt.drew) | (with_reducible exact AllLt.nil _)))) hb; have hq := HL; simp only [AllLt, and_true, World.size_alloc, World.size_setCell, World.size_drew] at hq; have hbs := hb.size; try simp only [World.size_alloc, World.size_setCell, World.size_drew] at hbs)
    go_returns; exact ⟨rfl, by (repeat' (first | (with_reducible exact Below.refl _ _) | (with_reducible assumption) | (with_reducible refine Below.alloc ?_ ?_ _) | (with_reducible refine Below.drew ?_) | (with_reducible refine Below.setCell ?_ ?_ _) | (with_reducible refine Below.trans ?_ (Below.mono (by assumption) ?_)) | (with_reducible exact Nat.le_refl _) | omega | (simp only [World.size_alloc, World.size_setCell, World.size_drew]; omega) | (simp; omega) | (simp; done)))⟩
  · obtain rfl : q = false := by simpa using h
    clear h
    go_enter Try.func37, Try.ntmps37
    go_wp2_with fail
    go_at_call 28
    refine (K.call _).mono ?_
    rintro e w1 ⟨rfl, hb⟩
    obtain ⟨hc, hf⟩ := bcell hb; have HL := keepL (by (repeat (first | (with_reducible assumption) | (with_reducible apply AllLt.alloc) | (with_reducible apply AllLt.setCell) | (with_reducible apply AllLt.drew) | (with_reducible exact AllLt.nil _)))) hb; have hq := HL; simp only [AllLt, and_true, World.size_alloc, World.size_setCell, World.size_drew] at hq; have hbs := hb.size; try simp only [World.size_alloc, World.size_setCell, World.size_drew] at hbs
    go_wp2_with (go_at_call 28; refine (K2.call _).mono ?_; rintro e w2 ⟨rfl, hb⟩; obtain ⟨hc, hf⟩ := bcell hb; have HL := keepL (by (repeat (first | (with_reducible assumption) | (with_reducible apply AllLt.alloc) | (with_reducible apply AllLt.setCell) | (with_reducible apply AllLt.drew) | (with_reducible exact AllLt.nil _)))) hb; have hq := HL; simp only [AllLt, and_true, World.size_alloc, World.size_setCell, World.size_drew] at hq; have hbs := hb.size; try simp only [World.size_alloc, World.size_setCell, World.size_drew] at hbs)
    go_returns; exact ⟨rfl, by (repeat' (first | (with_reducible exact Below.refl _ _) | (with_reducible assumption) | (with_reducible refine Below.alloc ?_ ?_ _) | (with_reducible refine Below.drew ?_) | (with_reducible refine Below.setCell ?_ ?_ _) | (with_reducible refine Below.trans ?_ (Below.mono (by assumption) ?_)) | (with_reducible exact Nat.le_refl _) | omega | (simp only [World.size_alloc, World.size_setCell, World.size_drew]; omega) | (simp; omega) | (simp; done)))⟩

theorem run_max_f3 (P : Program) (w : World) (ts : Array TypeId) (t : TypeId) (x y z : Nat) (o1 o2 : Ordering) (h1 : FloatKind.f32.format.order x y = some o1) (h2 : FloatKind.f32.format.order (maxF o1 x y) z = some o2) :
    (Builtin.max_ ts t #[.float .f32 x, .float .f32 y, .float .f32 z]).run P w = .ok (.float .f32 (maxF o2 (maxF o1 x y) z)) w := by
  cases o1 <;> simp only [maxF] at h2 ⊢ <;> cases o2 <;> simp [Builtin.max_, Builtin.max2, h1, h2, maxF] <;> rfl

theorem maxF_max {x y : Nat} (hx : x < 2139095040) (hy : y < 2139095040) : ∃ o, FloatKind.f32.format.order x y = some o ∧ maxF o x y = max x y := by
  have e := order_words hx hy
  have h1 := cmp_lt (a := (x : Int)) (b := (y : Int))
  have h2 := cmp_eq (a := (x : Int)) (b := (y : Int))
  generalize compare (x : Int) (y : Int) = o at e h1 h2
  refine ⟨o, e, ?_⟩
  cases o
  · have : (x : Int) < y := by simpa using h1
    show y = max x y
    omega
  · have : (x : Int) = y := by simpa using h2
    obtain rfl : x = y := by omega
    show (if _ then x else x) = max x x
    simp
  · have : ¬ (x : Int) < y := by simpa using h1
    show x = max x y
    omega

structure FarC (a b r : Nat) : Prop where
  call : ∀ w : World, Calls Try.prog 76 #[.float .f32 a, .float .f32 b] w fun e w' => e = .returned (.float .f32 r) ∧ w' = w

theorem far_s_of (a b c x y z p q r m : Nat) (K : IsCol a b c true) (K2 : IsCol x y z true) (A : FarC a x p) (B : FarC b y q) (C : FarC c z r)
    (hm : ∀ ts t w, (Builtin.max_ ts t #[.float .f32 p, .float .f32 q, .float .f32 r]).run Try.prog w = .ok (.float .f32 m) w) (w : World) :
    Calls Try.prog 37 #[colV a b c, colV x y z] w fun e w' => e = .returned (.float .f32 m) ∧ Below w.heap.size w w' := by
  unfold colV
  go_enter Try.func37, Try.ntmps37
  go_wp2_with fail
  go_at_call 28
  refine (K.call _).mono ?_
  rintro e w1 ⟨rfl, hb1⟩
  have hb := hb1
  obtain ⟨hc, hf⟩ := bcell hb; have HL := keepL (by (repeat (first | (with_reducible assumption) | (with_reducible apply AllLt.alloc) | (with_reducible apply AllLt.setCell) | (with_reducible apply AllLt.drew) | (with_reducible exact AllLt.nil _)))) hb; have hq := HL; simp only [AllLt, and_true, World.size_alloc, World.size_setCell, World.size_drew] at hq; have hbs := hb.size; try simp only [World.size_alloc, World.size_setCell, World.size_drew] at hbs
  go_wp2_with (go_at_call 28; refine (K2.call _).mono ?_; rintro e w2 ⟨rfl, hb2⟩; have hb := hb2; obtain ⟨hc, hf⟩ := bcell hb; have HL := keepL (by (repeat (first | (with_reducible assumption) | (with_reducible apply AllLt.alloc) | (with_reducible apply AllLt.setCell) | (with_reducible apply AllLt.drew) | (with_reducible exact AllLt.nil _)))) hb; have hq := HL; simp only [AllLt, and_true, World.size_alloc, World.size_setCell, World.size_drew] at hq; have hbs := hb.size; try simp only [World.size_alloc, World.size_setCell, World.size_drew] at hbs)
  refine wp_region_still_lit (by kernel_rfl) (by kernel_rfl) ?_
  repeat still_step
  still_call (A.call _)
  repeat still_step
  still_call (B.call _)
  repeat still_step
  still_call (C.call _)
  repeat still_step
  have hb0 : Below w.heap.size w w2 := by (repeat' (first | (with_reducible exact Below.refl _ _) | (with_reducible assumption) | (with_reducible refine Below.alloc ?_ ?_ _) | (with_reducible refine Below.drew ?_) | (with_reducible refine Below.setCell ?_ ?_ _) | (with_reducible refine Below.trans ?_ (Below.mono (by assumption) ?_)) | (with_reducible exact Nat.le_refl _) | omega | (simp only [World.size_alloc, World.size_setCell, World.size_drew]; omega) | (simp; omega) | (simp; done)))
  refine wpStill_nil ?_
  go_wp2
  all_goals (go_returns; exact ⟨rfl, hb0.drew⟩)

theorem far_s_yes (a b c x y z : Nat) (ha : Part a) (hb : Part b) (hc : Part c) (hx : Part x) (hy : Part y) (hz : Part z) (w : World) :
    Calls Try.prog 37 #[colV a b c, colV x y z] w fun e w' => e = .returned (.float .f32 (max (max (farB a x) (farB b y)) (farB c z))) ∧ Below w.heap.size w w' := by
  have l1 := farB_le ha hx
  have l2 := farB_le hb hy
  have l3 := farB_le hc hz
  obtain ⟨o1, e1, m1⟩ := maxF_max (x := farB a x) (y := farB b y) (by omega) (by omega)
  obtain ⟨o2, e2, m2⟩ := maxF_max (x := max (farB a x) (farB b y)) (y := farB c z) (by omega) (by omega)
  refine far_s_of a b c x y z _ _ _ _ ⟨fun w => parts_colB ha hb hc ▸ isColour_s a b c ha.lt hb.lt hc.lt w⟩ ⟨fun w => parts_colB hx hy hz ▸ isColour_s x y z hx.lt hy.lt hz.lt w⟩ ⟨fun w => l2Far_s ha hx w⟩ ⟨fun w => l2Far_s hb hy w⟩ ⟨fun w => l2Far_s hc hz w⟩ ?_ w
  intro ts t w
  have := run_max_f3 Try.prog w ts t (farB a x) (farB b y) (farB c z) o1 o2 e1 (by rw [m1]; exact e2)
  rw [m1, m2] at this
  exact this
end Go.Proofs.Ytljilmekmfnkbaa
