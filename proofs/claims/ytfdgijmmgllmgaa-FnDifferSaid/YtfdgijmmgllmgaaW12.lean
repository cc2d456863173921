/-
  Texts Cgr Cfc Ek Cfl Hp Nf Dfa, joined.
-/
import Derived.Test.YtfdgijmmgllmgaaW11
import Derived.Test.YtfdgijmmgllmgaaW08
import Derived.Deep.RegionHeld3
import Derived.Deep.QuietTactic
import Derived.BigQuiet
import Derived.Test.YtfdgijmmgllmgaaW10
import Derived.Test.YtfdgijmmgllmgaaW06
import Derived.Maps.AppendAt
namespace Go.Proofs.Ytfdgijmmgllmgaa
open Go.ChangeShapes Go.WideShapes Go.ChangeAt Go.RowKit Go.Joins
set_option linter.unusedSimpArgs false
set_option linter.unusedVariables false
set_option maxRecDepth 100000
attribute [local go_sem] store_f
open Ieee
structure CmpI (x y : Nat) (n : Int) : Prop where
  call : ∀ w : World, Calls Try.prog 106 #[.float .f32 x, .float .f32 y] w fun e w' => e = .returned (.int .i64 n) ∧ w' = w
set_option maxHeartbeats 1000000 in
theorem maxFunc_of (y0 y1 y2 m1 m2 : Nat) (n1 n2 : Int) (C1 : CmpI y1 y0 n1) (C2 : CmpI y2 m1 n2)
    (h1 : (n1 = 1 ∧ m1 = y1) ∨ (n1 = 0 ∧ m1 = y0) ∨ (n1 = -1 ∧ m1 = y0)) (h2 : (n2 = 1 ∧ m2 = y2) ∨ (n2 = 0 ∧ m2 = m1) ∨ (n2 = -1 ∧ m2 = m1)) (g : Nat) (w : World)
    (c0 : w.cell? ⟨g, 0, Option.none⟩ = some (.float .f32 y0)) (c1 : w.cell? ⟨g, 1, Option.none⟩ = some (.float .f32 y1)) (c2 : w.cell? ⟨g, 2, Option.none⟩ = some (.float .f32 y2)) :
    Calls Try.prog 105 #[.slice (some ⟨g, 0, Option.none⟩) 3 3, .func (.func 106) #[] #[]] w fun e w' => e = .returned (.float .f32 m2) ∧ Below w.heap.size w w' := by
  have H1 : Hid ((n1 = 1 ∧ m1 = y1) ∨ (n1 = 0 ∧ m1 = y0) ∨ (n1 = -1 ∧ m1 = y0)) := h1
  have H2 : Hid ((n2 = 1 ∧ m2 = y2) ∨ (n2 = 0 ∧ m2 = m1) ∨ (n2 = -1 ∧ m2 = m1)) := h2
  clear h1 h2
  go_enter Try.func105, Try.ntmps105
  go_wp2_with fail
  go_loopw [5, 6] (fun m i wr => ((m = .float .f32 y0 ∧ i = .int .i64 1) ∨ (m = .float .f32 m1 ∧ i = .int .i64 2) ∨ (m = .float .f32 m2 ∧ i = .int .i64 3)) ∧ Below w.heap.size w wr)
    (fun _ i _ => 3 - (intOf i).toNat)
  case atStart => exact ⟨Or.inl ⟨rfl, rfl⟩, by (repeat' (first | (with_reducible exact Below.refl _ _) | (with_reducible assumption) | (with_reducible refine Below.alloc ?_ ?_ _) | (with_reducible refine Below.drew ?_) | (with_reducible refine Below.setCell ?_ ?_ _) | (with_reducible refine Below.trans ?_ (Below.mono (by assumption) ?_)) | (with_reducible exact Nat.le_refl _) | omega | (simp only [World.size_alloc, World.size_setCell, World.size_drew]; omega) | (simp; omega) | (simp; done)))⟩
  case round =>
    obtain ⟨hr, hbel⟩ := hrel
    have d0 := cBelow hbel c0
    have d1 := cBelow hbel c1
    have d2 := cBelow hbel c2
    rcases hr with ⟨rfl, rfl⟩ | ⟨rfl, rfl⟩ | ⟨rfl, rfl⟩
    · rcases H1.out with ⟨e1, e2⟩ | ⟨e1, e2⟩ | ⟨e1, e2⟩
      all_goals
        have C3 := C1
        rw [e1] at C3
        have E2 : Hid (m1 = _) := e2
        clear e1 e2
        go_wp2_with (go_at_call 106; refine (C3.call _).mono ?_; rintro e w1 ⟨rfl, rfl⟩)
        go_roundw
        case rel => exact ⟨Or.inr (Or.inl ⟨by rw [E2.out], rfl⟩), by (repeat' (first | (with_reducible exact Below.refl _ _) | (with_reducible assumption) | (with_reducible refine Below.alloc ?_ ?_ _) | (with_reducible refine Below.drew ?_) | (with_reducible refine Below.setCell ?_ ?_ _) | (with_reducible refine Below.trans ?_ (Below.mono (by assumption) ?_)) | (with_reducible exact Nat.le_refl _) | omega | (simp only [World.size_alloc, World.size_setCell, World.size_drew]; omega) | (simp; omega) | (simp; done)))⟩
        case measure => simp [intOf]
    · rcases H2.out with ⟨e1, e2⟩ | ⟨e1, e2⟩ | ⟨e1, e2⟩
      all_goals
        have C3 := C2
        rw [e1] at C3
        have E2 : Hid (m2 = _) := e2
        clear e1 e2
        go_wp2_with (go_at_call 106; refine (C3.call _).mono ?_; rintro e w1 ⟨rfl, rfl⟩)
        go_roundw
        case rel => exact ⟨Or.inr (Or.inr ⟨by rw [E2.out], rfl⟩), by (repeat' (first | (with_reducible exact Below.refl _ _) | (with_reducible assumption) | (with_reducible refine Below.alloc ?_ ?_ _) | (with_reducible refine Below.drew ?_) | (with_reducible refine Below.setCell ?_ ?_ _) | (with_reducible refine Below.trans ?_ (Below.mono (by assumption) ?_)) | (with_reducible exact Nat.le_refl _) | omega | (simp only [World.size_alloc, World.size_setCell, World.size_drew]; omega) | (simp; omega) | (simp; done)))⟩
        case measure => simp [intOf]
    · go_wp2
      all_goals (go_ret; exact ⟨rfl, by (repeat' (first | (with_reducible exact Below.refl _ _) | (with_reducible assumption) | (with_reducible refine Below.alloc ?_ ?_ _) | (with_reducible refine Below.drew ?_) | (with_reducible refine Below.setCell ?_ ?_ _) | (with_reducible refine Below.trans ?_ (Below.mono (by assumption) ?_)) | (with_reducible exact Nat.le_refl _) | omega | (simp only [World.size_alloc, World.size_setCell, World.size_drew]; omega) | (simp; omega) | (simp; done)))⟩)
theorem step_max {x y : Nat} (hx : x < 2139095040) (hy : y < 2139095040) : ∃ n : Int, CmpI x y n ∧ ((n = 1 ∧ max y x = x) ∨ (n = 0 ∧ max y x = y) ∨ (n = -1 ∧ max y x = y)) := by
  refine ⟨_, ⟨fun w => compare_i hx hy w⟩, ?_⟩
  rcases Nat.lt_trichotomy x y with h | h | h
  · right; right; rw [if_pos h]; exact ⟨rfl, by omega⟩
  · right; left; rw [if_neg (by omega), if_neg (by omega)]; exact ⟨rfl, by omega⟩
  · left; rw [if_neg (by omega), if_pos h]; exact ⟨rfl, by omega⟩
theorem greatestPart_i {x y z : Nat} (hx : x < 2139095040) (hy : y < 2139095040) (hz : z < 2139095040) (w : World) :
    Calls Try.prog 67 #[.agg #[.float .f32 x, .float .f32 y, .float .f32 z]] w fun e w' => e = .returned (.float .f32 (max (max x y) z)) ∧ Below w.heap.size w w' := by
  obtain ⟨n1, C1, h1⟩ := step_max hy hx
  obtain ⟨n2, C2, h2⟩ := step_max (x := z) (y := max x y) hz (by omega)
  have M : Hid (∀ (g : Nat) (w : World), w.cell? ⟨g, 0, Option.none⟩ = some (.float .f32 x) → w.cell? ⟨g, 1, Option.none⟩ = some (.float .f32 y) → w.cell? ⟨g, 2, Option.none⟩ = some (.float .f32 z) →
      Calls Try.prog 105 #[.slice (some ⟨g, 0, Option.none⟩) 3 3, .func (.func 106) #[] #[]] w fun e w' => e = .returned (.float .f32 (max (max x y) z)) ∧ Below w.heap.size w w') :=
    fun g w c0 c1 c2 => maxFunc_of x y z (max x y) (max (max x y) z) n1 n2 C1 C2 h1 h2 g w c0 c1 c2
  clear C1 h1 C2 h2 hx hy hz
  generalize max (max x y) z = m at M ⊢
  go_enter Try.func67, Try.ntmps67
  go_wp2_with fail
  refine (M.out _ _ (by ((repeat (first | (with_reducible assumption) | (with_reducible exact cNewAt (by first | rfl | (simp only [World.size_alloc, World.size_setCell, World.size_drew]; done) | omega) rfl) | (with_reducible exact sNewAt (by first | rfl | (simp only [World.size_alloc, World.size_setCell, World.size_drew]; done) | omega) rfl) | (simp; done) | (with_reducible apply cAlloc) | (with_reducible apply cDrew) | (with_reducible refine cSet (by dsimp only; omega) ?_) | (with_reducible refine cSetOff (by dsimp only; omega) ?_) | (with_reducible apply cSame) | (with_reducible refine cBelow (by assumption) ?_) | (with_reducible apply sAlloc) | (with_reducible apply sDrew) | (with_reducible refine sBelow (by assumption) ?_) | (with_reducible refine sSet (by dsimp only; omega) ?_))); first | done | (simp [*]; done))) (by ((repeat (first | (with_reducible assumption) | (with_reducible exact cNewAt (by first | rfl | (simp only [World.size_alloc, World.size_setCell, World.size_drew]; done) | omega) rfl) | (with_reducible exact sNewAt (by first | rfl | (simp only [World.size_alloc, World.size_setCell, World.size_drew]; done) | omega) rfl) | (simp; done) | (with_reducible apply cAlloc) | (with_reducible apply cDrew) | (with_reducible refine cSet (by dsimp only; omega) ?_) | (with_reducible refine cSetOff (by dsimp only; omega) ?_) | (with_reducible apply cSame) | (with_reducible refine cBelow (by assumption) ?_) | (with_reducible apply sAlloc) | (with_reducible apply sDrew) | (with_reducible refine sBelow (by assumption) ?_) | (with_reducible refine sSet (by dsimp only; omega) ?_))); first | done | (simp [*]; done))) (by ((repeat (first | (with_reducible assumption) | (with_reducible exact cNewAt (by first | rfl | (simp only [World.size_alloc, World.size_setCell, World.size_drew]; done) | omega) rfl) | (with_reducible exact sNewAt (by first | rfl | (simp only [World.size_alloc, World.size_setCell, World.size_drew]; done) | omega) rfl) | (simp; done) | (with_reducible apply cAlloc) | (with_reducible apply cDrew) | (with_reducible refine cSet (by dsimp only; omega) ?_) | (with_reducible refine cSetOff (by dsimp only; omega) ?_) | (with_reducible apply cSame) | (with_reducible refine cBelow (by assumption) ?_) | (with_reducible apply sAlloc) | (with_reducible apply sDrew) | (with_reducible refine sBelow (by assumption) ?_) | (with_reducible refine sSet (by dsimp only; omega) ?_))); first | done | (simp [*]; done)))).mono ?_
  rintro e w1 ⟨rfl, hb⟩
  obtain ⟨hc, hf⟩ := bcell hb; have HL := keepL (by (repeat (first | (with_reducible assumption) | (with_reducible apply AllLt.alloc) | (with_reducible apply AllLt.setCell) | (with_reducible apply AllLt.drew) | (with_reducible exact AllLt.nil _)))) hb; have hq := HL; simp only [AllLt, and_true, World.size_alloc, World.size_setCell, World.size_drew] at hq; have hbs := hb.size; try simp only [World.size_alloc, World.size_setCell, World.size_drew] at hbs
  go_wp2
  go_returns; exact ⟨rfl, by (repeat' (first | (with_reducible exact Below.refl _ _) | (with_reducible assumption) | (with_reducible refine Below.alloc ?_ ?_ _) | (with_reducible refine Below.drew ?_) | (with_reducible refine Below.setCell ?_ ?_ _) | (with_reducible refine Below.trans ?_ (Below.mono (by assumption) ?_)) | (with_reducible exact Nat.le_refl _) | omega | (simp only [World.size_alloc, World.size_setCell, World.size_drew]; omega) | (simp; omega) | (simp; done)))⟩
end Go.Proofs.Ytfdgijmmgllmgaa
namespace Go.Proofs.Ytfdgijmmgllmgaa
open Go.ChangeShapes Go.WideShapes Go.ChangeAt Go.RowKit Go.Joins
set_option linter.unusedSimpArgs false
set_option linter.unusedVariables false
set_option maxRecDepth 100000
attribute [local go_sem] store_f
open Ieee
theorem far_i_yes (a b c x y z : Nat) (ha : Part a) (hb : Part b) (hc : Part c) (hx : Part x) (hy : Part y) (hz : Part z) (w : World) :
    Calls Try.prog 33 #[colV a b c, colV x y z] w fun e w' => e = .returned (.float .f32 (max (max (farB a x) (farB b y)) (farB c z))) ∧ Below w.heap.size w w' := by
  have hcc : (colB a b c && colB x y z) = true := by rw [parts_colB ha hb hc, parts_colB hx hy hz]; rfl
  have K : Hid (∀ w : World, Calls Try.prog 66 #[colV a b c, colV x y z] w fun e w' => e = .returned (.bool true) ∧ Below w.heap.size w w') := fun w => hcc ▸ areColours_i a b c x y z w
  have E : Hid (∀ w : World, Calls Try.prog 68 #[.agg #[.float .f32 a, .float .f32 x, .float .f32 b, .float .f32 y, .float .f32 c, .float .f32 z], .func (.func 70) #[] #[]] w fun e w' =>
      e = .returned (.agg #[.float .f32 (farB a x), .float .f32 (farB b y), .float .f32 (farB c z)]) ∧ Below w.heap.size w w') := fun w => eachFar_i (a0 := a) (b0 := x) (a1 := b) (b1 := y) (a2 := c) (b2 := z) _ _ _ w (fun w1 _ => farPart_i ha hx w1) (fun w1 _ => farPart_i hb hy w1) (fun w1 _ => farPart_i hc hz w1)
  have G : Hid (∀ w : World, Calls Try.prog 67 #[.agg #[.float .f32 (farB a x), .float .f32 (farB b y), .float .f32 (farB c z)]] w fun e w' => e = .returned (.float .f32 (max (max (farB a x) (farB b y)) (farB c z))) ∧ Below w.heap.size w w') :=
    fun w => greatestPart_i (by have := farB_le ha hx; omega) (by have := farB_le hb hy; omega) (by have := farB_le hc hz; omega) w
  clear ha hb hc hx hy hz hcc
  generalize max (max (farB a x) (farB b y)) (farB c z) = m at G ⊢
  generalize farB a x = p at E G
  generalize farB b y = q at E G
  generalize farB c z = r at E G
  have P : Hid (∀ w : World, Calls Try.prog 69 #[colV a b c, colV x y z] w fun e w' => e = .returned (.agg #[.float .f32 a, .float .f32 x, .float .f32 b, .float .f32 y, .float .f32 c, .float .f32 z]) ∧ Below w.heap.size w w') := fun w => pairsOf_i a b c x y z w
  unfold colV at K P ⊢
  go_enter Try.func33, Try.ntmps33
  go_wp2_with (first | (go_at_call 66; refine (K.out _).mono ?_; rintro e w1 ⟨rfl, hb⟩; obtain ⟨hc, hf⟩ := bcell hb; have HL := keepL (by (repeat (first | (with_reducible assumption) | (with_reducible apply AllLt.alloc) | (with_reducible apply AllLt.setCell) | (with_reducible apply AllLt.drew) | (with_reducible exact AllLt.nil _)))) hb; have hq := HL; simp only [AllLt, and_true, World.size_alloc, World.size_setCell, World.size_drew] at hq; have hbs := hb.size; try simp only [World.size_alloc, World.size_setCell, World.size_drew] at hbs) | (go_at_call 69; refine (P.out _).mono ?_; rintro e w2 ⟨rfl, hb⟩; obtain ⟨hc, hf⟩ := bcell hb; have HL := keepL (by (repeat (first | (with_reducible assumption) | (with_reducible apply AllLt.alloc) | (with_reducible apply AllLt.setCell) | (with_reducible apply AllLt.drew) | (with_reducible exact AllLt.nil _)))) hb; have hq := HL; simp only [AllLt, and_true, World.size_alloc, World.size_setCell, World.size_drew] at hq; have hbs := hb.size; try simp only [World.size_alloc, World.size_setCell, World.size_drew] at hbs) | (go_at_call 68; refine (E.out _).mono ?_; rintro e w3 ⟨rfl, hb⟩; obtain ⟨hc, hf⟩ := bcell hb; have HL := keepL (by (repeat (first | (with_reducible assumption) | (with_reducible apply AllLt.alloc) | (with_reducible apply AllLt.setCell) | (with_reducible apply AllLt.drew) | (with_reducible exact AllLt.nil _)))) hb; have hq := HL; simp only [AllLt, and_true, World.size_alloc, World.size_setCell, World.size_drew] at hq; have hbs := hb.size; try simp only [World.size_alloc, World.size_setCell, World.size_drew] at hbs) | (go_at_call 67; refine (G.out _).mono ?_; rintro e w4 ⟨rfl, hb⟩; obtain ⟨hc, hf⟩ := bcell hb; have HL := keepL (by (repeat (first | (with_reducible assumption) | (with_reducible apply AllLt.alloc) | (with_reducible apply AllLt.setCell) | (with_reducible apply AllLt.drew) | (with_reducible exact AllLt.nil _)))) hb; have hq := HL; simp only [AllLt, and_true, World.size_alloc, World.size_setCell, World.size_drew] at hq; have hbs := hb.size; try simp only [World.size_alloc, World.size_setCell, World.size_drew] at hbs))
  go_returns; exact ⟨rfl, by (repeat' (first | (with_reducible exact Below.refl _ _) | (with_reducible assumption) | (with_reducible refine Below.alloc ?_ ?_ _) | (with_reducible refine Below.drew ?_) | (with_reducible refine Below.setCell ?_ ?_ _) | (with_reducible refine Below.trans ?_ (Below.mono (by assumption) ?_)) | (with_reducible exact Nat.le_refl _) | omega | (simp only [World.size_alloc, World.size_setCell, World.size_drew]; omega) | (simp; omega) | (simp; done)))⟩
theorem maxF_max {x y : Nat} (hx : x < 2139095040) (hy : y < 2139095040) : ∃ o, FloatKind.f32.format.order x y = some o ∧ maxF o x y = max x y := by
  have e := order_words hx hy
  have h1 := cmp_lt (a := (x : Int)) (b := (y : Int))
  have h2 := cmp_eq (a := (x : Int)) (b := (y : Int))
  generalize compare (x : Int) (y : Int) = o at e h1 h2
  refine ⟨o, e, ?_⟩
  cases o
  · have : (x : Int) < y := by simpa using h1
    show y = max x y
    omega
  · have : (x : Int) = y := by simpa using h2
    obtain rfl : x = y := by omega
    show (if _ then x else x) = max x x
    simp
  · have : ¬ (x : Int) < y := by simpa using h1
    show x = max x y
    omega
end Go.Proofs.Ytfdgijmmgllmgaa
namespace Go.Proofs.Ytfdgijmmgllmgaa
open Go.ChangeShapes Go.WideShapes Go.ChangeAt Go.RowKit Go.Joins
set_option linter.unusedSimpArgs false
set_option linter.unusedVariables false
set_option maxRecDepth 100000
attribute [local go_sem] store_f
open Ieee
def farC (c d : Lit) : Nat := max (max (farB c.r d.r) (farB c.g d.g)) (farB c.b d.b)
def difN (l k : List Lit) : Nat → Nat
  | 0 => 0
  | j + 1 => difN l k j + if colEq (l.getD j default) (k.getD j default) then 0 else 1
def difF (l k : List Lit) : Nat → Nat
  | 0 => 0
  | j + 1 => if colEq (l.getD j default) (k.getD j default) then difF l k j else max (difF l k j) (farC (l.getD j default) (k.getD j default))
structure Lit.P (c : Lit) : Prop where
  r : Part c.r
  g : Part c.g
  b : Part c.b
theorem farC_le {c d : Lit} (hc : c.P) (hd : d.P) : farC c d ≤ 1065353216 := by
  have h1 := farB_le hc.r hd.r
  have h2 := farB_le hc.g hd.g
  have h3 := farB_le hc.b hd.b
  unfold farC
  omega
theorem difN_le (l k : List Lit) (j : Nat) : difN l k j ≤ j := by
  induction j with
  | zero => exact Nat.le_refl _
  | succ j ih => unfold difN; split <;> omega
theorem difF_le {l k : List Lit} {N : Nat} (h : ∀ j, j < N → (l.getD j default).P ∧ (k.getD j default).P) : ∀ j, j ≤ N → difF l k j ≤ 1065353216 := by
  intro j
  induction j with
  | zero => intro _; exact Nat.zero_le _
  | succ j ih =>
    intro hj
    have h1 := ih (by omega)
    obtain ⟨hc, hd⟩ := h j (by omega)
    have h2 := farC_le hc hd
    unfold difF
    split <;> omega
theorem isB_p {c : Lit} (hw : c.W) (h : c.isB = true) : c.P := by
  unfold Lit.isB colB at h
  simp only [Bool.and_eq_true] at h
  exact ⟨share_part hw.r h.1.1, share_part hw.g h.1.2, share_part hw.b h.2⟩
structure FarCM (c d : Lit) (x : Nat) : Prop where
  call : ∀ w : World, Calls Try.prog 33 #[.agg #[.float .f32 c.r, .float .f32 c.g, .float .f32 c.b], .agg #[.float .f32 d.r, .float .f32 d.g, .float .f32 d.b]] w fun e w' => e = .returned (.float .f32 x) ∧ Below w.heap.size w w'
theorem farCM {c d : Lit} (hc : c.P) (hd : d.P) : FarCM c d (farC c d) := ⟨fun w => far_i_yes c.r c.g c.b d.r d.g d.b hc.r hc.g hc.b hd.r hd.g hd.b w⟩
theorem max_run {x y : Nat} (hx : x ≤ 1065353216) (hy : y ≤ 1065353216) (ts : Array TypeId) (t : TypeId) (w : World) : (Builtin.max_ ts t #[.float .f32 x, .float .f32 y]).run Try.prog w = .ok (.float .f32 (max x y)) w := by
  obtain ⟨o, e, h⟩ := maxF_max (x := x) (y := y) (by omega) (by omega)
  rw [← h]
  exact run_max_f _ _ _ _ _ _ _ e
structure DifP (n : Int) (a : Option Addr) (ca : Nat) (l : List Lit) (m : Int) (b : Option Addr) (cb : Nat) (k : List Lit) (c : Int) (x : Nat) : Prop where
  call : ∀ w : World, LitsAt w a l → LitsAt w b k → Calls Try.prog 9 #[.agg #[.int .i64 n, .slice a l.length ca], .agg #[.int .i64 m, .slice b k.length cb]] w fun e w' => e = .returned (.tuple #[.int .i64 c, .float .f32 x]) ∧ Below w.heap.size w w'
structure DifStep (l k : List Lit) (j : Nat) (q : Bool) (n1 n2 f1 f2 : Nat) : Prop where
  far : q = false → ∃ x, FarCM (l.getD j default) (k.getD j default) x ∧ ∀ ts t w, (Builtin.max_ ts t #[.float .f32 f1, .float .f32 x]).run Try.prog w = .ok (.float .f32 f2) w
  cnt : n2 = n1 + if q then 0 else 1
  same : q = true → f2 = f1
theorem difStep {l k : List Lit} {N j : Nat} (h : ∀ j, j < N → (l.getD j default).P ∧ (k.getD j default).P) (hj : j < N) : DifStep l k j (colEq (l.getD j default) (k.getD j default)) (difN l k j) (difN l k (j + 1)) (difF l k j) (difF l k (j + 1)) where
  far := fun e => by
    obtain ⟨hc, hd⟩ := h j hj
    refine ⟨_, farCM hc hd, fun ts t w => ?_⟩
    have h1 := difF_le h j (by omega)
    have h2 : difF l k (j + 1) = max (difF l k j) (farC (l.getD j default) (k.getD j default)) := by
      show (if colEq (l.getD j default) (k.getD j default) then _ else _) = _
      rw [e]; rfl
    rw [h2]
    exact max_run h1 (farC_le hc hd) ts t w
  cnt := rfl
  same := fun e => by
    show (if colEq (l.getD j default) (k.getD j default) then _ else _) = _
    rw [e]; rfl
set_option maxHeartbeats 16000000 in
theorem difP_yes {n : Int} {a : Option Addr} {ca : Nat} {l : List Lit} {b : Option Addr} {cb : Nat} {k : List Lit} (h1 : picB n l = true) (h2 : picB n k = true) (hw1 : ∀ c ∈ l, c.W) (hw2 : ∀ c ∈ k, c.W) : DifP n a ca l n b cb k (difN l k l.length : Nat) (difF l k l.length) := ⟨fun w hr1 hr2 => by
  have I1 := picIs n a ca l
  have I2 := picIs n b cb k
  rw [h1] at I1
  rw [h2] at I2
  obtain ⟨u, hu, g1, g8, hl, hp1⟩ := pic_cases h1
  obtain ⟨v, hv, _, _, hk, hp2⟩ := pic_cases h2
  obtain rfl : u = v := by omega
  have hN64 : l.length ≤ 64 := by rw [hl]; exact Nat.le_trans (Nat.mul_le_mul g8 g8) (by omega)
  have hlk : k.length = l.length := by omega
  have hP : ∀ j, j < l.length → (l.getD j default).P ∧ (k.getD j default).P := fun j hj =>
    ⟨isB_p (hw1 _ (by simp [List.getD, hj])) (hp1 _ (by simp [List.getD, hj])), isB_p (hw2 _ (by simp [List.getD, show j < k.length by omega])) (hp2 _ (by simp [List.getD, show j < k.length by omega]))⟩
  have HD : Hid (∀ j, j < l.length → DifStep l k j (colEq (l.getD j default) (k.getD j default)) (difN l k j) (difN l k (j + 1)) (difF l k j) (difF l k (j + 1))) := fun j hj => difStep hP hj
  have HL : Hid (∀ j, difN l k j ≤ j) := difN_le l k
  have HZ : Hid (difN l k 0 = 0 ∧ difF l k 0 = 0) := ⟨rfl, rfl⟩
  generalize difN l k = dn at HD HL HZ ⊢
  generalize difF l k = df at HD HZ ⊢
  obtain ⟨N, hN⟩ : ∃ N : Nat, N = l.length := ⟨_, rfl⟩
  have HN1 : Hid (N = l.length) := hN
  have HN2 : Hid (N = k.length) := hN.trans hlk.symm
  rw [← hN] at hN64
  have R1 : Hid (LitsAt w a l) := hr1
  have R2 : Hid (LitsAt w b k) := hr2
  clear hr1 hr2 h1 h2 hu hv hl hk hp1 hp2 hw1 hw2 hP hN hlk
  go_enter Try.func9, Try.ntmps9
  go_wp2_with fail
  generalize hW : (w.alloc (.cells #[.int .i64 n, .slice a l.length ca] 26)).alloc (.cells #[.int .i64 n, .slice b k.length cb] 26) = X
  have P0 : Hid (Blk X w.heap.size #[.int .i64 n, .slice a l.length ca] 26) := by rw [← hW]; exact (Blk.new _ _ _).alloc
  have Q0 : Hid (Blk X (w.heap.size + 1) #[.int .i64 n, .slice b k.length cb] 26) := by rw [← hW]; exact Blk.newAt (by simp)
  have B0 : Hid (Below w.heap.size w X) := by rw [← hW]; show Below w.heap.size w _; (repeat' (first | (with_reducible exact Below.refl _ _) | (with_reducible assumption) | (with_reducible refine Below.alloc ?_ ?_ _) | (with_reducible refine Below.drew ?_) | (with_reducible refine Below.setCell ?_ ?_ _) | (with_reducible refine Below.trans ?_ (Below.mono (by assumption) ?_)) | (with_reducible exact Nat.le_refl _) | omega | (simp only [World.size_alloc, World.size_setCell, World.size_drew]; omega) | (simp; omega) | (simp; done)))
  clear hW
  refine (I1.call _ (LitsAt.below R1.out B0.out)).mono ?_
  rintro e w1 ⟨rfl, hb⟩
  have P1 : Hid (Blk w1 w.heap.size #[.int .i64 n, .slice a l.length ca] 26) := P0.out.below hb
  have Q1 : Hid (Blk w1 (w.heap.size + 1) #[.int .i64 n, .slice b k.length cb] 26) := Q0.out.below hb
  have B1 : Hid (Below w.heap.size w w1) := B0.out.trans (hb.mono B0.out.size)
  clear hb P0 Q0 B0
  (have p0 := Blk.cellAt (i := 0) P1.out rfl; have p1 := Blk.cellAt (i := 1) P1.out rfl; simp only [List.getElem_toArray, List.getElem_cons_zero, List.getElem_cons_succ] at p0 p1)
  (have q0 := Blk.cellAt (i := 0) Q1.out rfl; have q1 := Blk.cellAt (i := 1) Q1.out rfl; simp only [List.getElem_toArray, List.getElem_cons_zero, List.getElem_cons_succ] at q0 q1)
  go_wp2_with fail
  refine (I2.call _ (LitsAt.below R2.out B1.out)).mono ?_
  rintro e w2 ⟨rfl, hb⟩
  have P2 : Hid (Blk w2 w.heap.size #[.int .i64 n, .slice a l.length ca] 26) := P1.out.below hb
  have Q2 : Hid (Blk w2 (w.heap.size + 1) #[.int .i64 n, .slice b k.length cb] 26) := Q1.out.below hb
  have B2 : Hid (Below w.heap.size w w2) := B1.out.trans (hb.mono B1.out.size)
  clear hb P1 Q1 B1 p0 p1 q0 q1 I1 I2
  (have p0 := Blk.cellAt (i := 0) P2.out rfl; have p1 := Blk.cellAt (i := 1) P2.out rfl; simp only [List.getElem_toArray, List.getElem_cons_zero, List.getElem_cons_succ] at p0 p1)
  (have q0 := Blk.cellAt (i := 0) Q2.out rfl; have q1 := Blk.cellAt (i := 1) Q2.out rfl; simp only [List.getElem_toArray, List.getElem_cons_zero, List.getElem_cons_succ] at q0 q1)
  rw [← HN1.out] at p1 ⊢
  go_wp2_with fail
  clear p0 p1 q0 q1
  go_loopw [6, 7, 28] (fun u x i wr => ∃ j : Nat, j ≤ N ∧ i = .int .i64 j ∧ u = .int .i64 (dn j : Nat) ∧ x = .float .f32 (df j) ∧ Below w2.heap.size w2 wr) (fun _ _ i _ => N - (intOf i).toNat)
  case atStart => exact ⟨0, by omega, rfl, by rw [HZ.out.1]; rfl, by rw [HZ.out.2], Below.refl _ _⟩
  case round =>
    obtain ⟨j, hj, rfl, rfl, rfl, hbel⟩ := hrel
    have HB : Hid (Below w2.heap.size w2 wr) := hbel
    have HBW : Hid (Below w.heap.size w wr) := B2.out.trans (hbel.mono B2.out.size)
    have hbs := hbel.size
    by_cases hlt : j < N
    · rcases R1.out with hnil | ⟨b1, o1, rfl, hR1⟩
      · exfalso
        have := HN1.out
        rw [hnil] at this
        simp at this
        omega
      rcases R2.out with hnil | ⟨b2, o2, rfl, hR2⟩
      · exfalso
        have := HN2.out
        rw [hnil] at this
        simp at this
        omega
      obtain ⟨d0, d1, d2⟩ := (LitRow.below hR1 HBW.out) j (by have := HN1.out; omega)
      obtain ⟨e0, e1, e2⟩ := (LitRow.below hR2 HBW.out) j (by have := HN2.out; omega)
      have K := HD.out j (by have := HN1.out; omega)
      have hle := HL.out j
      have op := fun w => run_eq_lit (l.getD j default) (k.getD j default) w
      have HF := K.far
      have HC := K.cnt
      have HS := K.same
      generalize colEq (l.getD j default) (k.getD j default) = q at op HF HC HS
      clear K
      generalize l.getD j default = c at *
      generalize k.getD j default = d at *
      have P3 : Hid (Blk wr w.heap.size #[.int .i64 n, .slice (some ⟨b1, o1, Option.none⟩) l.length ca] 26) := P2.out.below hbel
      have Q3 : Hid (Blk wr (w.heap.size + 1) #[.int .i64 n, .slice (some ⟨b2, o2, Option.none⟩) k.length cb] 26) := Q2.out.below hbel
      have hj0 : (0 : Int) ≤ (j : Int) := by omega
      have hj1 : (j : Int) < (N : Int) := by omega
      have hj2 : (j : Int) < (k.length : Int) := by have := HN2.out; omega
      (have q0 := Blk.cellAt (i := 0) Q3.out rfl; have q1 := Blk.cellAt (i := 1) Q3.out rfl; simp only [List.getElem_toArray, List.getElem_cons_zero, List.getElem_cons_succ] at q0 q1)
      have lq := Q3.out.lt
      have lb2 : b2 < wr.heap.size := cell_lt e0
      clear hR1 hR2 hbel
      cases q
      · obtain ⟨x, FC, hm⟩ := HF rfl
        simp at HC
        have HC' : Hid (dn (j + 1) = dn j + 1) := HC
        clear HF HS HC
        go_wp2_with fail
        go_quiet (fail)
        generalize hV : World.drewN (wr.alloc (.cells #[.float .f32 c.r, .float .f32 c.g, .float .f32 c.b] 47)) _ = V
        have NV : Blk V wr.heap.size #[.float .f32 c.r, .float .f32 c.g, .float .f32 c.b] 47 := by rw [← hV]; exact Blk.new _ _ _
        have QV : Hid (Blk V (w.heap.size + 1) #[.int .i64 n, .slice (some ⟨b2, o2, Option.none⟩) k.length cb] 26) := by rw [← hV]; exact Q3.out.alloc
        have BV : Hid (Below w2.heap.size w2 V) := by rw [← hV]; exact (HB.out.alloc hbs _).trans (below_draws _ _ _)
        have eV0 : V.cell? ⟨b2, o2 + j * 3, Option.none⟩ = some (.float .f32 d.r) := by rw [← hV]; exact cAlloc e0
        have eV1 : V.cell? ⟨b2, o2 + j * 3 + 1, Option.none⟩ = some (.float .f32 d.g) := by rw [← hV]; exact cAlloc e1
        have eV2 : V.cell? ⟨b2, o2 + j * 3 + 2, Option.none⟩ = some (.float .f32 d.b) := by rw [← hV]; exact cAlloc e2
        have sV : V.heap.size = wr.heap.size + 1 := by rw [← hV]; simp
        have n0 := Blk.cellAt (i := 0) NV rfl
        have n1 := Blk.cellAt (i := 1) NV rfl
        have n2 := Blk.cellAt (i := 2) NV rfl
        simp only [List.getElem_toArray, List.getElem_cons_zero, List.getElem_cons_succ] at n0 n1 n2
        clear hV NV q0 q1 e0 e1 e2 d0 d1 d2 P3 HB HBW
        (have q0 := Blk.cellAt (i := 0) QV.out rfl; have q1 := Blk.cellAt (i := 1) QV.out rfl; simp only [List.getElem_toArray, List.getElem_cons_zero, List.getElem_cons_succ] at q0 q1)
        have hBV : Below V.heap.size V V := Below.refl _ _
        have hzV := Nat.le_refl V.heap.size
        have hqV : w.heap.size + 1 < V.heap.size := by omega
        have hbV : b2 < V.heap.size := by omega
        have hnV : wr.heap.size < V.heap.size := by omega
        generalize wr.heap.size = ng at *
        go_wp2_with fail
        go_region_held3 (fun wx => Below V.heap.size V wx ∧ V.heap.size ≤ wx.heap.size ∧ ng < wx.heap.size ∧ w.heap.size + 1 < wx.heap.size ∧ b2 < wx.heap.size ∧ wx.cell? ⟨w.heap.size + 1, 0, Option.none⟩ = some (.int .i64 n) ∧ wx.cell? ⟨w.heap.size + 1, 1, Option.none⟩ = some (.slice (some ⟨b2, o2, Option.none⟩) k.length cb) ∧ wx.cell? ⟨ng, 0, Option.none⟩ = some (.float .f32 (c.r)) ∧ wx.cell? ⟨ng, 1, Option.none⟩ = some (.float .f32 (c.g)) ∧ wx.cell? ⟨ng, 2, Option.none⟩ = some (.float .f32 (c.b)) ∧ wx.cell? ⟨b2, (o2 + j * 3), Option.none⟩ = some (.float .f32 d.r) ∧ wx.cell? ⟨b2, (o2 + j * 3) + 1, Option.none⟩ = some (.float .f32 d.g) ∧ wx.cell? ⟨b2, (o2 + j * 3) + 2, Option.none⟩ = some (.float .f32 d.b))
          (((repeat' apply And.intro) <;> first | (with_reducible assumption) | (((repeat (first | (with_reducible assumption) | (with_reducible exact cNewAt (by first | rfl | (simp only [World.size_alloc, World.size_setCell, World.size_drew]; done) | omega) rfl) | (with_reducible exact sNewAt (by first | rfl | (simp only [World.size_alloc, World.size_setCell, World.size_drew]; done) | omega) rfl) | (simp; done) | (with_reducible apply cAlloc) | (with_reducible apply cDrew) | (with_reducible refine cSet (by dsimp only; omega) ?_) | (with_reducible refine cSetOff (by dsimp only; omega) ?_) | (with_reducible apply cSame) | (with_reducible refine cBelow (by assumption) ?_) | (with_reducible apply sAlloc) | (with_reducible apply sDrew) | (with_reducible refine sBelow (by assumption) ?_) | (with_reducible refine sSet (by dsimp only; omega) ?_))); first | done | (simp [*]; done)); done) | (simp only [World.size_alloc, World.size_setCell, World.size_drew]; omega) | omega | (go_keep; done) | ((repeat' (first | (with_reducible exact Below.refl _ _) | (with_reducible assumption) | (with_reducible refine Below.alloc ?_ ?_ _) | (with_reducible refine Below.drew ?_) | (with_reducible refine Below.setCell ?_ ?_ _) | (with_reducible refine Below.trans ?_ (Below.mono (by assumption) ?_)) | (with_reducible exact Nat.le_refl _) | omega | (simp only [World.size_alloc, World.size_setCell, World.size_drew]; omega) | (simp; omega) | (simp; done))); done)))
          (first | (go_at_call 33; (with_reducible refine (FC.call _).mono ?_); rintro e w4 ⟨rfl, hb⟩; have hbs4 := hb.size; (try simp only [World.size_alloc, World.size_setCell, World.size_drew] at hbs4)))
        all_goals
          rename_i hHeld
          have HB4 : Hid (Below w2.heap.size w2 w4) := BV.out.trans (hHeld.1.mono BV.out.size)
          clear hHeld hBV q0 q1 n0 n1 n2 eV0 eV1 eV2
          go_wp2
          go_roundw
          case rel => exact ⟨j + 1, by omega, by go_num, by rw [HC'.out]; simp, rfl, HB4.out⟩
          case measure => simp [intOf]; omega
      · have HC2 : dn (j + 1) = dn j := by simpa using HC
        have HC' : Hid (dn (j + 1) = dn j) := HC2
        have HS' : Hid (df (j + 1) = df j) := HS rfl
        clear HF HS HC HC2
        go_wp2_with fail
        go_quiet (fail)
        go_wp2
        go_roundw
        case rel => exact ⟨j + 1, by omega, by go_num, by rw [HC'.out], by rw [HS'.out], (HB.out.alloc hbs _).trans (below_draws _ _ _)⟩
        case measure => simp [intOf]; omega
    · have hjm : j = N := by omega
      subst hjm
      clear hbel
      go_wp2
      go_returns
      exact ⟨by rw [← HN1.out]; rfl, HBW.out⟩⟩
end Go.Proofs.Ytfdgijmmgllmgaa
namespace Go.Proofs.Ytfdgijmmgllmgaa
open Go.ChangeShapes Go.WideShapes Go.ChangeAt Go.RowKit Go.Joins
set_option linter.unusedSimpArgs false
set_option linter.unusedVariables false
set_option maxRecDepth 100000
attribute [local go_sem] store_f
open Ieee
theorem farB_comm {a b : Nat} (ha : Part a) (hb : Part b) : farB a b = farB b a := by
  unfold farB
  rcases Nat.lt_trichotomy (pm a) (pm b) with h | h | h
  · rw [if_pos h, if_neg (by omega)]
  · rw [if_neg (by omega), if_neg (by omega), subB_zero ha hb h, subB_zero hb ha h.symm]
  · rw [if_neg (by omega), if_pos h]
theorem magOf_one : magOf F32 1 = 1 := by decide +kernel
theorem rn_some {N : Nat} (h : 0 < N) : 0 < rn F32 N 0 := rn_ge F32 (r := 1) (by rw [magOf_one]; omega)
theorem pm_inj {a b : Nat} (ha : a ≤ 1065353216) (hb : b ≤ 1065353216) (h : pm a = pm b) : a = b := by
  rw [pm_word (by omega), pm_word (by omega)] at h
  exact magOf_inj F32 h
theorem farB_zero {a b : Nat} (ha : a ≤ 1065353216) (hb : b ≤ 1065353216) : farB a b = 0 ↔ a = b := by
  have pa := part_of_le ha
  have pb := part_of_le hb
  constructor
  · intro h
    unfold farB at h
    apply pm_inj ha hb
    split at h
    · rename_i hlt
      rw [(subB_part pb pa (by omega)).1] at h
      have := rn_some (N := pm b - pm a) (by omega)
      omega
    · rename_i hge
      rw [(subB_part pa pb (by omega)).1] at h
      by_cases he : pm a = pm b
      · exact he
      · have := rn_some (N := pm a - pm b) (by omega)
        omega
  · intro h
    subst h
    unfold farB
    rw [if_neg (by omega)]
    exact subB_zero pa pa rfl
theorem order_eq {x y : Nat} (hx : x ≤ 1065353216) (hy : y ≤ 1065353216) : (FloatKind.f32.format.order x y == some .eq) = decide (x = y) := by
  show (F32.order x y == some .eq) = _
  rw [order_words (by omega) (by omega), cmp_eq]; simp; omega
theorem run_equalIn_f (P : Program) (w : World) (d : Nat) (t : TypeId) (a b : Nat) (h : P.underlying t = some (.float .f32)) : (Op.equalIn (d + 1) t (.float .f32 a) (.float .f32 b)).run P w = .ok (FloatKind.f32.format.order a b == some .eq) w := by
  simp [Op.equalIn, run_underlying h, Op.floatEq]
attribute [local go_sem] run_equalIn_f
end Go.Proofs.Ytfdgijmmgllmgaa
namespace Go.Proofs.Ytfdgijmmgllmgaa
open Go.ChangeShapes Go.WideShapes Go.ChangeAt Go.RowKit Go.Joins
set_option linter.unusedSimpArgs false
set_option linter.unusedVariables false
set_option maxRecDepth 100000
attribute [local go_sem] store_f
open Ieee
theorem val_inj {x y : Nat} (hx : x < 2147483648) (hy : y < 2147483648) (h : valOf F32 x = valOf F32 y) : x = y := by
  rw [val_of_lt hx, val_of_lt hy] at h
  rcases Nat.lt_trichotomy x y with g | g | g
  · have := magOf_lt F32 g; omega
  · exact g
  · have := magOf_lt F32 g; omega
theorem part_eq {x y : Nat} (hx : x ≤ 1065353216) (hy : y ≤ 1065353216) : (FloatKind.f32.format.order x y == some .eq) = decide (x = y) := by
  show (F32.order x y == some .eq) = _
  rw [order_fin F32 (fin_of_lt (by omega)) (fin_of_lt (by omega)), cmp_eq, decide_eq_decide]
  exact ⟨fun h => val_inj (by omega) (by omega) h, fun h => by rw [h]⟩
theorem colEq_ok {c d : Lit} (hc : c.Ok) (hd : d.Ok) : colEq c d = true ↔ c = d := by
  unfold colEq
  rw [part_eq hc.r hd.r, part_eq hc.g hd.g, part_eq hc.b hd.b]
  simp only [Bool.and_eq_true, decide_eq_true_eq]
  constructor
  · rintro ⟨h1, h2, h3⟩
    cases c; cases d
    simp only [] at h1 h2 h3
    rw [h1, h2, h3]
  · rintro rfl; exact ⟨rfl, rfl, rfl⟩
theorem getD_memL {l : List Lit} {i : Nat} (h : i < l.length) : l.getD i default ∈ l := by simp [List.getD, h]
theorem list_ext {l k : List Lit} (h : l.length = k.length) (hi : ∀ i, i < l.length → l.getD i default = k.getD i default) : l = k := by
  apply List.ext_getElem h
  intro i h1 h2
  have := hi i h1
  simpa [List.getD, h1, h2] using this
theorem colsEq_ok {l k : List Lit} (hl : Oks l) (hk : Oks k) (h : l.length = k.length) : colsEq l k = true ↔ l = k := by
  rw [colsEq_iff h]
  constructor
  · intro hi
    exact list_ext h fun i h1 => (colEq_ok (hl _ (getD_memL h1)) (hk _ (getD_memL (by omega)))).1 (hi i h1)
  · rintro rfl i h1
    exact (colEq_ok (hl _ (getD_memL h1)) (hl _ (getD_memL h1))).2 rfl
end Go.Proofs.Ytfdgijmmgllmgaa
namespace Go.Proofs.Ytfdgijmmgllmgaa
open Go.ChangeShapes Go.WideShapes Go.ChangeAt Go.RowKit Go.Joins
set_option linter.unusedSimpArgs false
set_option linter.unusedVariables false
set_option maxRecDepth 100000
attribute [local go_sem] store_f
open Ieee
theorem leastN_le (kind : Int) (n k : Nat) : leastN kind n k ≤ k := leastL_le _ _ _
theorem spread_len (kind : Int) (n : Nat) (l : List Lit) : (spreadCols kind n l).length = n * n := by unfold spreadCols; rw [colsTo_len]
theorem spread_oks {kd n : Nat} {l : List Lit} (hl : l.length = n * n) (hok : Oks l) : Oks (spreadCols kd n l) := by
  intro c hc
  unfold spreadCols colsTo at hc
  obtain ⟨k, hk, rfl⟩ := List.mem_map.1 hc
  have h1 : leastN kd n k < l.length := by rw [hl]; exact Nat.lt_of_le_of_lt (leastN_le _ _ _) (List.mem_range.1 hk)
  exact hok _ (by simp [List.getD, h1])
end Go.Proofs.Ytfdgijmmgllmgaa
namespace Go.Proofs.Ytfdgijmmgllmgaa
open Go.ChangeShapes Go.WideShapes Go.ChangeAt Go.RowKit Go.Joins
set_option linter.unusedSimpArgs false
set_option linter.unusedVariables false
set_option maxRecDepth 100000
attribute [local go_sem] store_f
open Ieee
theorem ok_p {c : Lit} (h : c.Ok) : c.P := ⟨part_of_le h.r, part_of_le h.g, part_of_le h.b⟩
theorem farC_comm {c d : Lit} (hc : c.P) (hd : d.P) : farC c d = farC d c := by
  unfold farC; rw [farB_comm hc.r hd.r, farB_comm hc.g hd.g, farB_comm hc.b hd.b]
theorem colEq_comm {c d : Lit} (hc : c.Ok) (hd : d.Ok) : colEq c d = colEq d c := by
  apply Bool.eq_iff_iff.2
  rw [colEq_ok hc hd, colEq_ok hd hc]
  exact eq_comm
theorem farC_zero {c d : Lit} (hc : c.Ok) (hd : d.Ok) : farC c d = 0 ↔ c = d := by
  have e1 := farB_zero hc.r hd.r
  have e2 := farB_zero hc.g hd.g
  have e3 := farB_zero hc.b hd.b
  unfold farC
  constructor
  · intro h
    have h1 := e1.1 (by omega)
    have h2 := e2.1 (by omega)
    have h3 := e3.1 (by omega)
    cases c; cases d; simp_all
  · rintro rfl
    have h1 := e1.2 rfl
    have h2 := e2.2 rfl
    have h3 := e3.2 rfl
    omega
structure Twain (l k : List Lit) (N : Nat) : Prop where
  fst : ∀ j, j < N → (l.getD j default).Ok
  snd : ∀ j, j < N → (k.getD j default).Ok
theorem dif_comm {l k : List Lit} {N : Nat} (h : Twain l k N) : ∀ j, j ≤ N → difN l k j = difN k l j ∧ difF l k j = difF k l j := by
  intro j
  induction j with
  | zero => intro _; exact ⟨rfl, rfl⟩
  | succ j ih =>
    intro hj
    obtain ⟨e1, e2⟩ := ih (by omega)
    have hc := h.fst j (by omega)
    have hd := h.snd j (by omega)
    unfold difN difF
    rw [e1, e2, colEq_comm hc hd, farC_comm (ok_p hc) (ok_p hd)]
    exact ⟨rfl, rfl⟩
theorem dif_zero {l k : List Lit} {N : Nat} (h : Twain l k N) : ∀ j, j ≤ N → (difN l k j = 0 ↔ ∀ i, i < j → l.getD i default = k.getD i default) ∧ (difF l k j = 0 ↔ difN l k j = 0) := by
  intro j
  induction j with
  | zero => intro _; exact ⟨⟨fun _ i hi => absurd hi (by omega), fun _ => rfl⟩, Iff.rfl⟩
  | succ j ih =>
    intro hj
    obtain ⟨e1, e2⟩ := ih (by omega)
    have hc := h.fst j (by omega)
    have hd := h.snd j (by omega)
    have hq := colEq_ok hc hd
    have hf := farC_zero hc hd
    unfold difN difF
    cases hb : colEq (l.getD j default) (k.getD j default)
    · have hne : ¬ l.getD j default = k.getD j default := fun e => by rw [hq.2 e] at hb; exact absurd hb (by decide)
      have hp : farC (l.getD j default) (k.getD j default) ≠ 0 := fun e => hne (hf.1 e)
      refine ⟨⟨fun e => by simp at e, fun e => absurd (e j (by omega)) hne⟩, fun e => ?_, fun e => by simp at e⟩
      have e' : max (difF l k j) (farC (l.getD j default) (k.getD j default)) = 0 := by simpa using e
      omega
    · have he := hq.1 hb
      refine ⟨⟨fun e i hi => ?_, fun e => ?_⟩, ?_⟩
      · rcases (by omega : i < j ∨ i = j) with h1 | rfl
        · exact e1.1 (by simpa using e) i h1
        · exact he
      · simpa using e1.2 fun i hi => e i (by omega)
      · simpa using e2
theorem twain {n : Nat} {l k : List Lit} (hl : l.length = n * n) (hk : k.length = n * n) (ol : Oks l) (ok : Oks k) : Twain l k (n * n) :=
  ⟨fun _ hj => ol _ (getD_memL (by omega)), fun _ hj => ok _ (getD_memL (by omega))⟩
theorem dif_same {n : Nat} {l k : List Lit} (hl : l.length = n * n) (hk : k.length = n * n) (ol : Oks l) (ok : Oks k) : colsEq l k = decide (difN l k (n * n) = 0) := by
  apply Bool.eq_iff_iff.2
  rw [colsEq_ok ol ok (by omega), decide_eq_true_iff, ((dif_zero (twain hl hk ol ok)) _ (Nat.le_refl _)).1]
  exact ⟨fun e i _ => by rw [e], fun e => list_ext (by omega) fun i hi => e i (by omega)⟩
structure Dfs (n g0 cap kd : Nat) (l m : List Lit) (c : Int) (x : Nat) (t : Bool) : Prop where
  sp : SprPic kd n (some ⟨g0, 0, Option.none⟩) cap l m
  d1 : ∀ g1 c1, DifP n (some ⟨g0, 0, Option.none⟩) cap l n (some ⟨g1, 0, Option.none⟩) c1 m c x
  d2 : ∀ g1 c1, DifP n (some ⟨g1, 0, Option.none⟩) c1 m n (some ⟨g0, 0, Option.none⟩) cap l c x
  sm : ∀ g1 c1, SameM n (some ⟨g0, 0, Option.none⟩) cap l n (some ⟨g1, 0, Option.none⟩) c1 m t
  e0 : (c == 0) = t
  x0 : (FloatKind.f32.format.order x 0 == some .eq) = t
  xx : (FloatKind.f32.format.order x x == some .eq) = true
  pos : 0 ≤ c
  le : c ≤ 64
theorem dfs_of {n g0 cap kd : Nat} {l : List Lit} (h1 : 1 ≤ n) (h8 : n ≤ 8) (h3 : kd < 4) (hl : l.length = n * n) (hok : Oks l) : ∃ c x t, Dfs n g0 cap kd l (spreadCols kd n l) c x t := by
  have hkb : kindB (kd : Int) = true := by unfold kindB; simp; omega
  have hp := picB_ok h1 h8 hl hok
  have hmk := spread_oks (kd := kd) (n := n) hl hok
  have hml := spread_len (kd : Int) n l
  have hpm := picB_ok h1 h8 hml hmk
  have hw1 : ∀ c ∈ l, c.W := fun c hc => (hok c hc).w
  have hw2 : ∀ c ∈ spreadCols kd n l, c.W := fun c hc => (hmk c hc).w
  have hb : l.length ≤ 1000000000 := by have := Nat.mul_le_mul h8 h8; omega
  have hs := dif_same hl hml hok hmk
  have hz := (dif_zero (twain hl hml hok hmk) _ (Nat.le_refl _)).2
  obtain ⟨hc1, hc2⟩ := dif_comm (twain hl hml hok hmk) _ (Nat.le_refl _)
  have hx := difF_le (N := n * n) (l := l) (k := spreadCols kd n l) (fun j hj => ⟨ok_p ((twain hl hml hok hmk).fst j hj), ok_p ((twain hl hml hok hmk).snd j hj)⟩) _ (Nat.le_refl _)
  have hn := difN_le l (spreadCols kd n l) (n * n)
  have h64 := Nat.mul_le_mul h8 h8
  have D1 := fun g1 c1 => difP_yes (a := some ⟨g0, 0, Option.none⟩) (ca := cap) (b := some ⟨g1, 0, Option.none⟩) (cb := c1) hp hpm hw1 hw2
  have D2 := fun g1 c1 => difP_yes (a := some ⟨g1, 0, Option.none⟩) (ca := c1) (b := some ⟨g0, 0, Option.none⟩) (cb := cap) hpm hp hw2 hw1
  rw [hl] at D1
  rw [hml, ← hc1, ← hc2] at D2
  refine ⟨(difN l (spreadCols kd n l) (n * n) : Nat), difF l (spreadCols kd n l) (n * n), decide (difN l (spreadCols kd n l) (n * n) = 0), sprPic hkb hp, D1, D2, fun g1 c1 => ?_, ?_, ?_, ?_, by omega, by omega⟩
  · have h := sameM (n := n) (a := some ⟨g0, 0, Option.none⟩) (ca := cap) (m := n) (b := some ⟨g1, 0, Option.none⟩) (cb := c1) (k := spreadCols kd n l) hb
    rw [hs] at h
    simpa using h
  · apply Bool.eq_iff_iff.2
    simp
  · rw [order_eq hx (by omega)]
    exact decide_eq_decide.2 hz
  · rw [order_eq hx hx]
    simp
end Go.Proofs.Ytfdgijmmgllmgaa
