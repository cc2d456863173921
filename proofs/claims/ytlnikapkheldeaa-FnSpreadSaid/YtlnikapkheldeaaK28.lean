/-
  Texts of this proof, joined: Cgr.
-/
import Derived.Test.YtlnikapkheldeaaK27
/-
  The greatest of three parts, and FarColours of both.
-/
namespace Go.Proofs.Ytlnikapkheldeaa
open Go.ChangeShapes Go.WideShapes Go.ChangeAt Go.RowKit Go.Joins
set_option linter.unusedSimpArgs false
set_option linter.unusedVariables false
set_option maxRecDepth 100000
attribute [local go_sem] store_f
open Ieee

structure CmpI (x y : Nat) (n : Int) : Prop where
  call : ∀ w : World, Calls Try.prog 150 #[.float .f32 x, .float .f32 y] w fun e w' => e = .returned (.int .i64 n) ∧ w' = w

set_option maxHeartbeats 1000000 in
theorem maxFunc_of (y0 y1 y2 m1 m2 : Nat) (n1 n2 : Int) (C1 : CmpI y1 y0 n1) (C2 : CmpI y2 m1 n2)
    (h1 : (n1 = 1 ∧ m1 = y1) ∨ (n1 = 0 ∧ m1 = y0) ∨ (n1 = -1 ∧ m1 = y0)) (h2 : (n2 = 1 ∧ m2 = y2) ∨ (n2 = 0 ∧ m2 = m1) ∨ (n2 = -1 ∧ m2 = m1)) (g : Nat) (w : World)
    (c0 : w.cell? ⟨g, 0, Option.none⟩ = some (.float .f32 y0)) (c1 : w.cell? ⟨g, 1, Option.none⟩ = some (.float .f32 y1)) (c2 : w.cell? ⟨g, 2, Option.none⟩ = some (.float .f32 y2)) :
    Calls Try.prog 193 #[.slice (some ⟨g, 0, Option.none⟩) 3 3, .func (.func 150) #[] #[]] w fun e w' => e = .returned (.float .f32 m2) ∧ Below w.heap.size w w' := by
  have H1 : Hid ((n1 = 1 ∧ m1 = y1) ∨ (n1 = 0 ∧ m1 = y0) ∨ (n1 = -1 ∧ m1 = y0)) := h1
  have H2 : Hid ((n2 = 1 ∧ m2 = y2) ∨ (n2 = 0 ∧ m2 = m1) ∨ (n2 = -1 ∧ m2 = m1)) := h2
  clear h1 h2
  go_enter Try.func193, Try.ntmps193
  go_wp2_with fail
  go_loopw [5, 6] (fun m i wr => ((m = .float .f32 y0 ∧ i = .int .i64 1) ∨ (m = .float .f32 m1 ∧ i = .int .i64 2) ∨ (m = .float .f32 m2 ∧ i = .int .i64 3)) ∧ Below w.heap.size w wr)
    (fun _ i _ => 3 - (intOf i).toNat)
  case atStart => exact ⟨Or.inl ⟨rfl, rfl⟩, by (repeat' (first | (with_reducible exact Below.refl _ _) | (with_reducible assumption) | (with_reducible refine Below.alloc ?_ ?_ _) | (with_reducible refine Below.drew ?_) | (with_reducible refine Below.setCell ?_ ?_ _) | (with_reducible refine Below.trans ?_ (Below.mono (by assumption) ?_)) | (with_reducible exact Nat.le_refl _) | omega | (simp only [World.size_alloc, World.size_setCell, World.size_drew]; omega) | (simp; omega) | (simp; done)))⟩
  case round =>
    obtain ⟨hr, hbel⟩ := hrel
    have d0 := cBelow hbel c0
    have d1 := cBelow hbel c1
    have d2 := cBelow hbel c2
    rcases hr with ⟨rfl, rfl⟩ | ⟨rfl, rfl⟩ | ⟨rfl, rfl⟩
    · rcases H1.out with ⟨e1, e2⟩ | ⟨e1, e2⟩ | ⟨e1, e2⟩
      all_goals
        have C3 := C1
        rw [e1] at C3
        have E2 : Hid (m1 = _) := e2
        clear e1 e2
        go_wp2_with (go_at_call 150; refine (C3.call _).mono ?_; rintro e w1 ⟨rfl, rfl⟩)
        go_roundw
        case rel => exact ⟨Or.inr (Or.inl ⟨by rw [E2.out], rfl⟩), by (repeat' (first | (with_reducible exact Below.refl _ _) | (with_reducible assumption) | (with_reducible refine Below.alloc ?_ ?_ _) | (with_reducible refine Below.drew ?_) | (with_reducible refine Below.setCell ?_ ?_ _) | (with_reducible refine Below.trans ?_ (Below.mono (by assumption) ?_)) | (with_reducible exact Nat.le_refl _) | omega | (simp only [World.size_alloc, World.size_setCell, World.size_drew]; omega) | (simp; omega) | (simp; done)))⟩
        case measure => simp [intOf]
    · rcases H2.out with ⟨e1, e2⟩ | ⟨e1, e2⟩ | ⟨e1, e2⟩
      all_goals
        have C3 := C2
        rw [e1] at C3
        have E2 : Hid (m2 = _) := e2
        clear e1 e2
        go_wp2_with (go_at_call 150; refine (C3.call _).mono ?_; rintro e w1 ⟨rfl, rfl⟩)
        go_roundw
        case rel => exact ⟨Or.inr (Or.inr ⟨by rw [E2.out], rfl⟩), by (repeat' (first | (with_reducible exact Below.refl _ _) | (with_reducible assumption) | (with_reducible refine Below.alloc ?_ ?_ _) | (with_reducible refine Below.drew ?_) | (with_reducible refine Below.setCell ?_ ?_ _) | (with_reducible refine Below.trans ?_ (Below.mono (by assumption) ?_)) | (with_reducible exact Nat.le_refl _) | omega | (simp only [World.size_alloc, World.size_setCell, World.size_drew]; omega) | (simp; omega) | (simp; done)))⟩
        case measure => simp [intOf]
    · go_wp2
      all_goals (go_ret; exact ⟨rfl, by (repeat' (first | (with_reducible exact Below.refl _ _) | (with_reducible assumption) | (with_reducible refine Below.alloc ?_ ?_ _) | (with_reducible refine Below.drew ?_) | (with_reducible refine Below.setCell ?_ ?_ _) | (with_reducible refine Below.trans ?_ (Below.mono (by assumption) ?_)) | (with_reducible exact Nat.le_refl _) | omega | (simp only [World.size_alloc, World.size_setCell, World.size_drew]; omega) | (simp; omega) | (simp; done)))⟩)

theorem step_max {x y : Nat} (hx : x < 2139095040) (hy : y < 2139095040) : ∃ n : Int, CmpI x y n ∧ ((n = 1 ∧ max y x = x) ∨ (n = 0 ∧ max y x = y) ∨ (n = -1 ∧ max y x = y)) := by
  refine ⟨_, ⟨fun w => compare_i hx hy w⟩, ?_⟩
  rcases Nat.lt_trichotomy x y with h | h | h
  · right; right; rw [if_pos h]; exact ⟨rfl, by omega⟩
  · right; left; rw [if_neg (by omega), if_neg (by omega)]; exact ⟨rfl, by omega⟩
  · left; rw [if_neg (by omega), if_pos h]; exact ⟨rfl, by omega⟩

theorem greatestPart_i {x y z : Nat} (hx : x < 2139095040) (hy : y < 2139095040) (hz : z < 2139095040) (w : World) :
    Calls Try.prog 152 #[.agg #[.float .f32 x, .float .f32 y, .float .f32 z]] w fun e w' => e = .returned (.float .f32 (max (max x y) z)) ∧ Below w.heap.size w w' := by
  obtain ⟨n1, C1, h1⟩ := step_max hy hx
  obtain ⟨n2, C2, h2⟩ := step_max (x := z) (y := max x y) hz (by omega)
  have M : Hid (∀ (g : Nat) (w : World), w.cell? ⟨g, 0, Option.none⟩ = some (.float .f32 x) → w.cell? ⟨g, 1, Option.none⟩ = some (.float .f32 y) → w.cell? ⟨g, 2, Option.none⟩ = some (.float .f32 z) →
      Calls Try.prog 193 #[.slice (some ⟨g, 0, Option.none⟩) 3 3, .func (.func 150) #[] #[]] w fun e w' => e = .returned (.float .f32 (max (max x y) z)) ∧ Below w.heap.size w w') :=
    fun g w c0 c1 c2 => maxFunc_of x y z (max x y) (max (max x y) z) n1 n2 C1 C2 h1 h2 g w c0 c1 c2
  clear C1 h1 C2 h2 hx hy hz
  generalize max (max x y) z = m at M ⊢
  go_enter Try.func152, Try.ntmps152
  go_wp2_with fail
  refine (M.out _ _ (by ((repeat (first | (with_reducible assumption) | (with_reducible exact cNewAt (by first | rfl | (simp only [World.size_alloc, World.size_setCell, World.size_drew]; done) | omega) rfl) | (with_reducible exact sNewAt (by first | rfl | (simp only [World.size_alloc, World.size_setCell, World.size_drew]; done) | omega) rfl) | (simp; done) | (with_reducible apply cAlloc) | (with_reducible apply cDrew) | (with_reducible refine cSet (by dsimp only; omega) ?_) | (with_reducible refine cSetOff (by dsimp only; omega) ?_) | (with_reducible apply cSame) | (with_reducible refine cBelow (by assumption) ?_) | (with_reducible apply sAlloc) | (with_reducible apply sDrew) | (with_reducible refine sBelow (by assumption) ?_) | (with_reducible refine sSet (by dsimp only; omega) ?_))); first | done | (simp [*]; done))) (by ((repeat (first | (with_reducible assumption) | (with_reducible exact cNewAt (by first | rfl | (simp only [World.size_alloc, World.size_setCell, World.size_drew]; done) | omega) rfl) | (with_reducible exact sNewAt (by first | rfl | (simp only [World.size_alloc, World.size_setCell, World.size_drew]; done) | omega) rfl) | (simp; done) | (with_reducible apply cAlloc) | (with_reducible apply cDrew) | (with_reducible refine cSet (by dsimp only; omega) ?_) | (with_reducible refine cSetOff (by dsimp only; omega) ?_) | (with_reducible apply cSame) | (with_reducible refine cBelow (by assumption) ?_) | (with_reducible apply sAlloc) | (with_reducible apply sDrew) | (with_reducible refine sBelow (by assumption) ?_) | (with_reducible refine sSet (by dsimp only; omega) ?_))); first | done | (simp [*]; done))) (by ((repeat (first | (with_reducible assumption) | (with_reducible exact cNewAt (by first | rfl | (simp only [World.size_alloc, World.size_setCell, World.size_drew]; done) | omega) rfl) | (with_reducible exact sNewAt (by first | rfl | (simp only [World.size_alloc, World.size_setCell, World.size_drew]; done) | omega) rfl) | (simp; done) | (with_reducible apply cAlloc) | (with_reducible apply cDrew) | (with_reducible refine cSet (by dsimp only; omega) ?_) | (with_reducible refine cSetOff (by dsimp only; omega) ?_) | (with_reducible apply cSame) | (with_reducible refine cBelow (by assumption) ?_) | (with_reducible apply sAlloc) | (with_reducible apply sDrew) | (with_reducible refine sBelow (by assumption) ?_) | (with_reducible refine sSet (by dsimp only; omega) ?_))); first | done | (simp [*]; done)))).mono ?_
  rintro e w1 ⟨rfl, hb⟩
  obtain ⟨hc, hf⟩ := bcell hb; have HL := keepL (by (repeat (first | (with_reducible assumption) | (with_reducible apply AllLt.alloc) | (with_reducible apply AllLt.setCell) | (with_reducible apply AllLt.drew) | (with_reducible exact AllLt.nil _)))) hb; have hq := HL; simp only [AllLt, and_true, World.size_alloc, World.size_setCell, World.size_drew] at hq; have hbs := hb.size; try simp only [World.size_alloc, World.size_setCell, World.size_drew] at hbs
  go_wp2
  go_returns; exact ⟨rfl, by (repeat' (first | (with_reducible exact Below.refl _ _) | (with_reducible assumption) | (with_reducible refine Below.alloc ?_ ?_ _) | (with_reducible refine Below.drew ?_) | (with_reducible refine Below.setCell ?_ ?_ _) | (with_reducible refine Below.trans ?_ (Below.mono (by assumption) ?_)) | (with_reducible exact Nat.le_refl _) | omega | (simp only [World.size_alloc, World.size_setCell, World.size_drew]; omega) | (simp; omega) | (simp; done)))⟩
end Go.Proofs.Ytlnikapkheldeaa
