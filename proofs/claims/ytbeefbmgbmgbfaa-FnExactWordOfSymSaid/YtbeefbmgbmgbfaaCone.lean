/-
  Contracts of the small functions on symmetries: what each call gives, and that nothing that was there is written.
-/
import Derived.Test.YtbeefbmgbmgbfaaKit
namespace Go.Proofs.Ytbeefbmgbmgbfaa
open Go.ChangeShapes Go.WideShapes Go.ChangeAt Go.RowKit Go.Joins 
set_option linter.unusedSimpArgs false
set_option linter.unusedVariables false

/-- A symmetry as a value. -/
def symV (t : Int) (f : Bool) : Value := .agg #[.int .i64 t, .bool f]

/-- Is the number of turns one of a symmetry? -/
def isSymB (t : Int) : Bool := decide (0 ≤ t) && decide (t < 4)

theorem isSymB_yes {t : Int} (h : 0 ≤ t) (h' : t < 4) : isSymB t = true := by simp [isSymB, h, h']
theorem isSymB_neg {t : Int} (h : t < 0) : isSymB t = false := by simp [isSymB]; omega
theorem isSymB_big {t : Int} (h : 4 ≤ t) : isSymB t = false := by simp [isSymB]; omega

theorem toSym_any (t : Int) (f : Bool) (w : World) :
    Calls Try.prog 31 #[.agg #[.int .i64 t, .bool f]] w fun e w' => e = .returned (.agg #[.int .i64 t, .bool f]) ∧ Below w.heap.size w w' := by
  go_enter Try.func31, Try.ntmps31
  go_wp2
  go_returns
  exact ⟨rfl, by go_grown⟩

theorem isSym_i (t : Int) (f : Bool) (w : World) :
    Calls Try.prog 23 #[.agg #[.int .i64 t, .bool f]] w fun e w' => e = .returned (.bool (isSymB t)) ∧ Below w.heap.size w w' := by
  rcases (by omega : t < 0 ∨ (0 ≤ t ∧ t < 4) ∨ (0 ≤ t ∧ 4 ≤ t)) with h | ⟨h, h'⟩ | ⟨h, h'⟩
  · rw [isSymB_neg h]
    go_enter Try.func23, Try.ntmps23
    go_wp2
    go_returns
    exact ⟨rfl, by go_grown⟩
  · rw [isSymB_yes h h']
    go_enter Try.func23, Try.ntmps23
    go_wp2
    go_returns
    exact ⟨rfl, by go_grown⟩
  · rw [isSymB_big h']
    have h2 : decide (t < 4) = false := by simp; omega
    go_enter Try.func23, Try.ntmps23
    go_wp2
    go_returns
    exact ⟨rfl, by go_grown⟩

theorem isSym_s (t : Int) (f : Bool) (w : World) :
    Calls Try.prog 30 #[.agg #[.int .i64 t, .bool f]] w fun e w' => e = .returned (.bool (isSymB t)) ∧ Below w.heap.size w w' := by
  rcases (by omega : t < 0 ∨ (0 ≤ t ∧ t ≤ 3) ∨ (0 ≤ t ∧ 4 ≤ t)) with h | ⟨h, h'⟩ | ⟨h, h'⟩
  · rw [isSymB_neg h]
    go_enter Try.func30, Try.ntmps30
    go_wp2
    go_returns
    exact ⟨rfl, by go_grown⟩
  · rw [isSymB_yes h (by omega)]
    go_enter Try.func30, Try.ntmps30
    go_wp2
    go_returns
    exact ⟨rfl, by go_grown⟩
  · rw [isSymB_big h']
    have h2 : decide (t ≤ 3) = false := by simp; omega
    go_enter Try.func30, Try.ntmps30
    go_wp2
    go_returns
    exact ⟨rfl, by go_grown⟩

theorem isSymB_iff {t : Int} : isSymB t = true ↔ 0 ≤ t ∧ t < 4 := by simp [isSymB]
theorem isSymB_no {t : Int} (h : isSymB t = false) : t < 0 ∨ (0 ≤ t ∧ 4 ≤ t) := by
  simp [isSymB] at h
  omega

/-- One symmetry behind another: the turns. -/
def thenT (t u : Int) (g : Bool) : Int := if isSymB t && isSymB u then (if g then (u - t) % 4 else (t + u) % 4) else 0
/-- One symmetry behind another: the flip. -/
def thenF (t u : Int) (f g : Bool) : Bool := isSymB t && isSymB u && (f != g)
/-- The symmetry that takes one back: the turns. -/
def backT (t : Int) (f : Bool) : Int := if isSymB t then (if f then t else (-t) % 4) else 0
/-- The symmetry that takes one back: the flip. -/
def backF (t : Int) (f : Bool) : Bool := isSymB t && f


theorem thenSym_i (t u : Int) (f g : Bool) (w : World) :
    Calls Try.prog 17 #[.agg #[.int .i64 t, .bool f], .agg #[.int .i64 u, .bool g]] w fun e w' => e = .returned (.agg #[.int .i64 (thenT t u g), .bool (thenF t u f g)]) ∧ Below w.heap.size w w' := by
  by_cases ht : isSymB t = true
  · by_cases hu : isSymB u = true
    · obtain ⟨h1, h2⟩ := isSymB_iff.1 ht
      obtain ⟨h3, h4⟩ := isSymB_iff.1 hu
      cases g
      · have eT : thenT t u false = (t + u) % 4 := by simp [thenT, ht, hu]
        have eF : thenF t u f false = f := by simp [thenF, ht, hu]
        rw [eT, eF]
        clear eT eF ht hu
        go_enter Try.func17, Try.ntmps17
        go_wp2
        go_returns; exact ⟨by first | rfl | (simp; omega), by (repeat' (first | (with_reducible exact Below.refl _ _) | (with_reducible assumption) | (with_reducible refine Below.alloc ?_ ?_ _) | (with_reducible refine Below.drew ?_) | (with_reducible refine Below.setCell ?_ ?_ _) | (with_reducible refine Below.trans ?_ (Below.mono (by assumption) ?_)) | (with_reducible exact Nat.le_refl _) | omega | (simp only [World.size_alloc, World.size_setCell, World.size_drew]; omega) | (simp; omega) | (simp; done)))⟩
      · have eT : thenT t u true = (u - t) % 4 := by simp [thenT, ht, hu]
        have eF : thenF t u f true = !f := by simp [thenF, ht, hu]
        rw [eT, eF]
        clear eT eF ht hu
        go_enter Try.func17, Try.ntmps17
        go_wp2
        go_returns; exact ⟨by first | rfl | (simp; omega), by (repeat' (first | (with_reducible exact Below.refl _ _) | (with_reducible assumption) | (with_reducible refine Below.alloc ?_ ?_ _) | (with_reducible refine Below.drew ?_) | (with_reducible refine Below.setCell ?_ ?_ _) | (with_reducible refine Below.trans ?_ (Below.mono (by assumption) ?_)) | (with_reducible exact Nat.le_refl _) | omega | (simp only [World.size_alloc, World.size_setCell, World.size_drew]; omega) | (simp; omega) | (simp; done)))⟩
    · have eT : thenT t u g = 0 := by simp [thenT, hu]
      have eF : thenF t u f g = false := by simp [thenF, hu]
      rw [eT, eF]
      clear eT eF
      obtain ⟨h1, h2⟩ := isSymB_iff.1 ht
      rcases isSymB_no (by simpa using hu) with h | ⟨h3, h4⟩
      · clear ht hu
        go_enter Try.func17, Try.ntmps17
        go_wp2
        go_returns; exact ⟨by first | rfl | (simp; omega), by (repeat' (first | (with_reducible exact Below.refl _ _) | (with_reducible assumption) | (with_reducible refine Below.alloc ?_ ?_ _) | (with_reducible refine Below.drew ?_) | (with_reducible refine Below.setCell ?_ ?_ _) | (with_reducible refine Below.trans ?_ (Below.mono (by assumption) ?_)) | (with_reducible exact Nat.le_refl _) | omega | (simp only [World.size_alloc, World.size_setCell, World.size_drew]; omega) | (simp; omega) | (simp; done)))⟩
      · clear ht hu
        have h5 : decide (u < 4) = false := by simp; omega
        go_enter Try.func17, Try.ntmps17
        go_wp2
        go_returns; exact ⟨by first | rfl | (simp; omega), by (repeat' (first | (with_reducible exact Below.refl _ _) | (with_reducible assumption) | (with_reducible refine Below.alloc ?_ ?_ _) | (with_reducible refine Below.drew ?_) | (with_reducible refine Below.setCell ?_ ?_ _) | (with_reducible refine Below.trans ?_ (Below.mono (by assumption) ?_)) | (with_reducible exact Nat.le_refl _) | omega | (simp only [World.size_alloc, World.size_setCell, World.size_drew]; omega) | (simp; omega) | (simp; done)))⟩
  · have eT : thenT t u g = 0 := by simp [thenT, ht]
    have eF : thenF t u f g = false := by simp [thenF, ht]
    rw [eT, eF]
    clear eT eF
    rcases isSymB_no (by simpa using ht) with h | ⟨h3, h4⟩
    · clear ht
      go_enter Try.func17, Try.ntmps17
      go_wp2
      go_returns; exact ⟨by first | rfl | (simp; omega), by (repeat' (first | (with_reducible exact Below.refl _ _) | (with_reducible assumption) | (with_reducible refine Below.alloc ?_ ?_ _) | (with_reducible refine Below.drew ?_) | (with_reducible refine Below.setCell ?_ ?_ _) | (with_reducible refine Below.trans ?_ (Below.mono (by assumption) ?_)) | (with_reducible exact Nat.le_refl _) | omega | (simp only [World.size_alloc, World.size_setCell, World.size_drew]; omega) | (simp; omega) | (simp; done)))⟩
    · clear ht
      have h5 : decide (t < 4) = false := by simp; omega
      go_enter Try.func17, Try.ntmps17
      go_wp2
      go_returns; exact ⟨by first | rfl | (simp; omega), by (repeat' (first | (with_reducible exact Below.refl _ _) | (with_reducible assumption) | (with_reducible refine Below.alloc ?_ ?_ _) | (with_reducible refine Below.drew ?_) | (with_reducible refine Below.setCell ?_ ?_ _) | (with_reducible refine Below.trans ?_ (Below.mono (by assumption) ?_)) | (with_reducible exact Nat.le_refl _) | omega | (simp only [World.size_alloc, World.size_setCell, World.size_drew]; omega) | (simp; omega) | (simp; done)))⟩

theorem l1Then_0 (t u : Int) (f : Bool) (w : World) (h1 : 0 ≤ t) (h2 : t < 4) (h3 : 0 ≤ u) (h4 : u < 4) :
    Calls Try.prog 63 #[.agg #[.int .i64 t, .bool f], .agg #[.int .i64 u, .bool false]] w fun e w' => e = .returned (.agg #[.int .i64 ((t + u) % 4), .bool f]) ∧ Below w.heap.size w w' := by
  go_enter Try.func63, Try.ntmps63
  go_wp2
  go_returns; exact ⟨by first | rfl | (simp; omega), by (repeat' (first | (with_reducible exact Below.refl _ _) | (with_reducible assumption) | (with_reducible refine Below.alloc ?_ ?_ _) | (with_reducible refine Below.drew ?_) | (with_reducible refine Below.setCell ?_ ?_ _) | (with_reducible refine Below.trans ?_ (Below.mono (by assumption) ?_)) | (with_reducible exact Nat.le_refl _) | omega | (simp only [World.size_alloc, World.size_setCell, World.size_drew]; omega) | (simp; omega) | (simp; done)))⟩
theorem l1Then_1 (t u : Int) (f : Bool) (w : World) (h1 : 0 ≤ t) (h2 : t < 4) (h3 : 0 ≤ u) (h4 : u < 4) :
    Calls Try.prog 63 #[.agg #[.int .i64 t, .bool f], .agg #[.int .i64 u, .bool true]] w fun e w' => e = .returned (.agg #[.int .i64 ((u - t) % 4), .bool (!f)]) ∧ Below w.heap.size w w' := by
  go_enter Try.func63, Try.ntmps63
  go_wp2
  go_returns; exact ⟨by first | rfl | (simp; omega), by (repeat' (first | (with_reducible exact Below.refl _ _) | (with_reducible assumption) | (with_reducible refine Below.alloc ?_ ?_ _) | (with_reducible refine Below.drew ?_) | (with_reducible refine Below.setCell ?_ ?_ _) | (with_reducible refine Below.trans ?_ (Below.mono (by assumption) ?_)) | (with_reducible exact Nat.le_refl _) | omega | (simp only [World.size_alloc, World.size_setCell, World.size_drew]; omega) | (simp; omega) | (simp; done)))⟩
theorem l1Then_s (t u : Int) (f g : Bool) (w : World) (h1 : 0 ≤ t) (h2 : t < 4) (h3 : 0 ≤ u) (h4 : u < 4) :
    Calls Try.prog 63 #[.agg #[.int .i64 t, .bool f], .agg #[.int .i64 u, .bool g]] w fun e w' => e = .returned (.agg #[.int .i64 (thenT t u g), .bool (thenF t u f g)]) ∧ Below w.heap.size w w' := by
  have ht := isSymB_yes h1 h2
  have hu := isSymB_yes h3 h4
  cases g
  · have eT : thenT t u false = (t + u) % 4 := by simp [thenT, ht, hu]
    have eF : thenF t u f false = f := by simp [thenF, ht, hu]
    rw [eT, eF]
    exact l1Then_0 t u f w h1 h2 h3 h4
  · have eT : thenT t u true = (u - t) % 4 := by simp [thenT, ht, hu]
    have eF : thenF t u f true = !f := by simp [thenF, ht, hu]
    rw [eT, eF]
    exact l1Then_1 t u f w h1 h2 h3 h4

theorem backSym_i (t : Int) (f : Bool) (w : World) :
    Calls Try.prog 18 #[.agg #[.int .i64 t, .bool f]] w fun e w' => e = .returned (.agg #[.int .i64 (backT t f), .bool (backF t f)]) ∧ Below w.heap.size w w' := by
  by_cases ht : isSymB t = true
  · obtain ⟨h1, h2⟩ := isSymB_iff.1 ht
    cases f
    · have eT : backT t false = (-t) % 4 := by simp [backT, ht]
      have eF : backF t false = false := by simp [backF]
      rw [eT, eF]
      clear eT eF ht
      go_enter Try.func18, Try.ntmps18
      go_wp2
      go_returns; exact ⟨by first | rfl | (simp; omega), by (repeat' (first | (with_reducible exact Below.refl _ _) | (with_reducible assumption) | (with_reducible refine Below.alloc ?_ ?_ _) | (with_reducible refine Below.drew ?_) | (with_reducible refine Below.setCell ?_ ?_ _) | (with_reducible refine Below.trans ?_ (Below.mono (by assumption) ?_)) | (with_reducible exact Nat.le_refl _) | omega | (simp only [World.size_alloc, World.size_setCell, World.size_drew]; omega) | (simp; omega) | (simp; done)))⟩
    · have eT : backT t true = t := by simp [backT, ht]
      have eF : backF t true = true := by simp [backF, ht]
      rw [eT, eF]
      clear eT eF ht
      go_enter Try.func18, Try.ntmps18
      go_wp2
      go_returns; exact ⟨by first | rfl | (simp; omega), by (repeat' (first | (with_reducible exact Below.refl _ _) | (with_reducible assumption) | (with_reducible refine Below.alloc ?_ ?_ _) | (with_reducible refine Below.drew ?_) | (with_reducible refine Below.setCell ?_ ?_ _) | (with_reducible refine Below.trans ?_ (Below.mono (by assumption) ?_)) | (with_reducible exact Nat.le_refl _) | omega | (simp only [World.size_alloc, World.size_setCell, World.size_drew]; omega) | (simp; omega) | (simp; done)))⟩
  · have eT : backT t f = 0 := by simp [backT, ht]
    have eF : backF t f = false := by simp [backF, ht]
    rw [eT, eF]
    clear eT eF
    rcases isSymB_no (by simpa using ht) with h | ⟨h3, h4⟩
    · clear ht
      go_enter Try.func18, Try.ntmps18
      go_wp2
      go_returns; exact ⟨by first | rfl | (simp; omega), by (repeat' (first | (with_reducible exact Below.refl _ _) | (with_reducible assumption) | (with_reducible refine Below.alloc ?_ ?_ _) | (with_reducible refine Below.drew ?_) | (with_reducible refine Below.setCell ?_ ?_ _) | (with_reducible refine Below.trans ?_ (Below.mono (by assumption) ?_)) | (with_reducible exact Nat.le_refl _) | omega | (simp only [World.size_alloc, World.size_setCell, World.size_drew]; omega) | (simp; omega) | (simp; done)))⟩
    · clear ht
      have h5 : decide (t < 4) = false := by simp; omega
      go_enter Try.func18, Try.ntmps18
      go_wp2
      go_returns; exact ⟨by first | rfl | (simp; omega), by (repeat' (first | (with_reducible exact Below.refl _ _) | (with_reducible assumption) | (with_reducible refine Below.alloc ?_ ?_ _) | (with_reducible refine Below.drew ?_) | (with_reducible refine Below.setCell ?_ ?_ _) | (with_reducible refine Below.trans ?_ (Below.mono (by assumption) ?_)) | (with_reducible exact Nat.le_refl _) | omega | (simp only [World.size_alloc, World.size_setCell, World.size_drew]; omega) | (simp; omega) | (simp; done)))⟩
theorem backSym_s (t : Int) (f : Bool) (w : World) :
    Calls Try.prog 34 #[.agg #[.int .i64 t, .bool f]] w fun e w' => e = .returned (.agg #[.int .i64 (backT t f), .bool (backF t f)]) ∧ Below w.heap.size w w' := by
  by_cases ht : isSymB t = true
  · obtain ⟨h1, h2⟩ := isSymB_iff.1 ht
    have h3 : t ≤ 3 := by omega
    cases f
    · have eT : backT t false = (-t) % 4 := by simp [backT, ht]
      have eF : backF t false = false := by simp [backF]
      rw [eT, eF]
      clear eT eF ht
      go_enter Try.func34, Try.ntmps34
      go_wp2
      go_returns; exact ⟨by first | rfl | (simp; omega), by (repeat' (first | (with_reducible exact Below.refl _ _) | (with_reducible assumption) | (with_reducible refine Below.alloc ?_ ?_ _) | (with_reducible refine Below.drew ?_) | (with_reducible refine Below.setCell ?_ ?_ _) | (with_reducible refine Below.trans ?_ (Below.mono (by assumption) ?_)) | (with_reducible exact Nat.le_refl _) | omega | (simp only [World.size_alloc, World.size_setCell, World.size_drew]; omega) | (simp; omega) | (simp; done)))⟩
    · have eT : backT t true = t := by simp [backT, ht]
      have eF : backF t true = true := by simp [backF, ht]
      rw [eT, eF]
      clear eT eF ht
      go_enter Try.func34, Try.ntmps34
      go_wp2
      go_returns; exact ⟨by first | rfl | (simp; omega), by (repeat' (first | (with_reducible exact Below.refl _ _) | (with_reducible assumption) | (with_reducible refine Below.alloc ?_ ?_ _) | (with_reducible refine Below.drew ?_) | (with_reducible refine Below.setCell ?_ ?_ _) | (with_reducible refine Below.trans ?_ (Below.mono (by assumption) ?_)) | (with_reducible exact Nat.le_refl _) | omega | (simp only [World.size_alloc, World.size_setCell, World.size_drew]; omega) | (simp; omega) | (simp; done)))⟩
  · have eT : backT t f = 0 := by simp [backT, ht]
    have eF : backF t f = false := by simp [backF, ht]
    rw [eT, eF]
    clear eT eF
    rcases isSymB_no (by simpa using ht) with h | ⟨h3, h4⟩
    · clear ht
      go_enter Try.func34, Try.ntmps34
      go_wp2
      go_returns; exact ⟨by first | rfl | (simp; omega), by (repeat' (first | (with_reducible exact Below.refl _ _) | (with_reducible assumption) | (with_reducible refine Below.alloc ?_ ?_ _) | (with_reducible refine Below.drew ?_) | (with_reducible refine Below.setCell ?_ ?_ _) | (with_reducible refine Below.trans ?_ (Below.mono (by assumption) ?_)) | (with_reducible exact Nat.le_refl _) | omega | (simp only [World.size_alloc, World.size_setCell, World.size_drew]; omega) | (simp; omega) | (simp; done)))⟩
    · clear ht
      have h5 : decide (t ≤ 3) = false := by simp; omega
      go_enter Try.func34, Try.ntmps34
      go_wp2
      go_returns; exact ⟨by first | rfl | (simp; omega), by (repeat' (first | (with_reducible exact Below.refl _ _) | (with_reducible assumption) | (with_reducible refine Below.alloc ?_ ?_ _) | (with_reducible refine Below.drew ?_) | (with_reducible refine Below.setCell ?_ ?_ _) | (with_reducible refine Below.trans ?_ (Below.mono (by assumption) ?_)) | (with_reducible exact Nat.le_refl _) | omega | (simp only [World.size_alloc, World.size_setCell, World.size_drew]; omega) | (simp; omega) | (simp; done)))⟩
theorem eqSym_same (t : Int) (f : Bool) (w : World) :
    Calls Try.prog 33 #[.agg #[.int .i64 t, .bool f], .agg #[.int .i64 t, .bool f]] w fun e w' => e = .returned (.bool true) ∧ Below w.heap.size w w' := by
  go_enter Try.func33, Try.ntmps33
  go_wp2
  go_returns; exact ⟨by first | rfl | (simp; omega), by (repeat' (first | (with_reducible exact Below.refl _ _) | (with_reducible assumption) | (with_reducible refine Below.alloc ?_ ?_ _) | (with_reducible refine Below.drew ?_) | (with_reducible refine Below.setCell ?_ ?_ _) | (with_reducible refine Below.trans ?_ (Below.mono (by assumption) ?_)) | (with_reducible exact Nat.le_refl _) | omega | (simp only [World.size_alloc, World.size_setCell, World.size_drew]; omega) | (simp; omega) | (simp; done)))⟩
end Go.Proofs.Ytbeefbmgbmgbfaa
