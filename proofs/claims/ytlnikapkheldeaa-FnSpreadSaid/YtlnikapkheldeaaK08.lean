/-
  Texts of this proof, joined: Athen.
-/
import Derived.Test.YtlnikapkheldeaaK07
/-
  Contracts of the program's ThenSym and BackSym: what each call gives, and that nothing that was there is written.
-/
namespace Go.Proofs.Ytlnikapkheldeaa
open Go.ChangeShapes Go.WideShapes Go.ChangeAt Go.RowKit Go.Joins 
set_option linter.unusedSimpArgs false
set_option linter.unusedVariables false

/-- One symmetry behind another: the turns. -/
def thenT (t u : Int) (g : Bool) : Int := if isSymB t && isSymB u then (if g then (u - t) % 4 else (t + u) % 4) else 0
/-- One symmetry behind another: the flip. -/
def thenF (t u : Int) (f g : Bool) : Bool := isSymB t && isSymB u && (f != g)
/-- The symmetry that takes one back: the turns. -/
def backT (t : Int) (f : Bool) : Int := if isSymB t then (if f then t else (-t) % 4) else 0
/-- The symmetry that takes one back: the flip. -/
def backF (t : Int) (f : Bool) : Bool := isSymB t && f


theorem thenSym_i (t u : Int) (f g : Bool) (w : World) :
    Calls Try.prog 25 #[.agg #[.int .i64 t, .bool f], .agg #[.int .i64 u, .bool g]] w fun e w' => e = .returned (.agg #[.int .i64 (thenT t u g), .bool (thenF t u f g)]) ∧ Below w.heap.size w w' := by
  by_cases ht : isSymB t = true
  · by_cases hu : isSymB u = true
    · obtain ⟨h1, h2⟩ := isSymB_iff.1 ht
      obtain ⟨h3, h4⟩ := isSymB_iff.1 hu
      cases g
      · have eT : thenT t u false = (t + u) % 4 := by simp [thenT, ht, hu]
        have eF : thenF t u f false = f := by simp [thenF, ht, hu]
        rw [eT, eF]
        clear eT eF ht hu
        go_enter Try.func25, Try.ntmps25
        go_wp2
        go_returns; exact ⟨by first | rfl | (simp; omega), by (repeat' (first | (with_reducible exact Below.refl _ _) | (with_reducible assumption) | (with_reducible refine Below.alloc ?_ ?_ _) | (with_reducible refine Below.drew ?_) | (with_reducible refine Below.setCell ?_ ?_ _) | (with_reducible refine Below.trans ?_ (Below.mono (by assumption) ?_)) | (with_reducible exact Nat.le_refl _) | omega | (simp only [World.size_alloc, World.size_setCell, World.size_drew]; omega) | (simp; omega) | (simp; done)))⟩
      · have eT : thenT t u true = (u - t) % 4 := by simp [thenT, ht, hu]
        have eF : thenF t u f true = !f := by simp [thenF, ht, hu]
        rw [eT, eF]
        clear eT eF ht hu
        go_enter Try.func25, Try.ntmps25
        go_wp2
        go_returns; exact ⟨by first | rfl | (simp; omega), by (repeat' (first | (with_reducible exact Below.refl _ _) | (with_reducible assumption) | (with_reducible refine Below.alloc ?_ ?_ _) | (with_reducible refine Below.drew ?_) | (with_reducible refine Below.setCell ?_ ?_ _) | (with_reducible refine Below.trans ?_ (Below.mono (by assumption) ?_)) | (with_reducible exact Nat.le_refl _) | omega | (simp only [World.size_alloc, World.size_setCell, World.size_drew]; omega) | (simp; omega) | (simp; done)))⟩
    · have eT : thenT t u g = 0 := by simp [thenT, hu]
      have eF : thenF t u f g = false := by simp [thenF, hu]
      rw [eT, eF]
      clear eT eF
      obtain ⟨h1, h2⟩ := isSymB_iff.1 ht
      rcases isSymB_no (by simpa using hu) with h | ⟨h3, h4⟩
      · clear ht hu
        go_enter Try.func25, Try.ntmps25
        go_wp2
        go_returns; exact ⟨by first | rfl | (simp; omega), by (repeat' (first | (with_reducible exact Below.refl _ _) | (with_reducible assumption) | (with_reducible refine Below.alloc ?_ ?_ _) | (with_reducible refine Below.drew ?_) | (with_reducible refine Below.setCell ?_ ?_ _) | (with_reducible refine Below.trans ?_ (Below.mono (by assumption) ?_)) | (with_reducible exact Nat.le_refl _) | omega | (simp only [World.size_alloc, World.size_setCell, World.size_drew]; omega) | (simp; omega) | (simp; done)))⟩
      · clear ht hu
        have h5 : decide (u < 4) = false := by simp; omega
        go_enter Try.func25, Try.ntmps25
        go_wp2
        go_returns; exact ⟨by first | rfl | (simp; omega), by (repeat' (first | (with_reducible exact Below.refl _ _) | (with_reducible assumption) | (with_reducible refine Below.alloc ?_ ?_ _) | (with_reducible refine Below.drew ?_) | (with_reducible refine Below.setCell ?_ ?_ _) | (with_reducible refine Below.trans ?_ (Below.mono (by assumption) ?_)) | (with_reducible exact Nat.le_refl _) | omega | (simp only [World.size_alloc, World.size_setCell, World.size_drew]; omega) | (simp; omega) | (simp; done)))⟩
  · have eT : thenT t u g = 0 := by simp [thenT, ht]
    have eF : thenF t u f g = false := by simp [thenF, ht]
    rw [eT, eF]
    clear eT eF
    rcases isSymB_no (by simpa using ht) with h | ⟨h3, h4⟩
    · clear ht
      go_enter Try.func25, Try.ntmps25
      go_wp2
      go_returns; exact ⟨by first | rfl | (simp; omega), by (repeat' (first | (with_reducible exact Below.refl _ _) | (with_reducible assumption) | (with_reducible refine Below.alloc ?_ ?_ _) | (with_reducible refine Below.drew ?_) | (with_reducible refine Below.setCell ?_ ?_ _) | (with_reducible refine Below.trans ?_ (Below.mono (by assumption) ?_)) | (with_reducible exact Nat.le_refl _) | omega | (simp only [World.size_alloc, World.size_setCell, World.size_drew]; omega) | (simp; omega) | (simp; done)))⟩
    · clear ht
      have h5 : decide (t < 4) = false := by simp; omega
      go_enter Try.func25, Try.ntmps25
      go_wp2
      go_returns; exact ⟨by first | rfl | (simp; omega), by (repeat' (first | (with_reducible exact Below.refl _ _) | (with_reducible assumption) | (with_reducible refine Below.alloc ?_ ?_ _) | (with_reducible refine Below.drew ?_) | (with_reducible refine Below.setCell ?_ ?_ _) | (with_reducible refine Below.trans ?_ (Below.mono (by assumption) ?_)) | (with_reducible exact Nat.le_refl _) | omega | (simp only [World.size_alloc, World.size_setCell, World.size_drew]; omega) | (simp; omega) | (simp; done)))⟩

theorem backSym_i (t : Int) (f : Bool) (w : World) :
    Calls Try.prog 26 #[.agg #[.int .i64 t, .bool f]] w fun e w' => e = .returned (.agg #[.int .i64 (backT t f), .bool (backF t f)]) ∧ Below w.heap.size w w' := by
  by_cases ht : isSymB t = true
  · obtain ⟨h1, h2⟩ := isSymB_iff.1 ht
    cases f
    · have eT : backT t false = (-t) % 4 := by simp [backT, ht]
      have eF : backF t false = false := by simp [backF]
      rw [eT, eF]
      clear eT eF ht
      go_enter Try.func26, Try.ntmps26
      go_wp2
      go_returns; exact ⟨by first | rfl | (simp; omega), by (repeat' (first | (with_reducible exact Below.refl _ _) | (with_reducible assumption) | (with_reducible refine Below.alloc ?_ ?_ _) | (with_reducible refine Below.drew ?_) | (with_reducible refine Below.setCell ?_ ?_ _) | (with_reducible refine Below.trans ?_ (Below.mono (by assumption) ?_)) | (with_reducible exact Nat.le_refl _) | omega | (simp only [World.size_alloc, World.size_setCell, World.size_drew]; omega) | (simp; omega) | (simp; done)))⟩
    · have eT : backT t true = t := by simp [backT, ht]
      have eF : backF t true = true := by simp [backF, ht]
      rw [eT, eF]
      clear eT eF ht
      go_enter Try.func26, Try.ntmps26
      go_wp2
      go_returns; exact ⟨by first | rfl | (simp; omega), by (repeat' (first | (with_reducible exact Below.refl _ _) | (with_reducible assumption) | (with_reducible refine Below.alloc ?_ ?_ _) | (with_reducible refine Below.drew ?_) | (with_reducible refine Below.setCell ?_ ?_ _) | (with_reducible refine Below.trans ?_ (Below.mono (by assumption) ?_)) | (with_reducible exact Nat.le_refl _) | omega | (simp only [World.size_alloc, World.size_setCell, World.size_drew]; omega) | (simp; omega) | (simp; done)))⟩
  · have eT : backT t f = 0 := by simp [backT, ht]
    have eF : backF t f = false := by simp [backF, ht]
    rw [eT, eF]
    clear eT eF
    rcases isSymB_no (by simpa using ht) with h | ⟨h3, h4⟩
    · clear ht
      go_enter Try.func26, Try.ntmps26
      go_wp2
      go_returns; exact ⟨by first | rfl | (simp; omega), by (repeat' (first | (with_reducible exact Below.refl _ _) | (with_reducible assumption) | (with_reducible refine Below.alloc ?_ ?_ _) | (with_reducible refine Below.drew ?_) | (with_reducible refine Below.setCell ?_ ?_ _) | (with_reducible refine Below.trans ?_ (Below.mono (by assumption) ?_)) | (with_reducible exact Nat.le_refl _) | omega | (simp only [World.size_alloc, World.size_setCell, World.size_drew]; omega) | (simp; omega) | (simp; done)))⟩
    · clear ht
      have h5 : decide (t < 4) = false := by simp; omega
      go_enter Try.func26, Try.ntmps26
      go_wp2
      go_returns; exact ⟨by first | rfl | (simp; omega), by (repeat' (first | (with_reducible exact Below.refl _ _) | (with_reducible assumption) | (with_reducible refine Below.alloc ?_ ?_ _) | (with_reducible refine Below.drew ?_) | (with_reducible refine Below.setCell ?_ ?_ _) | (with_reducible refine Below.trans ?_ (Below.mono (by assumption) ?_)) | (with_reducible exact Nat.le_refl _) | omega | (simp only [World.size_alloc, World.size_setCell, World.size_drew]; omega) | (simp; omega) | (simp; done)))⟩
end Go.Proofs.Ytlnikapkheldeaa
