/-
  ParseColour of the model.
-/
import Derived.Test.YtljilmekmfnkbaaCpc
namespace Go.Proofs.Ytljilmekmfnkbaa
open Go.ChangeShapes Go.WideShapes Go.ChangeAt Go.RowKit Go.Joins
set_option linter.unusedSimpArgs false
set_option linter.unusedVariables false
set_option maxRecDepth 100000
attribute [local go_sem] store_f
open Ieee

theorem parse_s_len (s : ByteArray) (h : s.size ≠ 3) (w : World) :
    Calls Try.prog 39 #[.string s] w fun e w' => e = .returned (tupV 0 0 0 false) ∧ Below w.heap.size w w' := by
  have hn : ¬ (s.size : Int) = 3 := by omega
  have hn2 : ((s.size : Int) != 3) = true := by simpa using hn
  have HH : Hid (s.size ≠ 3) := h
  clear h
  unfold tupV
  go_enter Try.func39, Try.ntmps39
  go_wp2
  all_goals (go_returns; exact ⟨rfl, by (repeat' (first | (with_reducible exact Below.refl _ _) | (with_reducible assumption) | (with_reducible refine Below.alloc ?_ ?_ _) | (with_reducible refine Below.drew ?_) | (with_reducible refine Below.setCell ?_ ?_ _) | (with_reducible refine Below.trans ?_ (Below.mono (by assumption) ?_)) | (with_reducible exact Nat.le_refl _) | omega | (simp only [World.size_alloc, World.size_setCell, World.size_drew]; omega) | (simp; omega) | (simp; done)))⟩)

structure ValC (b : UInt8) (v : Int) : Prop where
  call : ∀ w : World, Calls Try.prog 78 #[.int .u8 (b.toNat : Int)] w fun e w' => e = .returned (.int .i64 v) ∧ w' = w

theorem parse_s_no (b0 b1 b2 : UInt8) (u v x : Int) (A : ValC b0 u) (B : ValC b1 v) (C : ValC b2 x) (h : u < 0 ∨ (0 ≤ u ∧ v < 0) ∨ (0 ≤ u ∧ 0 ≤ v ∧ x < 0)) (w : World) :
    Calls Try.prog 39 #[.string ⟨#[b0, b1, b2]⟩] w fun e w' => e = .returned (tupV 0 0 0 false) ∧ Below w.heap.size w w' := by
  unfold tupV
  have hsz : (ByteArray.mk #[b0, b1, b2]).size = 3 := rfl
  rcases h with h | ⟨h0, h⟩ | ⟨h0, h1, h⟩
  · go_enter Try.func39, Try.ntmps39
    go_wp2_with fail
    refine (A.call _).mono ?_
    rintro e w1 ⟨rfl, rfl⟩
    go_wp2
    all_goals (go_returns; exact ⟨rfl, by (repeat' (first | (with_reducible exact Below.refl _ _) | (with_reducible assumption) | (with_reducible refine Below.alloc ?_ ?_ _) | (with_reducible refine Below.drew ?_) | (with_reducible refine Below.setCell ?_ ?_ _) | (with_reducible refine Below.trans ?_ (Below.mono (by assumption) ?_)) | (with_reducible exact Nat.le_refl _) | omega | (simp only [World.size_alloc, World.size_setCell, World.size_drew]; omega) | (simp; omega) | (simp; done)))⟩)
  · go_enter Try.func39, Try.ntmps39
    go_wp2_with fail
    refine (A.call _).mono ?_
    rintro e w1 ⟨rfl, rfl⟩
    go_wp2_with fail
    refine (B.call _).mono ?_
    rintro e w1 ⟨rfl, rfl⟩
    go_wp2
    all_goals (go_returns; exact ⟨rfl, by (repeat' (first | (with_reducible exact Below.refl _ _) | (with_reducible assumption) | (with_reducible refine Below.alloc ?_ ?_ _) | (with_reducible refine Below.drew ?_) | (with_reducible refine Below.setCell ?_ ?_ _) | (with_reducible refine Below.trans ?_ (Below.mono (by assumption) ?_)) | (with_reducible exact Nat.le_refl _) | omega | (simp only [World.size_alloc, World.size_setCell, World.size_drew]; omega) | (simp; omega) | (simp; done)))⟩)
  · go_enter Try.func39, Try.ntmps39
    go_wp2_with fail
    refine (A.call _).mono ?_
    rintro e w1 ⟨rfl, rfl⟩
    go_wp2_with fail
    refine (B.call _).mono ?_
    rintro e w1 ⟨rfl, rfl⟩
    go_wp2_with fail
    refine (C.call _).mono ?_
    rintro e w1 ⟨rfl, rfl⟩
    go_wp2
    all_goals (go_returns; exact ⟨rfl, by (repeat' (first | (with_reducible exact Below.refl _ _) | (with_reducible assumption) | (with_reducible refine Below.alloc ?_ ?_ _) | (with_reducible refine Below.drew ?_) | (with_reducible refine Below.setCell ?_ ?_ _) | (with_reducible refine Below.trans ?_ (Below.mono (by assumption) ?_)) | (with_reducible exact Nat.le_refl _) | omega | (simp only [World.size_alloc, World.size_setCell, World.size_drew]; omega) | (simp; omega) | (simp; done)))⟩)

theorem parse_s_yes (b0 b1 b2 : UInt8) (i j k p q r : Nat) (A : ValC b0 i) (B : ValC b1 j) (C : ValC b2 k)
    (hp : FloatKind.f32.format.div (floatOfInt .f32 i) 1097859072 = some p) (hq : FloatKind.f32.format.div (floatOfInt .f32 j) 1097859072 = some q) (hr : FloatKind.f32.format.div (floatOfInt .f32 k) 1097859072 = some r) (w : World) :
    Calls Try.prog 39 #[.string ⟨#[b0, b1, b2]⟩] w fun e w' => e = .returned (tupV p q r true) ∧ Below w.heap.size w w' := by
  unfold tupV
  have hop0 := fun t W => run_float_arith (P := Try.prog) W .quo t .f32 (floatOfInt .f32 i) 1097859072 _ hp
  have hop1 := fun t W => run_float_arith (P := Try.prog) W .quo t .f32 (floatOfInt .f32 j) 1097859072 _ hq
  have hop2 := fun t W => run_float_arith (P := Try.prog) W .quo t .f32 (floatOfInt .f32 k) 1097859072 _ hr
  clear hp hq hr
  have hsz : (ByteArray.mk #[b0, b1, b2]).size = 3 := rfl
  go_enter Try.func39, Try.ntmps39
  go_wp2_with fail
  refine (A.call _).mono ?_
  rintro e w1 ⟨rfl, rfl⟩
  go_wp2_with fail
  refine (B.call _).mono ?_
  rintro e w1 ⟨rfl, rfl⟩
  go_wp2_with fail
  refine (C.call _).mono ?_
  rintro e w1 ⟨rfl, rfl⟩
  go_wp2_with fail
  have HR : Blk (w.alloc (.cells #[.float .f32 0, .float .f32 0, .float .f32 0] 26)) w.heap.size #[.float .f32 0, .float .f32 0, .float .f32 0] 26 := Blk.new _ _ _
  have hbel : Below w.heap.size w (w.alloc (.cells #[.float .f32 0, .float .f32 0, .float .f32 0] 26)) := by (repeat' (first | (with_reducible exact Below.refl _ _) | (with_reducible assumption) | (with_reducible refine Below.alloc ?_ ?_ _) | (with_reducible refine Below.drew ?_) | (with_reducible refine Below.setCell ?_ ?_ _) | (with_reducible refine Below.trans ?_ (Below.mono (by assumption) ?_)) | (with_reducible exact Nat.le_refl _) | omega | (simp only [World.size_alloc, World.size_setCell, World.size_drew]; omega) | (simp; omega) | (simp; done)))
  generalize w.alloc (.cells #[.float .f32 0, .float .f32 0, .float .f32 0] 26) = w2 at HR hbel ⊢
  go_still_tail 16, (by kernel_rfl)
  still_call (A.call _)
  repeat still_step
  still_call (B.call _)
  repeat still_step
  still_call (C.call _)
  repeat still_step
  refine wpStill_nil ?_
  change wpList _ _ _ _ _ w2.drew
  have HB1 : Blk w2.drew w.heap.size #[.float .f32 0, .float .f32 0, .float .f32 0] 26 := HR
  have hb0 : Below w.heap.size w w2.drew := hbel.drew
  generalize w2.drew = w4 at hb0 HB1 ⊢
  clear HR hbel
  have l1 := HB1.lt
  have g0 := HB1.cell 0
  have g1 := HB1.cell 1
  have g2 := HB1.cell 2
  have q0 := HB1.free 0
  have q1 := HB1.free 1
  have q2 := HB1.free 2
  simp at g0 g1 g2
  go_wp2
  (have d0 := (HB1.set (i := 0) (v := .float .f32 p)).cell 0; have d1 := ((HB1.set (i := 0) (v := .float .f32 p)).set (i := 1) (v := .float .f32 q)).cell 1; have d2 := (((HB1.set (i := 0) (v := .float .f32 p)).set (i := 1) (v := .float .f32 q)).set (i := 2) (v := .float .f32 r)).cell 2; simp only [List.setIfInBounds_toArray, List.set_cons_zero, List.set_cons_succ, List.getElem?_toArray, List.getElem?_cons_zero, List.getElem?_cons_succ] at d0 d1 d2; exact bodyPost_ret (v := .tuple #[.agg #[.float .f32 p, .float .f32 q, .float .f32 r], .bool true]) (by simp [results, Try.results39, go_sem, d0, d1, d2]) rfl ⟨rfl, by (repeat' (first | (with_reducible exact Below.refl _ _) | (with_reducible assumption) | (with_reducible refine Below.alloc ?_ ?_ _) | (with_reducible refine Below.drew ?_) | (with_reducible refine Below.setCell ?_ ?_ _) | (with_reducible refine Below.trans ?_ (Below.mono (by assumption) ?_)) | (with_reducible exact Nat.le_refl _) | omega | (simp only [World.size_alloc, World.size_setCell, World.size_drew]; omega) | (simp; omega) | (simp; done)))⟩)
end Go.Proofs.Ytljilmekmfnkbaa
