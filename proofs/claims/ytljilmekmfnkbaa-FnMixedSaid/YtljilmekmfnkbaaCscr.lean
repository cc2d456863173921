/-
  ScreenColours on both sides.
-/
import Derived.Test.YtljilmekmfnkbaaCfil
import Derived.Deep.RegionHeld3
import Derived.Deep.DeepCutAuto
namespace Go.Proofs.Ytljilmekmfnkbaa
open Go.ChangeShapes Go.WideShapes Go.ChangeAt Go.RowKit Go.Joins
set_option linter.unusedSimpArgs false
set_option linter.unusedVariables false
set_option maxRecDepth 100000
attribute [local go_sem] store_f

theorem screen_i_no (a b c x y z : Nat) (h : (colB a b c && colB x y z) = false) (w : World) :
    Calls Try.prog 21 #[colV a b c, colV x y z] w fun e w' => e = .returned (colV 0 0 0) ∧ Below w.heap.size w w' := by
  have K : Hid (∀ w : World, Calls Try.prog 43 #[colV a b c, colV x y z] w fun e w' => e = .returned (.bool false) ∧ Below w.heap.size w w') := fun w => h ▸ areColours_i a b c x y z w
  clear h
  unfold colV at K ⊢
  go_enter Try.func21, Try.ntmps21
  go_wp2_with (go_at_call 43; refine (K.out _).mono ?_; rintro e w1 ⟨rfl, hb⟩; obtain ⟨hc, hf⟩ := bcell hb; have HL := keepL (by (repeat (first | (with_reducible assumption) | (with_reducible apply AllLt.alloc) | (with_reducible apply AllLt.setCell) | (with_reducible apply AllLt.drew) | (with_reducible exact AllLt.nil _)))) hb; have hq := HL; simp only [AllLt, and_true, World.size_alloc, World.size_setCell, World.size_drew] at hq; have hbs := hb.size; try simp only [World.size_alloc, World.size_setCell, World.size_drew] at hbs)
  (have HB : Blk w1 (w.heap.size + 2) #[.float .f32 0, .float .f32 0, .float .f32 0] 26 := (by (repeat (first | (with_reducible exact Blk.newAt (by simp; done)) | (with_reducible refine Blk.below ?_ (by assumption)) | (with_reducible refine Blk.alloc ?_) | (with_reducible refine Blk.drew ?_) | (with_reducible refine Blk.other ?_ (by dsimp only; omega))))); (have d0 := (HB.set (i := 0) (v := .float .f32 0)).cell 0; have d1 := ((HB.set (i := 0) (v := .float .f32 0)).set (i := 1) (v := .float .f32 0)).cell 1; have d2 := (((HB.set (i := 0) (v := .float .f32 0)).set (i := 1) (v := .float .f32 0)).set (i := 2) (v := .float .f32 0)).cell 2; simp only [List.setIfInBounds_toArray, List.set_cons_zero, List.set_cons_succ, List.getElem?_toArray, List.getElem?_cons_zero, List.getElem?_cons_succ] at d0 d1 d2; exact bodyPost_ret (v := .agg #[.float .f32 0, .float .f32 0, .float .f32 0]) (by simp [results, Try.results21, go_sem, d0, d1, d2]) rfl ⟨rfl, by (repeat' (first | (with_reducible exact Below.refl _ _) | (with_reducible assumption) | (with_reducible refine Below.alloc ?_ ?_ _) | (with_reducible refine Below.drew ?_) | (with_reducible refine Below.setCell ?_ ?_ _) | (with_reducible refine Below.trans ?_ (Below.mono (by assumption) ?_)) | (with_reducible exact Nat.le_refl _) | omega | (simp only [World.size_alloc, World.size_setCell, World.size_drew]; omega) | (simp; omega) | (simp; done)))⟩))

/-- Known calls of InverseColour and of FilterColour. -/
structure InvI (a b c x y z : Nat) : Prop where
  call : ∀ w : World, Calls Try.prog 23 #[.agg #[.float .f32 a, .float .f32 b, .float .f32 c]] w fun e w' => e = .returned (.agg #[.float .f32 x, .float .f32 y, .float .f32 z]) ∧ Below w.heap.size w w'
structure FilI (a b c x y z p q r : Nat) : Prop where
  call : ∀ w : World, Calls Try.prog 18 #[.agg #[.float .f32 a, .float .f32 b, .float .f32 c], .agg #[.float .f32 x, .float .f32 y, .float .f32 z]] w fun e w' => e = .returned (.agg #[.float .f32 p, .float .f32 q, .float .f32 r]) ∧ Below w.heap.size w w'
structure AreI (a b c x y z : Nat) (p : Bool) : Prop where
  call : ∀ w : World, Calls Try.prog 43 #[.agg #[.float .f32 a, .float .f32 b, .float .f32 c], .agg #[.float .f32 x, .float .f32 y, .float .f32 z]] w fun e w' => e = .returned (.bool p) ∧ Below w.heap.size w w'

set_option maxHeartbeats 1600000 in
theorem screen_i_of (a b c x y z a1 b1 c1 x1 y1 z1 p q r p1 q1 r1 : Nat) (w : World) (A : AreI a b c x y z true)
    (I1 : InvI a b c a1 b1 c1) (I2 : InvI x y z x1 y1 z1) (F : FilI a1 b1 c1 x1 y1 z1 p q r) (I3 : InvI p q r p1 q1 r1) :
    Calls Try.prog 21 #[.agg #[.float .f32 a, .float .f32 b, .float .f32 c], .agg #[.float .f32 x, .float .f32 y, .float .f32 z]] w fun e w' => e = .returned (.agg #[.float .f32 p1, .float .f32 q1, .float .f32 r1]) ∧ Below w.heap.size w w' := by
  go_enter Try.func21, Try.ntmps21
  go_upto_region 3 with (go_at_call 43; refine (A.call _).mono ?_; rintro e w1 ⟨rfl, hb⟩; obtain ⟨hc, hf⟩ := bcell hb; have HL := keepL (by (repeat (first | (with_reducible assumption) | (with_reducible apply AllLt.alloc) | (with_reducible apply AllLt.setCell) | (with_reducible apply AllLt.drew) | (with_reducible exact AllLt.nil _)))) hb; have hq := HL; simp only [AllLt, and_true, World.size_alloc, World.size_setCell, World.size_drew] at hq; have hbs := hb.size; try simp only [World.size_alloc, World.size_setCell, World.size_drew] at hbs)
  have HR : Blk w1 (w.heap.size + 2) #[.float .f32 0, .float .f32 0, .float .f32 0] 26 := by (repeat (first | (with_reducible exact Blk.newAt (by simp; done)) | (with_reducible refine Blk.below ?_ (by assumption)) | (with_reducible refine Blk.alloc ?_) | (with_reducible refine Blk.drew ?_) | (with_reducible refine Blk.other ?_ (by dsimp only; omega))))
  have HA1 : Blk w1 w.heap.size #[.float .f32 a, .float .f32 b, .float .f32 c] 26 := by (repeat (first | (with_reducible exact Blk.newAt (by simp; done)) | (with_reducible refine Blk.below ?_ (by assumption)) | (with_reducible refine Blk.alloc ?_) | (with_reducible refine Blk.drew ?_) | (with_reducible refine Blk.other ?_ (by dsimp only; omega))))
  have HA2 : Blk w1 (w.heap.size + 1) #[.float .f32 x, .float .f32 y, .float .f32 z] 26 := by (repeat (first | (with_reducible exact Blk.newAt (by simp; done)) | (with_reducible refine Blk.below ?_ (by assumption)) | (with_reducible refine Blk.alloc ?_) | (with_reducible refine Blk.drew ?_) | (with_reducible refine Blk.other ?_ (by dsimp only; omega))))
  have hbw : Below w.heap.size w w1 := by (repeat' (first | (with_reducible exact Below.refl _ _) | (with_reducible assumption) | (with_reducible refine Below.alloc ?_ ?_ _) | (with_reducible refine Below.drew ?_) | (with_reducible refine Below.setCell ?_ ?_ _) | (with_reducible refine Below.trans ?_ (Below.mono (by assumption) ?_)) | (with_reducible exact Nat.le_refl _) | omega | (simp only [World.size_alloc, World.size_setCell, World.size_drew]; omega) | (simp; omega) | (simp; done)))
  have c10 := HA1.cell 0
  have c11 := HA1.cell 1
  have c12 := HA1.cell 2
  have c20 := HA2.cell 0
  have c21 := HA2.cell 1
  have c22 := HA2.cell 2
  simp at c10 c11 c12 c20 c21 c22
  clear hb hc hf HL hq hbs
  have l1 := HR.lt
  have g0 := HR.cell 0
  have g1 := HR.cell 1
  have g2 := HR.cell 2
  have q0 := HR.free 0
  have q1' := HR.free 1
  have q2 := HR.free 2
  simp at g0 g1 g2
  have H1 : Hid (Blk w1 w.heap.size #[.float .f32 a, .float .f32 b, .float .f32 c] 26) := HA1
  have H2 : Hid (Blk w1 (w.heap.size + 1) #[.float .f32 x, .float .f32 y, .float .f32 z] 26) := HA2
  have H3 : Hid (Blk w1 (w.heap.size + 2) #[.float .f32 0, .float .f32 0, .float .f32 0] 26) := HR
  clear HA1 HA2 HR
  have HW : Hid (Below w.heap.size w w1) := hbw
  clear hbw
  go_region_with (first | (go_at_call 23; (with_reducible refine (I1.call _).mono ?_); rintro e w2 ⟨rfl, hb2⟩; have X2 : Blk w2 (w.heap.size + 1) #[.float .f32 x, .float .f32 y, .float .f32 z] 26 := Blk.belowAt hb2 (show Blk w1.drew (w.heap.size + 1) #[.float .f32 x, .float .f32 y, .float .f32 z] 26 from H2.out); have R2 : Blk w2 (w.heap.size + 2) #[.float .f32 0, .float .f32 0, .float .f32 0] 26 := Blk.belowAt hb2 (show Blk w1.drew (w.heap.size + 2) #[.float .f32 0, .float .f32 0, .float .f32 0] 26 from H3.out); have d20 := Blk.cellAt (i := 0) X2 rfl; have d21 := Blk.cellAt (i := 1) X2 rfl; have d22 := Blk.cellAt (i := 2) X2 rfl; have B2 : Hid (Below w.heap.size w w2) := Below.trans (Below.drew HW.out) (Below.mono hb2 HW.out.size); have R2 : Hid (Blk w2 (w.heap.size + 2) #[.float .f32 0, .float .f32 0, .float .f32 0] 26) := R2; clear X2 hb2) | (go_at_call 23; (with_reducible refine (I2.call _).mono ?_); rintro e w3 ⟨rfl, hb3⟩; have R3 : Blk w3 (w.heap.size + 2) #[.float .f32 0, .float .f32 0, .float .f32 0] 26 := Blk.belowAt hb3 R2.out; have B3 : Hid (Below w.heap.size w w3) := Below.trans B2.out (Below.mono hb3 B2.out.size); clear hb3; have R3 : Hid (Blk w3 (w.heap.size + 2) #[.float .f32 0, .float .f32 0, .float .f32 0] 26) := R3) | (go_at_call 18; (with_reducible refine (F.call _).mono ?_); rintro e w4 ⟨rfl, hb4⟩; have R4 : Blk w4 (w.heap.size + 2) #[.float .f32 0, .float .f32 0, .float .f32 0] 26 := Blk.belowAt hb4 R3.out; have B4 : Hid (Below w.heap.size w w4) := Below.trans B3.out (Below.mono hb4 B3.out.size); clear hb4; have R4 : Hid (Blk w4 (w.heap.size + 2) #[.float .f32 0, .float .f32 0, .float .f32 0] 26) := R4) | (go_at_call 23; (with_reducible refine (I3.call _).mono ?_); rintro e w5 ⟨rfl, hb5⟩; have R5 : Blk w5 (w.heap.size + 2) #[.float .f32 0, .float .f32 0, .float .f32 0] 26 := Blk.belowAt hb5 R4.out; have B5 : Hid (Below w.heap.size w w5) := Below.trans B4.out (Below.mono hb5 B4.out.size); clear hb5; have g50 := Blk.cellAt (i := 0) R5 rfl; have g51 := Blk.cellAt (i := 1) R5 rfl; have g52 := Blk.cellAt (i := 2) R5 rfl; have q50 := Blk.freeAt (i := 0) R5; have q51 := Blk.freeAt (i := 1) R5; have q52 := Blk.freeAt (i := 2) R5; have R5 : Hid (Blk w5 (w.heap.size + 2) #[.float .f32 0, .float .f32 0, .float .f32 0] 26) := R5))
  all_goals (go_wp2; have hbel5 : Below w.heap.size w w5 := B5.out; (have d0 := (R5.out.set (i := 0) (v := .float .f32 p1)).cell 0; have d1 := ((R5.out.set (i := 0) (v := .float .f32 p1)).set (i := 1) (v := .float .f32 q1)).cell 1; have d2 := (((R5.out.set (i := 0) (v := .float .f32 p1)).set (i := 1) (v := .float .f32 q1)).set (i := 2) (v := .float .f32 r1)).cell 2; simp only [List.setIfInBounds_toArray, List.set_cons_zero, List.set_cons_succ, List.getElem?_toArray, List.getElem?_cons_zero, List.getElem?_cons_succ] at d0 d1 d2; exact bodyPost_ret (v := .agg #[.float .f32 p1, .float .f32 q1, .float .f32 r1]) (by simp [results, Try.results21, go_sem, d0, d1, d2]) rfl ⟨rfl, by (repeat' (first | (with_reducible exact Below.refl _ _) | (with_reducible assumption) | (with_reducible refine Below.alloc ?_ ?_ _) | (with_reducible refine Below.drew ?_) | (with_reducible refine Below.setCell ?_ ?_ _) | (with_reducible refine Below.trans ?_ (Below.mono (by assumption) ?_)) | (with_reducible exact Nat.le_refl _) | omega | (simp only [World.size_alloc, World.size_setCell, World.size_drew]; omega) | (simp; omega) | (simp; done)))⟩))
end Go.Proofs.Ytljilmekmfnkbaa
