/-
  InverseColour on both sides.
-/
import Derived.Test.YtljilmekmfnkbaaCt
import Derived.Test.YtljilmekmfnkbaaCeInverse
import Derived.StillTailTactics
namespace Go.Proofs.Ytljilmekmfnkbaa
open Go.ChangeShapes Go.WideShapes Go.ChangeAt Go.RowKit Go.Joins
set_option linter.unusedSimpArgs false
set_option linter.unusedVariables false
set_option maxRecDepth 100000
attribute [local go_sem] store_f

theorem colB_parts {a b c : Nat} (ha : a < 4294967296) (hb : b < 4294967296) (hc : c < 4294967296) (h : colB a b c = true) : Part a ∧ Part b ∧ Part c := by
  unfold colB at h
  simp only [Bool.and_eq_true] at h
  exact ⟨share_part ha h.1.1, share_part hb h.1.2, share_part hc h.2⟩
theorem parts_colB {a b c : Nat} (ha : Part a) (hb : Part b) (hc : Part c) : colB a b c = true := by
  unfold colB; rw [part_share ha, part_share hb, part_share hc]; rfl

theorem inverse_i_no (a b c : Nat) (h : colB a b c = false) (w : World) :
    Calls Try.prog 23 #[colV a b c] w fun e w' => e = .returned (colV 0 0 0) ∧ Below w.heap.size w w' := by
  have K : Hid (∀ w : World, Calls Try.prog 20 #[colV a b c] w fun e w' => e = .returned (.bool false) ∧ Below w.heap.size w w') := fun w => h ▸ isColour_i a b c w
  clear h
  unfold colV at K ⊢
  go_enter Try.func23, Try.ntmps23
  go_wp2_with (go_at_call 20; refine (K.out _).mono ?_; rintro e w1 ⟨rfl, hb⟩; obtain ⟨hc, hf⟩ := bcell hb; have HL := keepL (by (repeat (first | (with_reducible assumption) | (with_reducible apply AllLt.alloc) | (with_reducible apply AllLt.setCell) | (with_reducible apply AllLt.drew) | (with_reducible exact AllLt.nil _)))) hb; have hq := HL; simp only [AllLt, and_true, World.size_alloc, World.size_setCell, World.size_drew] at hq; have hbs := hb.size; try simp only [World.size_alloc, World.size_setCell, World.size_drew] at hbs)
  (have HB : Blk w1 (w.heap.size + 1) #[.float .f32 0, .float .f32 0, .float .f32 0] 26 := (by (repeat (first | (with_reducible exact Blk.newAt (by simp; done)) | (with_reducible refine Blk.below ?_ (by assumption)) | (with_reducible refine Blk.alloc ?_) | (with_reducible refine Blk.drew ?_) | (with_reducible refine Blk.other ?_ (by dsimp only; omega))))); (have d0 := (HB.set (i := 0) (v := .float .f32 0)).cell 0; have d1 := ((HB.set (i := 0) (v := .float .f32 0)).set (i := 1) (v := .float .f32 0)).cell 1; have d2 := (((HB.set (i := 0) (v := .float .f32 0)).set (i := 1) (v := .float .f32 0)).set (i := 2) (v := .float .f32 0)).cell 2; simp only [List.setIfInBounds_toArray, List.set_cons_zero, List.set_cons_succ, List.getElem?_toArray, List.getElem?_cons_zero, List.getElem?_cons_succ] at d0 d1 d2; exact bodyPost_ret (v := .agg #[.float .f32 0, .float .f32 0, .float .f32 0]) (by simp [results, Try.results23, go_sem, d0, d1, d2]) rfl ⟨rfl, by (repeat' (first | (with_reducible exact Below.refl _ _) | (with_reducible assumption) | (with_reducible refine Below.alloc ?_ ?_ _) | (with_reducible refine Below.drew ?_) | (with_reducible refine Below.setCell ?_ ?_ _) | (with_reducible refine Below.trans ?_ (Below.mono (by assumption) ?_)) | (with_reducible exact Nat.le_refl _) | omega | (simp only [World.size_alloc, World.size_setCell, World.size_drew]; omega) | (simp; omega) | (simp; done)))⟩))

theorem inverse_i_yes (a b c : Nat) (ha : Part a) (hb : Part b) (hc : Part c) (w : World) :
    Calls Try.prog 23 #[colV a b c] w fun e w' => e = .returned (colV (subB 1065353216 a) (subB 1065353216 b) (subB 1065353216 c)) ∧ Below w.heap.size w w' := by
  have K : Hid (∀ w : World, Calls Try.prog 20 #[colV a b c] w fun e w' => e = .returned (.bool true) ∧ Below w.heap.size w w') := fun w => parts_colB ha hb hc ▸ isColour_i a b c w
  have E : Hid (∀ w : World, Calls Try.prog 57 #[.agg #[.float .f32 a, .float .f32 b, .float .f32 c], .func (.func 58) #[] #[]] w fun e w' =>
      e = .returned (.agg #[.float .f32 (subB 1065353216 a), .float .f32 (subB 1065353216 b), .float .f32 (subB 1065353216 c)]) ∧ Below w.heap.size w w') := fun w => eachInverse_i _ _ _ _ _ _ w (fun w1 _ => inversePart_i ha w1) (fun w1 _ => inversePart_i hb w1) (fun w1 _ => inversePart_i hc w1)
  clear ha hb hc
  generalize subB 1065353216 a = x at E ⊢
  generalize subB 1065353216 b = y at E ⊢
  generalize subB 1065353216 c = z at E ⊢
  have P : Hid (∀ w : World, Calls Try.prog 55 #[colV a b c] w fun e w' => e = .returned (.agg #[.float .f32 a, .float .f32 b, .float .f32 c]) ∧ Below w.heap.size w w') := fun w => partsOf_i a b c w
  have C : Hid (∀ w : World, Calls Try.prog 44 #[.agg #[.float .f32 x, .float .f32 y, .float .f32 z]] w fun e w' => e = .returned (colV x y z) ∧ Below w.heap.size w w') := fun w => colourOf_i x y z w
  unfold colV at K P C ⊢
  go_enter Try.func23, Try.ntmps23
  go_wp2_with (first | (go_at_call 20; refine (K.out _).mono ?_; rintro e w1 ⟨rfl, hb⟩; obtain ⟨hc, hf⟩ := bcell hb; have HL := keepL (by (repeat (first | (with_reducible assumption) | (with_reducible apply AllLt.alloc) | (with_reducible apply AllLt.setCell) | (with_reducible apply AllLt.drew) | (with_reducible exact AllLt.nil _)))) hb; have hq := HL; simp only [AllLt, and_true, World.size_alloc, World.size_setCell, World.size_drew] at hq; have hbs := hb.size; try simp only [World.size_alloc, World.size_setCell, World.size_drew] at hbs) | (go_at_call 55; refine (P.out _).mono ?_; rintro e w2 ⟨rfl, hb⟩; obtain ⟨hc, hf⟩ := bcell hb; have HL := keepL (by (repeat (first | (with_reducible assumption) | (with_reducible apply AllLt.alloc) | (with_reducible apply AllLt.setCell) | (with_reducible apply AllLt.drew) | (with_reducible exact AllLt.nil _)))) hb; have hq := HL; simp only [AllLt, and_true, World.size_alloc, World.size_setCell, World.size_drew] at hq; have hbs := hb.size; try simp only [World.size_alloc, World.size_setCell, World.size_drew] at hbs) | (go_at_call 57; refine (E.out _).mono ?_; rintro e w3 ⟨rfl, hb⟩; obtain ⟨hc, hf⟩ := bcell hb; have HL := keepL (by (repeat (first | (with_reducible assumption) | (with_reducible apply AllLt.alloc) | (with_reducible apply AllLt.setCell) | (with_reducible apply AllLt.drew) | (with_reducible exact AllLt.nil _)))) hb; have hq := HL; simp only [AllLt, and_true, World.size_alloc, World.size_setCell, World.size_drew] at hq; have hbs := hb.size; try simp only [World.size_alloc, World.size_setCell, World.size_drew] at hbs) | (go_at_call 44; refine (C.out _).mono ?_; rintro e w4 ⟨rfl, hb⟩; obtain ⟨hc, hf⟩ := bcell hb; have HL := keepL (by (repeat (first | (with_reducible assumption) | (with_reducible apply AllLt.alloc) | (with_reducible apply AllLt.setCell) | (with_reducible apply AllLt.drew) | (with_reducible exact AllLt.nil _)))) hb; have hq := HL; simp only [AllLt, and_true, World.size_alloc, World.size_setCell, World.size_drew] at hq; have hbs := hb.size; try simp only [World.size_alloc, World.size_setCell, World.size_drew] at hbs))
  (have HB : Blk w4 (w.heap.size + 1) #[.float .f32 0, .float .f32 0, .float .f32 0] 26 := (by (repeat (first | (with_reducible exact Blk.newAt (by simp; done)) | (with_reducible refine Blk.below ?_ (by assumption)) | (with_reducible refine Blk.alloc ?_) | (with_reducible refine Blk.drew ?_) | (with_reducible refine Blk.other ?_ (by dsimp only; omega))))); (have d0 := (HB.set (i := 0) (v := .float .f32 x)).cell 0; have d1 := ((HB.set (i := 0) (v := .float .f32 x)).set (i := 1) (v := .float .f32 y)).cell 1; have d2 := (((HB.set (i := 0) (v := .float .f32 x)).set (i := 1) (v := .float .f32 y)).set (i := 2) (v := .float .f32 z)).cell 2; simp only [List.setIfInBounds_toArray, List.set_cons_zero, List.set_cons_succ, List.getElem?_toArray, List.getElem?_cons_zero, List.getElem?_cons_succ] at d0 d1 d2; exact bodyPost_ret (v := .agg #[.float .f32 x, .float .f32 y, .float .f32 z]) (by simp [results, Try.results23, go_sem, d0, d1, d2]) rfl ⟨rfl, by (repeat' (first | (with_reducible exact Below.refl _ _) | (with_reducible assumption) | (with_reducible refine Below.alloc ?_ ?_ _) | (with_reducible refine Below.drew ?_) | (with_reducible refine Below.setCell ?_ ?_ _) | (with_reducible refine Below.trans ?_ (Below.mono (by assumption) ?_)) | (with_reducible exact Nat.le_refl _) | omega | (simp only [World.size_alloc, World.size_setCell, World.size_drew]; omega) | (simp; omega) | (simp; done)))⟩))

theorem inverse_s_no (a b c : Nat) (ha : a < 4294967296) (hb : b < 4294967296) (hc : c < 4294967296) (h : colB a b c = false) (w : World) :
    Calls Try.prog 33 #[colV a b c] w fun e w' => e = .returned (colV 0 0 0) ∧ Below w.heap.size w w' := by
  have K : Hid (∀ w : World, Calls Try.prog 28 #[colV a b c] w fun e w' => e = .returned (.bool false) ∧ Below w.heap.size w w') := fun w => h ▸ isColour_s a b c ha hb hc w
  clear h ha hb hc
  unfold colV at K ⊢
  go_enter Try.func33, Try.ntmps33
  go_wp2_with (go_at_call 28; refine (K.out _).mono ?_; rintro e w1 ⟨rfl, hb⟩; obtain ⟨hc, hf⟩ := bcell hb; have HL := keepL (by (repeat (first | (with_reducible assumption) | (with_reducible apply AllLt.alloc) | (with_reducible apply AllLt.setCell) | (with_reducible apply AllLt.drew) | (with_reducible exact AllLt.nil _)))) hb; have hq := HL; simp only [AllLt, and_true, World.size_alloc, World.size_setCell, World.size_drew] at hq; have hbs := hb.size; try simp only [World.size_alloc, World.size_setCell, World.size_drew] at hbs)
  (have HB : Blk w1 (w.heap.size + 1) #[.float .f32 0, .float .f32 0, .float .f32 0] 26 := (by (repeat (first | (with_reducible exact Blk.newAt (by simp; done)) | (with_reducible refine Blk.below ?_ (by assumption)) | (with_reducible refine Blk.alloc ?_) | (with_reducible refine Blk.drew ?_) | (with_reducible refine Blk.other ?_ (by dsimp only; omega))))); (have d0 := (HB.set (i := 0) (v := .float .f32 0)).cell 0; have d1 := ((HB.set (i := 0) (v := .float .f32 0)).set (i := 1) (v := .float .f32 0)).cell 1; have d2 := (((HB.set (i := 0) (v := .float .f32 0)).set (i := 1) (v := .float .f32 0)).set (i := 2) (v := .float .f32 0)).cell 2; simp only [List.setIfInBounds_toArray, List.set_cons_zero, List.set_cons_succ, List.getElem?_toArray, List.getElem?_cons_zero, List.getElem?_cons_succ] at d0 d1 d2; exact bodyPost_ret (v := .agg #[.float .f32 0, .float .f32 0, .float .f32 0]) (by simp [results, Try.results33, go_sem, d0, d1, d2]) rfl ⟨rfl, by (repeat' (first | (with_reducible exact Below.refl _ _) | (with_reducible assumption) | (with_reducible refine Below.alloc ?_ ?_ _) | (with_reducible refine Below.drew ?_) | (with_reducible refine Below.setCell ?_ ?_ _) | (with_reducible refine Below.trans ?_ (Below.mono (by assumption) ?_)) | (with_reducible exact Nat.le_refl _) | omega | (simp only [World.size_alloc, World.size_setCell, World.size_drew]; omega) | (simp; omega) | (simp; done)))⟩))

/-- A call of l1Minus that is known. -/
structure Minus (a b r : Nat) : Prop where
  call : ∀ w : World, Calls Try.prog 74 #[.float .f32 a, .float .f32 b] w fun e w' => e = .returned (.float .f32 r) ∧ w' = w
structure Times (a b r : Nat) : Prop where
  call : ∀ w : World, Calls Try.prog 73 #[.float .f32 a, .float .f32 b] w fun e w' => e = .returned (.float .f32 r) ∧ w' = w

theorem inverse_s_yes (a b c : Nat) (ha : Part a) (hb : Part b) (hc : Part c) (w : World) :
    Calls Try.prog 33 #[colV a b c] w fun e w' => e = .returned (colV (subB 1065353216 a) (subB 1065353216 b) (subB 1065353216 c)) ∧ Below w.heap.size w w' := by
  have K : Hid (∀ w : World, Calls Try.prog 28 #[colV a b c] w fun e w' => e = .returned (.bool true) ∧ Below w.heap.size w w') := fun w => parts_colB ha hb hc ▸ isColour_s a b c ha.lt hb.lt hc.lt w
  have A : Minus 1065353216 a (subB 1065353216 a) := ⟨fun w => l1Minus_p part_one ha w⟩
  have B : Minus 1065353216 b (subB 1065353216 b) := ⟨fun w => l1Minus_p part_one hb w⟩
  have C : Minus 1065353216 c (subB 1065353216 c) := ⟨fun w => l1Minus_p part_one hc w⟩
  clear ha hb hc
  generalize subB 1065353216 a = x at A ⊢
  generalize subB 1065353216 b = y at B ⊢
  generalize subB 1065353216 c = z at C ⊢
  unfold colV at K ⊢
  go_enter Try.func33, Try.ntmps33
  go_wp2_with (go_at_call 28; refine (K.out _).mono ?_; rintro e w1 ⟨rfl, hb⟩; obtain ⟨hc, hf⟩ := bcell hb; have HL := keepL (by (repeat (first | (with_reducible assumption) | (with_reducible apply AllLt.alloc) | (with_reducible apply AllLt.setCell) | (with_reducible apply AllLt.drew) | (with_reducible exact AllLt.nil _)))) hb; have hq := HL; simp only [AllLt, and_true, World.size_alloc, World.size_setCell, World.size_drew] at hq; have hbs := hb.size; try simp only [World.size_alloc, World.size_setCell, World.size_drew] at hbs)
  go_still_tail 10, (by kernel_rfl)
  still_call (A.call _)
  repeat still_step
  still_call (B.call _)
  repeat still_step
  still_call (C.call _)
  repeat still_step
  refine wpStill_nil ?_
  change wpList _ _ _ _ _ w1.drew
  have HB1 : Blk w1.drew (w.heap.size + 1) #[.float .f32 0, .float .f32 0, .float .f32 0] 26 := by (repeat (first | (with_reducible exact Blk.newAt (by simp; done)) | (with_reducible refine Blk.below ?_ (by assumption)) | (with_reducible refine Blk.alloc ?_) | (with_reducible refine Blk.drew ?_) | (with_reducible refine Blk.other ?_ (by dsimp only; omega))))
  have hb0 : Below w.heap.size w w1.drew := by (repeat' (first | (with_reducible exact Below.refl _ _) | (with_reducible assumption) | (with_reducible refine Below.alloc ?_ ?_ _) | (with_reducible refine Below.drew ?_) | (with_reducible refine Below.setCell ?_ ?_ _) | (with_reducible refine Below.trans ?_ (Below.mono (by assumption) ?_)) | (with_reducible exact Nat.le_refl _) | omega | (simp only [World.size_alloc, World.size_setCell, World.size_drew]; omega) | (simp; omega) | (simp; done)))
  generalize w1.drew = w2 at hb0 HB1 ⊢
  have l1 := HB1.lt
  have g0 := HB1.cell 0
  have g1 := HB1.cell 1
  have g2 := HB1.cell 2
  have q0 := HB1.free 0
  have q1 := HB1.free 1
  have q2 := HB1.free 2
  simp at g0 g1 g2
  go_wp2
  (have d0 := (HB1.set (i := 0) (v := .float .f32 x)).cell 0; have d1 := ((HB1.set (i := 0) (v := .float .f32 x)).set (i := 1) (v := .float .f32 y)).cell 1; have d2 := (((HB1.set (i := 0) (v := .float .f32 x)).set (i := 1) (v := .float .f32 y)).set (i := 2) (v := .float .f32 z)).cell 2; simp only [List.setIfInBounds_toArray, List.set_cons_zero, List.set_cons_succ, List.getElem?_toArray, List.getElem?_cons_zero, List.getElem?_cons_succ] at d0 d1 d2; exact bodyPost_ret (v := .agg #[.float .f32 x, .float .f32 y, .float .f32 z]) (by simp [results, Try.results33, go_sem, d0, d1, d2]) rfl ⟨rfl, by (repeat' (first | (with_reducible exact Below.refl _ _) | (with_reducible assumption) | (with_reducible refine Below.alloc ?_ ?_ _) | (with_reducible refine Below.drew ?_) | (with_reducible refine Below.setCell ?_ ?_ _) | (with_reducible refine Below.trans ?_ (Below.mono (by assumption) ?_)) | (with_reducible exact Nat.le_refl _) | omega | (simp only [World.size_alloc, World.size_setCell, World.size_drew]; omega) | (simp; omega) | (simp; done)))⟩)
end Go.Proofs.Ytljilmekmfnkbaa
