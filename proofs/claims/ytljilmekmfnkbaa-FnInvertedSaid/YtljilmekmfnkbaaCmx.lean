/-
  MixColours on both sides.
-/
import Derived.Test.YtljilmekmfnkbaaCmix
namespace Go.Proofs.Ytljilmekmfnkbaa
open Go.ChangeShapes Go.WideShapes Go.ChangeAt Go.RowKit Go.Joins
set_option linter.unusedSimpArgs false
set_option linter.unusedVariables false
set_option maxRecDepth 100000
attribute [local go_sem] store_f

structure AreC (a b c x y z : Nat) (p : Bool) : Prop where
  call : ∀ w : World, Calls Try.prog 43 #[.agg #[.float .f32 a, .float .f32 b, .float .f32 c], .agg #[.float .f32 x, .float .f32 y, .float .f32 z]] w fun e w' => e = .returned (.bool p) ∧ Below w.heap.size w w'
structure ShaI (k : Nat) (p : Bool) : Prop where
  call : ∀ w : World, Calls Try.prog 48 #[.float .f32 k] w fun e w' => e = .returned (.bool p) ∧ w' = w
structure ShaS (k : Nat) (p : Bool) : Prop where
  call : ∀ w : World, Calls Try.prog 71 #[.float .f32 k] w fun e w' => e = .returned (.bool p) ∧ Below w.heap.size w w'

theorem mix_i_no1 (a b c x y z k : Nat) (K : AreC a b c x y z false) (w : World) :
    Calls Try.prog 19 #[colV a b c, colV x y z, .float .f32 k] w fun e w' => e = .returned (colV 0 0 0) ∧ Below w.heap.size w w' := by
  unfold colV
  go_enter Try.func19, Try.ntmps19
  go_wp2_with (go_at_call 43; refine (K.call _).mono ?_; rintro e w1 ⟨rfl, hb⟩; obtain ⟨hc, hf⟩ := bcell hb; have HL := keepL (by (repeat (first | (with_reducible assumption) | (with_reducible apply AllLt.alloc) | (with_reducible apply AllLt.setCell) | (with_reducible apply AllLt.drew) | (with_reducible exact AllLt.nil _)))) hb; have hq := HL; simp only [AllLt, and_true, World.size_alloc, World.size_setCell, World.size_drew] at hq; have hbs := hb.size; try simp only [World.size_alloc, World.size_setCell, World.size_drew] at hbs)
  (have HB : Blk w1 (w.heap.size + 2) #[.float .f32 0, .float .f32 0, .float .f32 0] 26 := (by (repeat (first | (with_reducible exact Blk.newAt (by simp; done)) | (with_reducible refine Blk.below ?_ (by assumption)) | (with_reducible refine Blk.alloc ?_) | (with_reducible refine Blk.drew ?_) | (with_reducible refine Blk.other ?_ (by dsimp only; omega))))); (have d0 := (HB.set (i := 0) (v := .float .f32 0)).cell 0; have d1 := ((HB.set (i := 0) (v := .float .f32 0)).set (i := 1) (v := .float .f32 0)).cell 1; have d2 := (((HB.set (i := 0) (v := .float .f32 0)).set (i := 1) (v := .float .f32 0)).set (i := 2) (v := .float .f32 0)).cell 2; simp only [List.setIfInBounds_toArray, List.set_cons_zero, List.set_cons_succ, List.getElem?_toArray, List.getElem?_cons_zero, List.getElem?_cons_succ] at d0 d1 d2; exact bodyPost_ret (v := .agg #[.float .f32 0, .float .f32 0, .float .f32 0]) (by simp [results, Try.results19, go_sem, d0, d1, d2]) rfl ⟨rfl, by (repeat' (first | (with_reducible exact Below.refl _ _) | (with_reducible assumption) | (with_reducible refine Below.alloc ?_ ?_ _) | (with_reducible refine Below.drew ?_) | (with_reducible refine Below.setCell ?_ ?_ _) | (with_reducible refine Below.trans ?_ (Below.mono (by assumption) ?_)) | (with_reducible exact Nat.le_refl _) | omega | (simp only [World.size_alloc, World.size_setCell, World.size_drew]; omega) | (simp; omega) | (simp; done)))⟩))

theorem mix_i_no2 (a b c x y z k : Nat) (K : AreC a b c x y z true) (S : ShaI k false) (w : World) :
    Calls Try.prog 19 #[colV a b c, colV x y z, .float .f32 k] w fun e w' => e = .returned (colV 0 0 0) ∧ Below w.heap.size w w' := by
  unfold colV
  go_enter Try.func19, Try.ntmps19
  go_wp2_with (first | (go_at_call 43; refine (K.call _).mono ?_; rintro e w1 ⟨rfl, hb⟩; obtain ⟨hc, hf⟩ := bcell hb; have HL := keepL (by (repeat (first | (with_reducible assumption) | (with_reducible apply AllLt.alloc) | (with_reducible apply AllLt.setCell) | (with_reducible apply AllLt.drew) | (with_reducible exact AllLt.nil _)))) hb; have hq := HL; simp only [AllLt, and_true, World.size_alloc, World.size_setCell, World.size_drew] at hq; have hbs := hb.size; try simp only [World.size_alloc, World.size_setCell, World.size_drew] at hbs) | (go_at_call 48; refine (S.call _).mono ?_; rintro e w2 ⟨rfl, rfl⟩))
  (have HB : Blk w2 (w.heap.size + 2) #[.float .f32 0, .float .f32 0, .float .f32 0] 26 := (by (repeat (first | (with_reducible exact Blk.newAt (by simp; done)) | (with_reducible refine Blk.below ?_ (by assumption)) | (with_reducible refine Blk.alloc ?_) | (with_reducible refine Blk.drew ?_) | (with_reducible refine Blk.other ?_ (by dsimp only; omega))))); (have d0 := (HB.set (i := 0) (v := .float .f32 0)).cell 0; have d1 := ((HB.set (i := 0) (v := .float .f32 0)).set (i := 1) (v := .float .f32 0)).cell 1; have d2 := (((HB.set (i := 0) (v := .float .f32 0)).set (i := 1) (v := .float .f32 0)).set (i := 2) (v := .float .f32 0)).cell 2; simp only [List.setIfInBounds_toArray, List.set_cons_zero, List.set_cons_succ, List.getElem?_toArray, List.getElem?_cons_zero, List.getElem?_cons_succ] at d0 d1 d2; exact bodyPost_ret (v := .agg #[.float .f32 0, .float .f32 0, .float .f32 0]) (by simp [results, Try.results19, go_sem, d0, d1, d2]) rfl ⟨rfl, by (repeat' (first | (with_reducible exact Below.refl _ _) | (with_reducible assumption) | (with_reducible refine Below.alloc ?_ ?_ _) | (with_reducible refine Below.drew ?_) | (with_reducible refine Below.setCell ?_ ?_ _) | (with_reducible refine Below.trans ?_ (Below.mono (by assumption) ?_)) | (with_reducible exact Nat.le_refl _) | omega | (simp only [World.size_alloc, World.size_setCell, World.size_drew]; omega) | (simp; omega) | (simp; done)))⟩))

theorem mix_s_no1 (a b c x y z k : Nat) (K : IsCol a b c false) (w : World) :
    Calls Try.prog 30 #[colV a b c, colV x y z, .float .f32 k] w fun e w' => e = .returned (colV 0 0 0) ∧ Below w.heap.size w w' := by
  unfold colV
  go_enter Try.func30, Try.ntmps30
  go_wp2_with (go_at_call 28; refine (K.call _).mono ?_; rintro e w1 ⟨rfl, hb⟩; obtain ⟨hc, hf⟩ := bcell hb; have HL := keepL (by (repeat (first | (with_reducible assumption) | (with_reducible apply AllLt.alloc) | (with_reducible apply AllLt.setCell) | (with_reducible apply AllLt.drew) | (with_reducible exact AllLt.nil _)))) hb; have hq := HL; simp only [AllLt, and_true, World.size_alloc, World.size_setCell, World.size_drew] at hq; have hbs := hb.size; try simp only [World.size_alloc, World.size_setCell, World.size_drew] at hbs)
  (have HB : Blk w1 (w.heap.size + 2) #[.float .f32 0, .float .f32 0, .float .f32 0] 26 := (by (repeat (first | (with_reducible exact Blk.newAt (by simp; done)) | (with_reducible refine Blk.below ?_ (by assumption)) | (with_reducible refine Blk.alloc ?_) | (with_reducible refine Blk.drew ?_) | (with_reducible refine Blk.other ?_ (by dsimp only; omega))))); (have d0 := (HB.set (i := 0) (v := .float .f32 0)).cell 0; have d1 := ((HB.set (i := 0) (v := .float .f32 0)).set (i := 1) (v := .float .f32 0)).cell 1; have d2 := (((HB.set (i := 0) (v := .float .f32 0)).set (i := 1) (v := .float .f32 0)).set (i := 2) (v := .float .f32 0)).cell 2; simp only [List.setIfInBounds_toArray, List.set_cons_zero, List.set_cons_succ, List.getElem?_toArray, List.getElem?_cons_zero, List.getElem?_cons_succ] at d0 d1 d2; exact bodyPost_ret (v := .agg #[.float .f32 0, .float .f32 0, .float .f32 0]) (by simp [results, Try.results30, go_sem, d0, d1, d2]) rfl ⟨rfl, by (repeat' (first | (with_reducible exact Below.refl _ _) | (with_reducible assumption) | (with_reducible refine Below.alloc ?_ ?_ _) | (with_reducible refine Below.drew ?_) | (with_reducible refine Below.setCell ?_ ?_ _) | (with_reducible refine Below.trans ?_ (Below.mono (by assumption) ?_)) | (with_reducible exact Nat.le_refl _) | omega | (simp only [World.size_alloc, World.size_setCell, World.size_drew]; omega) | (simp; omega) | (simp; done)))⟩))

theorem mix_s_no2 (a b c x y z k : Nat) (K : IsCol a b c true) (K2 : IsCol x y z false) (w : World) :
    Calls Try.prog 30 #[colV a b c, colV x y z, .float .f32 k] w fun e w' => e = .returned (colV 0 0 0) ∧ Below w.heap.size w w' := by
  unfold colV
  go_enter Try.func30, Try.ntmps30
  go_wp2_with fail
  go_at_call 28
  refine (K.call _).mono ?_
  rintro e w1 ⟨rfl, hb⟩
  obtain ⟨hc, hf⟩ := bcell hb; have HL := keepL (by (repeat (first | (with_reducible assumption) | (with_reducible apply AllLt.alloc) | (with_reducible apply AllLt.setCell) | (with_reducible apply AllLt.drew) | (with_reducible exact AllLt.nil _)))) hb; have hq := HL; simp only [AllLt, and_true, World.size_alloc, World.size_setCell, World.size_drew] at hq; have hbs := hb.size; try simp only [World.size_alloc, World.size_setCell, World.size_drew] at hbs
  go_wp2_with (go_at_call 28; refine (K2.call _).mono ?_; rintro e w2 ⟨rfl, hb⟩; obtain ⟨hc, hf⟩ := bcell hb; have HL := keepL (by (repeat (first | (with_reducible assumption) | (with_reducible apply AllLt.alloc) | (with_reducible apply AllLt.setCell) | (with_reducible apply AllLt.drew) | (with_reducible exact AllLt.nil _)))) hb; have hq := HL; simp only [AllLt, and_true, World.size_alloc, World.size_setCell, World.size_drew] at hq; have hbs := hb.size; try simp only [World.size_alloc, World.size_setCell, World.size_drew] at hbs)
  (have HB : Blk w2 (w.heap.size + 2) #[.float .f32 0, .float .f32 0, .float .f32 0] 26 := (by (repeat (first | (with_reducible exact Blk.newAt (by simp; done)) | (with_reducible refine Blk.below ?_ (by assumption)) | (with_reducible refine Blk.alloc ?_) | (with_reducible refine Blk.drew ?_) | (with_reducible refine Blk.other ?_ (by dsimp only; omega))))); (have d0 := (HB.set (i := 0) (v := .float .f32 0)).cell 0; have d1 := ((HB.set (i := 0) (v := .float .f32 0)).set (i := 1) (v := .float .f32 0)).cell 1; have d2 := (((HB.set (i := 0) (v := .float .f32 0)).set (i := 1) (v := .float .f32 0)).set (i := 2) (v := .float .f32 0)).cell 2; simp only [List.setIfInBounds_toArray, List.set_cons_zero, List.set_cons_succ, List.getElem?_toArray, List.getElem?_cons_zero, List.getElem?_cons_succ] at d0 d1 d2; exact bodyPost_ret (v := .agg #[.float .f32 0, .float .f32 0, .float .f32 0]) (by simp [results, Try.results30, go_sem, d0, d1, d2]) rfl ⟨rfl, by (repeat' (first | (with_reducible exact Below.refl _ _) | (with_reducible assumption) | (with_reducible refine Below.alloc ?_ ?_ _) | (with_reducible refine Below.drew ?_) | (with_reducible refine Below.setCell ?_ ?_ _) | (with_reducible refine Below.trans ?_ (Below.mono (by assumption) ?_)) | (with_reducible exact Nat.le_refl _) | omega | (simp only [World.size_alloc, World.size_setCell, World.size_drew]; omega) | (simp; omega) | (simp; done)))⟩))

theorem mix_s_no3 (a b c x y z k : Nat) (K : IsCol a b c true) (K2 : IsCol x y z true) (S : ShaS k false) (w : World) :
    Calls Try.prog 30 #[colV a b c, colV x y z, .float .f32 k] w fun e w' => e = .returned (colV 0 0 0) ∧ Below w.heap.size w w' := by
  unfold colV
  go_enter Try.func30, Try.ntmps30
  go_wp2_with fail
  go_at_call 28
  refine (K.call _).mono ?_
  rintro e w1 ⟨rfl, hb⟩
  obtain ⟨hc, hf⟩ := bcell hb; have HL := keepL (by (repeat (first | (with_reducible assumption) | (with_reducible apply AllLt.alloc) | (with_reducible apply AllLt.setCell) | (with_reducible apply AllLt.drew) | (with_reducible exact AllLt.nil _)))) hb; have hq := HL; simp only [AllLt, and_true, World.size_alloc, World.size_setCell, World.size_drew] at hq; have hbs := hb.size; try simp only [World.size_alloc, World.size_setCell, World.size_drew] at hbs
  go_wp2_with (first | (go_at_call 28; refine (K2.call _).mono ?_; rintro e w2 ⟨rfl, hb⟩; obtain ⟨hc, hf⟩ := bcell hb; have HL := keepL (by (repeat (first | (with_reducible assumption) | (with_reducible apply AllLt.alloc) | (with_reducible apply AllLt.setCell) | (with_reducible apply AllLt.drew) | (with_reducible exact AllLt.nil _)))) hb; have hq := HL; simp only [AllLt, and_true, World.size_alloc, World.size_setCell, World.size_drew] at hq; have hbs := hb.size; try simp only [World.size_alloc, World.size_setCell, World.size_drew] at hbs) | (go_at_call 71; refine (S.call _).mono ?_; rintro e w3 ⟨rfl, hb⟩; obtain ⟨hc, hf⟩ := bcell hb; have HL := keepL (by (repeat (first | (with_reducible assumption) | (with_reducible apply AllLt.alloc) | (with_reducible apply AllLt.setCell) | (with_reducible apply AllLt.drew) | (with_reducible exact AllLt.nil _)))) hb; have hq := HL; simp only [AllLt, and_true, World.size_alloc, World.size_setCell, World.size_drew] at hq; have hbs := hb.size; try simp only [World.size_alloc, World.size_setCell, World.size_drew] at hbs))
  (have HB : Blk w3 (w.heap.size + 2) #[.float .f32 0, .float .f32 0, .float .f32 0] 26 := (by (repeat (first | (with_reducible exact Blk.newAt (by simp; done)) | (with_reducible refine Blk.below ?_ (by assumption)) | (with_reducible refine Blk.alloc ?_) | (with_reducible refine Blk.drew ?_) | (with_reducible refine Blk.other ?_ (by dsimp only; omega))))); (have d0 := (HB.set (i := 0) (v := .float .f32 0)).cell 0; have d1 := ((HB.set (i := 0) (v := .float .f32 0)).set (i := 1) (v := .float .f32 0)).cell 1; have d2 := (((HB.set (i := 0) (v := .float .f32 0)).set (i := 1) (v := .float .f32 0)).set (i := 2) (v := .float .f32 0)).cell 2; simp only [List.setIfInBounds_toArray, List.set_cons_zero, List.set_cons_succ, List.getElem?_toArray, List.getElem?_cons_zero, List.getElem?_cons_succ] at d0 d1 d2; exact bodyPost_ret (v := .agg #[.float .f32 0, .float .f32 0, .float .f32 0]) (by simp [results, Try.results30, go_sem, d0, d1, d2]) rfl ⟨rfl, by (repeat' (first | (with_reducible exact Below.refl _ _) | (with_reducible assumption) | (with_reducible refine Below.alloc ?_ ?_ _) | (with_reducible refine Below.drew ?_) | (with_reducible refine Below.setCell ?_ ?_ _) | (with_reducible refine Below.trans ?_ (Below.mono (by assumption) ?_)) | (with_reducible exact Nat.le_refl _) | omega | (simp only [World.size_alloc, World.size_setCell, World.size_drew]; omega) | (simp; omega) | (simp; done)))⟩))

structure MixC (a b k m : Nat) : Prop where
  call : ∀ w : World, Calls Try.prog 72 #[.float .f32 a, .float .f32 b, .float .f32 k] w fun e w' => e = .returned (.float .f32 m) ∧ w' = w

set_option maxHeartbeats 1000000 in
theorem mix_s_yes (a b c x y z k p q r : Nat) (K : IsCol a b c true) (K2 : IsCol x y z true) (S : ShaS k true) (A : MixC a x k p) (B : MixC b y k q) (C : MixC c z k r) (w : World) :
    Calls Try.prog 30 #[colV a b c, colV x y z, .float .f32 k] w fun e w' => e = .returned (colV p q r) ∧ Below w.heap.size w w' := by
  unfold colV
  go_enter Try.func30, Try.ntmps30
  go_wp2_with fail
  go_at_call 28
  refine (K.call _).mono ?_
  rintro e w1 ⟨rfl, hb1⟩
  have hb := hb1
  obtain ⟨hc, hf⟩ := bcell hb; have HL := keepL (by (repeat (first | (with_reducible assumption) | (with_reducible apply AllLt.alloc) | (with_reducible apply AllLt.setCell) | (with_reducible apply AllLt.drew) | (with_reducible exact AllLt.nil _)))) hb; have hq := HL; simp only [AllLt, and_true, World.size_alloc, World.size_setCell, World.size_drew] at hq; have hbs := hb.size; try simp only [World.size_alloc, World.size_setCell, World.size_drew] at hbs
  go_wp2_with fail
  go_at_call 28
  refine (K2.call _).mono ?_
  rintro e w2 ⟨rfl, hb2⟩
  have hb := hb2
  obtain ⟨hc, hf⟩ := bcell hb; have HL := keepL (by (repeat (first | (with_reducible assumption) | (with_reducible apply AllLt.alloc) | (with_reducible apply AllLt.setCell) | (with_reducible apply AllLt.drew) | (with_reducible exact AllLt.nil _)))) hb; have hq := HL; simp only [AllLt, and_true, World.size_alloc, World.size_setCell, World.size_drew] at hq; have hbs := hb.size; try simp only [World.size_alloc, World.size_setCell, World.size_drew] at hbs
  go_wp2_with (go_at_call 71; refine (S.call _).mono ?_; rintro e w3 ⟨rfl, hb3⟩; have hb := hb3; obtain ⟨hc, hf⟩ := bcell hb; have HL := keepL (by (repeat (first | (with_reducible assumption) | (with_reducible apply AllLt.alloc) | (with_reducible apply AllLt.setCell) | (with_reducible apply AllLt.drew) | (with_reducible exact AllLt.nil _)))) hb; have hq := HL; simp only [AllLt, and_true, World.size_alloc, World.size_setCell, World.size_drew] at hq; have hbs := hb.size; try simp only [World.size_alloc, World.size_setCell, World.size_drew] at hbs)
  go_still_tail 19, (by kernel_rfl)
  still_call (A.call _)
  repeat still_step
  still_call (B.call _)
  repeat still_step
  still_call (C.call _)
  repeat still_step
  refine wpStill_nil ?_
  change wpList _ _ _ _ _ w3.drew
  have HB1 : Blk w3.drew (w.heap.size + 2) #[.float .f32 0, .float .f32 0, .float .f32 0] 26 := by (repeat (first | (with_reducible exact Blk.newAt (by simp; done)) | (with_reducible refine Blk.below ?_ (by assumption)) | (with_reducible refine Blk.alloc ?_) | (with_reducible refine Blk.drew ?_) | (with_reducible refine Blk.other ?_ (by dsimp only; omega))))
  have hb0 : Below w.heap.size w w3.drew := by (repeat' (first | (with_reducible exact Below.refl _ _) | (with_reducible assumption) | (with_reducible refine Below.alloc ?_ ?_ _) | (with_reducible refine Below.drew ?_) | (with_reducible refine Below.setCell ?_ ?_ _) | (with_reducible refine Below.trans ?_ (Below.mono (by assumption) ?_)) | (with_reducible exact Nat.le_refl _) | omega | (simp only [World.size_alloc, World.size_setCell, World.size_drew]; omega) | (simp; omega) | (simp; done)))
  generalize w3.drew = w4 at hb0 HB1 ⊢
  have l1 := HB1.lt
  have g0 := HB1.cell 0
  have g1 := HB1.cell 1
  have g2 := HB1.cell 2
  have q0 := HB1.free 0
  have q1 := HB1.free 1
  have q2 := HB1.free 2
  simp at g0 g1 g2
  go_wp2
  (have d0 := (HB1.set (i := 0) (v := .float .f32 p)).cell 0; have d1 := ((HB1.set (i := 0) (v := .float .f32 p)).set (i := 1) (v := .float .f32 q)).cell 1; have d2 := (((HB1.set (i := 0) (v := .float .f32 p)).set (i := 1) (v := .float .f32 q)).set (i := 2) (v := .float .f32 r)).cell 2; simp only [List.setIfInBounds_toArray, List.set_cons_zero, List.set_cons_succ, List.getElem?_toArray, List.getElem?_cons_zero, List.getElem?_cons_succ] at d0 d1 d2; exact bodyPost_ret (v := .agg #[.float .f32 p, .float .f32 q, .float .f32 r]) (by simp [results, Try.results30, go_sem, d0, d1, d2]) rfl ⟨rfl, by (repeat' (first | (with_reducible exact Below.refl _ _) | (with_reducible assumption) | (with_reducible refine Below.alloc ?_ ?_ _) | (with_reducible refine Below.drew ?_) | (with_reducible refine Below.setCell ?_ ?_ _) | (with_reducible refine Below.trans ?_ (Below.mono (by assumption) ?_)) | (with_reducible exact Nat.le_refl _) | omega | (simp only [World.size_alloc, World.size_setCell, World.size_drew]; omega) | (simp; omega) | (simp; done)))⟩)

structure LessI (k s : Nat) : Prop where
  call : ∀ w : World, Calls Try.prog 49 #[.float .f32 1065353216, .float .f32 k] w fun e w' => e = .returned (.float .f32 s) ∧ w' = w
structure EachM (a b c x y z s k p q r : Nat) : Prop where
  call : ∀ (pa pb : Nat) (w : World), w.cell? ⟨pa, 0, Option.none⟩ = some (.float .f64 s) → w.cell? ⟨pb, 0, Option.none⟩ = some (.float .f64 k) →
    Calls Try.prog 45 #[.agg #[.float .f32 a, .float .f32 x, .float .f32 b, .float .f32 y, .float .f32 c, .float .f32 z], .func (.func 50) #[] #[.pointer (some ⟨pa, 0, Option.none⟩), .pointer (some ⟨pb, 0, Option.none⟩)]] w fun e w' =>
      e = .returned (.agg #[.float .f32 p, .float .f32 q, .float .f32 r]) ∧ Below w.heap.size w w'
structure PairI (a b c x y z : Nat) : Prop where
  call : ∀ w : World, Calls Try.prog 46 #[.agg #[.float .f32 a, .float .f32 b, .float .f32 c], .agg #[.float .f32 x, .float .f32 y, .float .f32 z]] w fun e w' => e = .returned (.agg #[.float .f32 a, .float .f32 x, .float .f32 b, .float .f32 y, .float .f32 c, .float .f32 z]) ∧ Below w.heap.size w w'
structure ColI (a b c : Nat) : Prop where
  call : ∀ w : World, Calls Try.prog 44 #[.agg #[.float .f32 a, .float .f32 b, .float .f32 c]] w fun e w' => e = .returned (.agg #[.float .f32 a, .float .f32 b, .float .f32 c]) ∧ Below w.heap.size w w'

set_option maxHeartbeats 1000000 in
theorem mix_i_yes (a b c x y z k s s2 k2 p q r : Nat) (K : AreC a b c x y z true) (S : ShaI k true) (L : LessI k s)
    (cs : floatToFloatBits .f32 s .f64 = some s2) (ck : floatToFloatBits .f32 k .f64 = some k2) (P : PairI a b c x y z) (E : EachM a b c x y z s2 k2 p q r) (C : ColI p q r) (w : World) :
    Calls Try.prog 19 #[colV a b c, colV x y z, .float .f32 k] w fun e w' => e = .returned (colV p q r) ∧ Below w.heap.size w w' := by
  have qs := fun w => run_convert_float_float (P := Try.prog) w 24 46 .f32 .f64 s _ (by rw [Try.underlying24]; rfl) Try.underlying46 cs
  have qk := fun w => run_convert_float_float (P := Try.prog) w 24 46 .f32 .f64 k _ (by rw [Try.underlying24]; rfl) Try.underlying46 ck
  clear cs ck
  unfold colV
  go_enter Try.func19, Try.ntmps19
  go_wp2_with (first | simp only [qs] | simp only [qk] | (go_at_call 43; refine (K.call _).mono ?_; rintro e w1 ⟨rfl, hb⟩; obtain ⟨hc, hf⟩ := bcell hb; have HL := keepL (by (repeat (first | (with_reducible assumption) | (with_reducible apply AllLt.alloc) | (with_reducible apply AllLt.setCell) | (with_reducible apply AllLt.drew) | (with_reducible exact AllLt.nil _)))) hb; have hq := HL; simp only [AllLt, and_true, World.size_alloc, World.size_setCell, World.size_drew] at hq; have hbs := hb.size; try simp only [World.size_alloc, World.size_setCell, World.size_drew] at hbs) | (go_at_call 48; refine (S.call _).mono ?_; rintro e w2 ⟨rfl, rfl⟩) | (go_at_call 49; refine (L.call _).mono ?_; rintro e w3 ⟨rfl, rfl⟩) | (go_at_call 46; refine (P.call _).mono ?_; rintro e w4 ⟨rfl, hb⟩; obtain ⟨hc, hf⟩ := bcell hb; have HL := keepL (by (repeat (first | (with_reducible assumption) | (with_reducible apply AllLt.alloc) | (with_reducible apply AllLt.setCell) | (with_reducible apply AllLt.drew) | (with_reducible exact AllLt.nil _)))) hb; have hq := HL; simp only [AllLt, and_true, World.size_alloc, World.size_setCell, World.size_drew] at hq; have hbs := hb.size; try simp only [World.size_alloc, World.size_setCell, World.size_drew] at hbs))
  have ca : w4.cell? ⟨w3.heap.size, 0, Option.none⟩ = some (.float .f64 s2) := by ((repeat (first | (with_reducible assumption) | (with_reducible exact cNewAt (by first | rfl | (simp only [World.size_alloc, World.size_setCell, World.size_drew]; done) | omega) rfl) | (with_reducible exact sNewAt (by first | rfl | (simp only [World.size_alloc, World.size_setCell, World.size_drew]; done) | omega) rfl) | (simp; done) | (with_reducible apply cAlloc) | (with_reducible apply cDrew) | (with_reducible refine cSet (by dsimp only; omega) ?_) | (with_reducible refine cSetOff (by dsimp only; omega) ?_) | (with_reducible apply cSame) | (with_reducible refine cBelow (by assumption) ?_) | (with_reducible apply sAlloc) | (with_reducible apply sDrew) | (with_reducible refine sBelow (by assumption) ?_) | (with_reducible refine sSet (by dsimp only; omega) ?_))); first | done | (simp [*]; done))
  have cb : w4.cell? ⟨w3.heap.size + 1, 0, Option.none⟩ = some (.float .f64 k2) := by ((repeat (first | (with_reducible assumption) | (with_reducible exact cNewAt (by first | rfl | (simp only [World.size_alloc, World.size_setCell, World.size_drew]; done) | omega) rfl) | (with_reducible exact sNewAt (by first | rfl | (simp only [World.size_alloc, World.size_setCell, World.size_drew]; done) | omega) rfl) | (simp; done) | (with_reducible apply cAlloc) | (with_reducible apply cDrew) | (with_reducible refine cSet (by dsimp only; omega) ?_) | (with_reducible refine cSetOff (by dsimp only; omega) ?_) | (with_reducible apply cSame) | (with_reducible refine cBelow (by assumption) ?_) | (with_reducible apply sAlloc) | (with_reducible apply sDrew) | (with_reducible refine sBelow (by assumption) ?_) | (with_reducible refine sSet (by dsimp only; omega) ?_))); first | done | (simp [*]; done))
  refine (E.call _ _ _ ca cb).mono ?_
  rintro e w5 ⟨rfl, hb5⟩
  have hb := hb5
  obtain ⟨hc, hf⟩ := bcell hb; have HL := keepL (by (repeat (first | (with_reducible assumption) | (with_reducible apply AllLt.alloc) | (with_reducible apply AllLt.setCell) | (with_reducible apply AllLt.drew) | (with_reducible exact AllLt.nil _)))) hb; have hq := HL; simp only [AllLt, and_true, World.size_alloc, World.size_setCell, World.size_drew] at hq; have hbs := hb.size; try simp only [World.size_alloc, World.size_setCell, World.size_drew] at hbs
  go_wp2_with (go_at_call 44; refine (C.call _).mono ?_; rintro e w6 ⟨rfl, hb6⟩; have hb := hb6; obtain ⟨hc, hf⟩ := bcell hb; have HL := keepL (by (repeat (first | (with_reducible assumption) | (with_reducible apply AllLt.alloc) | (with_reducible apply AllLt.setCell) | (with_reducible apply AllLt.drew) | (with_reducible exact AllLt.nil _)))) hb; have hq := HL; simp only [AllLt, and_true, World.size_alloc, World.size_setCell, World.size_drew] at hq; have hbs := hb.size; try simp only [World.size_alloc, World.size_setCell, World.size_drew] at hbs)
  (have HB : Blk w6 (w.heap.size + 2) #[.float .f32 0, .float .f32 0, .float .f32 0] 26 := (by (repeat (first | (with_reducible exact Blk.newAt (by simp; done)) | (with_reducible refine Blk.below ?_ (by assumption)) | (with_reducible refine Blk.alloc ?_) | (with_reducible refine Blk.drew ?_) | (with_reducible refine Blk.other ?_ (by dsimp only; omega))))); (have d0 := (HB.set (i := 0) (v := .float .f32 p)).cell 0; have d1 := ((HB.set (i := 0) (v := .float .f32 p)).set (i := 1) (v := .float .f32 q)).cell 1; have d2 := (((HB.set (i := 0) (v := .float .f32 p)).set (i := 1) (v := .float .f32 q)).set (i := 2) (v := .float .f32 r)).cell 2; simp only [List.setIfInBounds_toArray, List.set_cons_zero, List.set_cons_succ, List.getElem?_toArray, List.getElem?_cons_zero, List.getElem?_cons_succ] at d0 d1 d2; exact bodyPost_ret (v := .agg #[.float .f32 p, .float .f32 q, .float .f32 r]) (by simp [results, Try.results19, go_sem, d0, d1, d2]) rfl ⟨rfl, by (repeat' (first | (with_reducible exact Below.refl _ _) | (with_reducible assumption) | (with_reducible refine Below.alloc ?_ ?_ _) | (with_reducible refine Below.drew ?_) | (with_reducible refine Below.setCell ?_ ?_ _) | (with_reducible refine Below.trans ?_ (Below.mono (by assumption) ?_)) | (with_reducible exact Nat.le_refl _) | omega | (simp only [World.size_alloc, World.size_setCell, World.size_drew]; omega) | (simp; omega) | (simp; done)))⟩))
end Go.Proofs.Ytljilmekmfnkbaa
