/-
  FilterColour on both sides.
-/
import Derived.Test.YtljilmekmfnkbaaCinv
import Derived.Test.YtljilmekmfnkbaaCeFilter
namespace Go.Proofs.Ytljilmekmfnkbaa
open Go.ChangeShapes Go.WideShapes Go.ChangeAt Go.RowKit Go.Joins
set_option linter.unusedSimpArgs false
set_option linter.unusedVariables false
set_option maxRecDepth 100000
attribute [local go_sem] store_f

theorem filter_i_no (a b c x y z : Nat) (h : (colB a b c && colB x y z) = false) (w : World) :
    Calls Try.prog 18 #[colV a b c, colV x y z] w fun e w' => e = .returned (colV 0 0 0) ∧ Below w.heap.size w w' := by
  have K : Hid (∀ w : World, Calls Try.prog 43 #[colV a b c, colV x y z] w fun e w' => e = .returned (.bool false) ∧ Below w.heap.size w w') := fun w => h ▸ areColours_i a b c x y z w
  clear h
  unfold colV at K ⊢
  go_enter Try.func18, Try.ntmps18
  go_wp2_with (go_at_call 43; refine (K.out _).mono ?_; rintro e w1 ⟨rfl, hb⟩; obtain ⟨hc, hf⟩ := bcell hb; have HL := keepL (by (repeat (first | (with_reducible assumption) | (with_reducible apply AllLt.alloc) | (with_reducible apply AllLt.setCell) | (with_reducible apply AllLt.drew) | (with_reducible exact AllLt.nil _)))) hb; have hq := HL; simp only [AllLt, and_true, World.size_alloc, World.size_setCell, World.size_drew] at hq; have hbs := hb.size; try simp only [World.size_alloc, World.size_setCell, World.size_drew] at hbs)
  (have HB : Blk w1 (w.heap.size + 2) #[.float .f32 0, .float .f32 0, .float .f32 0] 26 := (by (repeat (first | (with_reducible exact Blk.newAt (by simp; done)) | (with_reducible refine Blk.below ?_ (by assumption)) | (with_reducible refine Blk.alloc ?_) | (with_reducible refine Blk.drew ?_) | (with_reducible refine Blk.other ?_ (by dsimp only; omega))))); (have d0 := (HB.set (i := 0) (v := .float .f32 0)).cell 0; have d1 := ((HB.set (i := 0) (v := .float .f32 0)).set (i := 1) (v := .float .f32 0)).cell 1; have d2 := (((HB.set (i := 0) (v := .float .f32 0)).set (i := 1) (v := .float .f32 0)).set (i := 2) (v := .float .f32 0)).cell 2; simp only [List.setIfInBounds_toArray, List.set_cons_zero, List.set_cons_succ, List.getElem?_toArray, List.getElem?_cons_zero, List.getElem?_cons_succ] at d0 d1 d2; exact bodyPost_ret (v := .agg #[.float .f32 0, .float .f32 0, .float .f32 0]) (by simp [results, Try.results18, go_sem, d0, d1, d2]) rfl ⟨rfl, by (repeat' (first | (with_reducible exact Below.refl _ _) | (with_reducible assumption) | (with_reducible refine Below.alloc ?_ ?_ _) | (with_reducible refine Below.drew ?_) | (with_reducible refine Below.setCell ?_ ?_ _) | (with_reducible refine Below.trans ?_ (Below.mono (by assumption) ?_)) | (with_reducible exact Nat.le_refl _) | omega | (simp only [World.size_alloc, World.size_setCell, World.size_drew]; omega) | (simp; omega) | (simp; done)))⟩))

theorem filter_i_yes (a b c x y z : Nat) (ha : Part a) (hb : Part b) (hc : Part c) (hx : Part x) (hy : Part y) (hz : Part z) (w : World) :
    Calls Try.prog 18 #[colV a b c, colV x y z] w fun e w' => e = .returned (colV (mulB a x) (mulB b y) (mulB c z)) ∧ Below w.heap.size w w' := by
  have hcc : (colB a b c && colB x y z) = true := by rw [parts_colB ha hb hc, parts_colB hx hy hz]; rfl
  have K : Hid (∀ w : World, Calls Try.prog 43 #[colV a b c, colV x y z] w fun e w' => e = .returned (.bool true) ∧ Below w.heap.size w w') := fun w => hcc ▸ areColours_i a b c x y z w
  have E : Hid (∀ w : World, Calls Try.prog 45 #[.agg #[.float .f32 a, .float .f32 x, .float .f32 b, .float .f32 y, .float .f32 c, .float .f32 z], .func (.func 47) #[] #[]] w fun e w' =>
      e = .returned (.agg #[.float .f32 (mulB a x), .float .f32 (mulB b y), .float .f32 (mulB c z)]) ∧ Below w.heap.size w w') := fun w => eachFilter_i (a0 := a) (b0 := x) (a1 := b) (b1 := y) (a2 := c) (b2 := z) _ _ _ w (fun w1 _ => filterPart_i ha hx w1) (fun w1 _ => filterPart_i hb hy w1) (fun w1 _ => filterPart_i hc hz w1)
  clear ha hb hc hx hy hz hcc
  generalize mulB a x = p at E ⊢
  generalize mulB b y = q at E ⊢
  generalize mulB c z = r at E ⊢
  have P : Hid (∀ w : World, Calls Try.prog 46 #[colV a b c, colV x y z] w fun e w' => e = .returned (.agg #[.float .f32 a, .float .f32 x, .float .f32 b, .float .f32 y, .float .f32 c, .float .f32 z]) ∧ Below w.heap.size w w') := fun w => pairsOf_i a b c x y z w
  have C : Hid (∀ w : World, Calls Try.prog 44 #[.agg #[.float .f32 p, .float .f32 q, .float .f32 r]] w fun e w' => e = .returned (colV p q r) ∧ Below w.heap.size w w') := fun w => colourOf_i p q r w
  unfold colV at K P C ⊢
  go_enter Try.func18, Try.ntmps18
  go_wp2_with (first | (go_at_call 43; refine (K.out _).mono ?_; rintro e w1 ⟨rfl, hb⟩; obtain ⟨hc, hf⟩ := bcell hb; have HL := keepL (by (repeat (first | (with_reducible assumption) | (with_reducible apply AllLt.alloc) | (with_reducible apply AllLt.setCell) | (with_reducible apply AllLt.drew) | (with_reducible exact AllLt.nil _)))) hb; have hq := HL; simp only [AllLt, and_true, World.size_alloc, World.size_setCell, World.size_drew] at hq; have hbs := hb.size; try simp only [World.size_alloc, World.size_setCell, World.size_drew] at hbs) | (go_at_call 46; refine (P.out _).mono ?_; rintro e w2 ⟨rfl, hb⟩; obtain ⟨hc, hf⟩ := bcell hb; have HL := keepL (by (repeat (first | (with_reducible assumption) | (with_reducible apply AllLt.alloc) | (with_reducible apply AllLt.setCell) | (with_reducible apply AllLt.drew) | (with_reducible exact AllLt.nil _)))) hb; have hq := HL; simp only [AllLt, and_true, World.size_alloc, World.size_setCell, World.size_drew] at hq; have hbs := hb.size; try simp only [World.size_alloc, World.size_setCell, World.size_drew] at hbs) | (go_at_call 45; refine (E.out _).mono ?_; rintro e w3 ⟨rfl, hb⟩; obtain ⟨hc, hf⟩ := bcell hb; have HL := keepL (by (repeat (first | (with_reducible assumption) | (with_reducible apply AllLt.alloc) | (with_reducible apply AllLt.setCell) | (with_reducible apply AllLt.drew) | (with_reducible exact AllLt.nil _)))) hb; have hq := HL; simp only [AllLt, and_true, World.size_alloc, World.size_setCell, World.size_drew] at hq; have hbs := hb.size; try simp only [World.size_alloc, World.size_setCell, World.size_drew] at hbs) | (go_at_call 44; refine (C.out _).mono ?_; rintro e w4 ⟨rfl, hb⟩; obtain ⟨hc, hf⟩ := bcell hb; have HL := keepL (by (repeat (first | (with_reducible assumption) | (with_reducible apply AllLt.alloc) | (with_reducible apply AllLt.setCell) | (with_reducible apply AllLt.drew) | (with_reducible exact AllLt.nil _)))) hb; have hq := HL; simp only [AllLt, and_true, World.size_alloc, World.size_setCell, World.size_drew] at hq; have hbs := hb.size; try simp only [World.size_alloc, World.size_setCell, World.size_drew] at hbs))
  (have HB : Blk w4 (w.heap.size + 2) #[.float .f32 0, .float .f32 0, .float .f32 0] 26 := (by (repeat (first | (with_reducible exact Blk.newAt (by simp; done)) | (with_reducible refine Blk.below ?_ (by assumption)) | (with_reducible refine Blk.alloc ?_) | (with_reducible refine Blk.drew ?_) | (with_reducible refine Blk.other ?_ (by dsimp only; omega))))); (have d0 := (HB.set (i := 0) (v := .float .f32 p)).cell 0; have d1 := ((HB.set (i := 0) (v := .float .f32 p)).set (i := 1) (v := .float .f32 q)).cell 1; have d2 := (((HB.set (i := 0) (v := .float .f32 p)).set (i := 1) (v := .float .f32 q)).set (i := 2) (v := .float .f32 r)).cell 2; simp only [List.setIfInBounds_toArray, List.set_cons_zero, List.set_cons_succ, List.getElem?_toArray, List.getElem?_cons_zero, List.getElem?_cons_succ] at d0 d1 d2; exact bodyPost_ret (v := .agg #[.float .f32 p, .float .f32 q, .float .f32 r]) (by simp [results, Try.results18, go_sem, d0, d1, d2]) rfl ⟨rfl, by (repeat' (first | (with_reducible exact Below.refl _ _) | (with_reducible assumption) | (with_reducible refine Below.alloc ?_ ?_ _) | (with_reducible refine Below.drew ?_) | (with_reducible refine Below.setCell ?_ ?_ _) | (with_reducible refine Below.trans ?_ (Below.mono (by assumption) ?_)) | (with_reducible exact Nat.le_refl _) | omega | (simp only [World.size_alloc, World.size_setCell, World.size_drew]; omega) | (simp; omega) | (simp; done)))⟩))

/-- A call of IsColour of the model that is known. -/
structure IsCol (a b c : Nat) (p : Bool) : Prop where
  call : ∀ w : World, Calls Try.prog 28 #[.agg #[.float .f32 a, .float .f32 b, .float .f32 c]] w fun e w' => e = .returned (.bool p) ∧ Below w.heap.size w w'

theorem filter_s_no (a b c x y z : Nat) (ha : a < 4294967296) (hb : b < 4294967296) (hc : c < 4294967296) (hx : x < 4294967296) (hy : y < 4294967296) (hz : z < 4294967296) (h : (colB a b c && colB x y z) = false) (w : World) :
    Calls Try.prog 32 #[colV a b c, colV x y z] w fun e w' => e = .returned (colV 0 0 0) ∧ Below w.heap.size w w' := by
  have K : IsCol a b c (colB a b c) := ⟨fun w => isColour_s a b c ha hb hc w⟩
  have K2 : IsCol x y z (colB x y z) := ⟨fun w => isColour_s x y z hx hy hz w⟩
  clear ha hb hc hx hy hz
  generalize colB a b c = p at K h
  generalize colB x y z = q at K2 h
  unfold colV
  cases p
  · clear K2
    go_enter Try.func32, Try.ntmps32
    go_wp2_with (go_at_call 28; refine (K.call _).mono ?_; rintro e w1 ⟨rfl, hb⟩; obtain ⟨hc, hf⟩ := bcell hb; have HL := keepL (by (repeat (first | (with_reducible assumption) | (with_reducible apply AllLt.alloc) | (with_reducible apply AllLt.setCell) | (with_reducible apply AllLt.drew) | (with_reducible exact AllLt.nil _)))) hb; have hq := HL; simp only [AllLt, and_true, World.size_alloc, World.size_setCell, World.size_drew] at hq; have hbs := hb.size; try simp only [World.size_alloc, World.size_setCell, World.size_drew] at hbs)
    (have HB : Blk w1 (w.heap.size + 2) #[.float .f32 0, .float .f32 0, .float .f32 0] 26 := (by (repeat (first | (with_reducible exact Blk.newAt (by simp; done)) | (with_reducible refine Blk.below ?_ (by assumption)) | (with_reducible refine Blk.alloc ?_) | (with_reducible refine Blk.drew ?_) | (with_reducible refine Blk.other ?_ (by dsimp only; omega))))); (have d0 := (HB.set (i := 0) (v := .float .f32 0)).cell 0; have d1 := ((HB.set (i := 0) (v := .float .f32 0)).set (i := 1) (v := .float .f32 0)).cell 1; have d2 := (((HB.set (i := 0) (v := .float .f32 0)).set (i := 1) (v := .float .f32 0)).set (i := 2) (v := .float .f32 0)).cell 2; simp only [List.setIfInBounds_toArray, List.set_cons_zero, List.set_cons_succ, List.getElem?_toArray, List.getElem?_cons_zero, List.getElem?_cons_succ] at d0 d1 d2; exact bodyPost_ret (v := .agg #[.float .f32 0, .float .f32 0, .float .f32 0]) (by simp [results, Try.results32, go_sem, d0, d1, d2]) rfl ⟨rfl, by (repeat' (first | (with_reducible exact Below.refl _ _) | (with_reducible assumption) | (with_reducible refine Below.alloc ?_ ?_ _) | (with_reducible refine Below.drew ?_) | (with_reducible refine Below.setCell ?_ ?_ _) | (with_reducible refine Below.trans ?_ (Below.mono (by assumption) ?_)) | (with_reducible exact Nat.le_refl _) | omega | (simp only [World.size_alloc, World.size_setCell, World.size_drew]; omega) | (simp; omega) | (simp; done)))⟩))
  · obtain rfl : q = false := by simpa using h
    go_enter Try.func32, Try.ntmps32
    go_wp2_with fail
    go_at_call 28
    refine (K.call _).mono ?_
    rintro e w1 ⟨rfl, hb⟩
    obtain ⟨hc, hf⟩ := bcell hb; have HL := keepL (by (repeat (first | (with_reducible assumption) | (with_reducible apply AllLt.alloc) | (with_reducible apply AllLt.setCell) | (with_reducible apply AllLt.drew) | (with_reducible exact AllLt.nil _)))) hb; have hq := HL; simp only [AllLt, and_true, World.size_alloc, World.size_setCell, World.size_drew] at hq; have hbs := hb.size; try simp only [World.size_alloc, World.size_setCell, World.size_drew] at hbs
    go_wp2_with (go_at_call 28; refine (K2.call _).mono ?_; rintro e w2 ⟨rfl, hb⟩; obtain ⟨hc, hf⟩ := bcell hb; have HL := keepL (by (repeat (first | (with_reducible assumption) | (with_reducible apply AllLt.alloc) | (with_reducible apply AllLt.setCell) | (with_reducible apply AllLt.drew) | (with_reducible exact AllLt.nil _)))) hb; have hq := HL; simp only [AllLt, and_true, World.size_alloc, World.size_setCell, World.size_drew] at hq; have hbs := hb.size; try simp only [World.size_alloc, World.size_setCell, World.size_drew] at hbs)
    (have HB : Blk w2 (w.heap.size + 2) #[.float .f32 0, .float .f32 0, .float .f32 0] 26 := (by (repeat (first | (with_reducible exact Blk.newAt (by simp; done)) | (with_reducible refine Blk.below ?_ (by assumption)) | (with_reducible refine Blk.alloc ?_) | (with_reducible refine Blk.drew ?_) | (with_reducible refine Blk.other ?_ (by dsimp only; omega))))); (have d0 := (HB.set (i := 0) (v := .float .f32 0)).cell 0; have d1 := ((HB.set (i := 0) (v := .float .f32 0)).set (i := 1) (v := .float .f32 0)).cell 1; have d2 := (((HB.set (i := 0) (v := .float .f32 0)).set (i := 1) (v := .float .f32 0)).set (i := 2) (v := .float .f32 0)).cell 2; simp only [List.setIfInBounds_toArray, List.set_cons_zero, List.set_cons_succ, List.getElem?_toArray, List.getElem?_cons_zero, List.getElem?_cons_succ] at d0 d1 d2; exact bodyPost_ret (v := .agg #[.float .f32 0, .float .f32 0, .float .f32 0]) (by simp [results, Try.results32, go_sem, d0, d1, d2]) rfl ⟨rfl, by (repeat' (first | (with_reducible exact Below.refl _ _) | (with_reducible assumption) | (with_reducible refine Below.alloc ?_ ?_ _) | (with_reducible refine Below.drew ?_) | (with_reducible refine Below.setCell ?_ ?_ _) | (with_reducible refine Below.trans ?_ (Below.mono (by assumption) ?_)) | (with_reducible exact Nat.le_refl _) | omega | (simp only [World.size_alloc, World.size_setCell, World.size_drew]; omega) | (simp; omega) | (simp; done)))⟩))

theorem filter_s_yes (a b c x y z : Nat) (ha : Part a) (hb : Part b) (hc : Part c) (hx : Part x) (hy : Part y) (hz : Part z) (w : World) :
    Calls Try.prog 32 #[colV a b c, colV x y z] w fun e w' => e = .returned (colV (mulB a x) (mulB b y) (mulB c z)) ∧ Below w.heap.size w w' := by
  have K : IsCol a b c true := ⟨fun w => parts_colB ha hb hc ▸ isColour_s a b c ha.lt hb.lt hc.lt w⟩
  have K2 : IsCol x y z true := ⟨fun w => parts_colB hx hy hz ▸ isColour_s x y z hx.lt hy.lt hz.lt w⟩
  have A : Times a x (mulB a x) := ⟨fun w => l1Times_p ha hx w⟩
  have B : Times b y (mulB b y) := ⟨fun w => l1Times_p hb hy w⟩
  have C : Times c z (mulB c z) := ⟨fun w => l1Times_p hc hz w⟩
  clear ha hb hc hx hy hz
  generalize mulB a x = p at A ⊢
  generalize mulB b y = q at B ⊢
  generalize mulB c z = r at C ⊢
  unfold colV
  go_enter Try.func32, Try.ntmps32
  go_wp2_with fail
  go_at_call 28
  refine (K.call _).mono ?_
  rintro e w1 ⟨rfl, hb⟩
  obtain ⟨hc, hf⟩ := bcell hb; have HL := keepL (by (repeat (first | (with_reducible assumption) | (with_reducible apply AllLt.alloc) | (with_reducible apply AllLt.setCell) | (with_reducible apply AllLt.drew) | (with_reducible exact AllLt.nil _)))) hb; have hq := HL; simp only [AllLt, and_true, World.size_alloc, World.size_setCell, World.size_drew] at hq; have hbs := hb.size; try simp only [World.size_alloc, World.size_setCell, World.size_drew] at hbs
  go_wp2_with fail
  go_at_call 28
  refine (K2.call _).mono ?_
  rintro e w2 ⟨rfl, hb2⟩
  have hb := hb2
  obtain ⟨hc, hf⟩ := bcell hb; have HL := keepL (by (repeat (first | (with_reducible assumption) | (with_reducible apply AllLt.alloc) | (with_reducible apply AllLt.setCell) | (with_reducible apply AllLt.drew) | (with_reducible exact AllLt.nil _)))) hb; have hq := HL; simp only [AllLt, and_true, World.size_alloc, World.size_setCell, World.size_drew] at hq; have hbs := hb.size; try simp only [World.size_alloc, World.size_setCell, World.size_drew] at hbs
  go_wp2_with fail
  go_still_tail 16, (by kernel_rfl)
  still_call (A.call _)
  repeat still_step
  still_call (B.call _)
  repeat still_step
  still_call (C.call _)
  repeat still_step
  refine wpStill_nil ?_
  change wpList _ _ _ _ _ w2.drew
  have HB1 : Blk w2.drew (w.heap.size + 2) #[.float .f32 0, .float .f32 0, .float .f32 0] 26 := by (repeat (first | (with_reducible exact Blk.newAt (by simp; done)) | (with_reducible refine Blk.below ?_ (by assumption)) | (with_reducible refine Blk.alloc ?_) | (with_reducible refine Blk.drew ?_) | (with_reducible refine Blk.other ?_ (by dsimp only; omega))))
  have hb0 : Below w.heap.size w w2.drew := by (repeat' (first | (with_reducible exact Below.refl _ _) | (with_reducible assumption) | (with_reducible refine Below.alloc ?_ ?_ _) | (with_reducible refine Below.drew ?_) | (with_reducible refine Below.setCell ?_ ?_ _) | (with_reducible refine Below.trans ?_ (Below.mono (by assumption) ?_)) | (with_reducible exact Nat.le_refl _) | omega | (simp only [World.size_alloc, World.size_setCell, World.size_drew]; omega) | (simp; omega) | (simp; done)))
  generalize w2.drew = w3 at hb0 HB1 ⊢
  have l1 := HB1.lt
  have g0 := HB1.cell 0
  have g1 := HB1.cell 1
  have g2 := HB1.cell 2
  have q0 := HB1.free 0
  have q1 := HB1.free 1
  have q2 := HB1.free 2
  simp at g0 g1 g2
  go_wp2
  (have d0 := (HB1.set (i := 0) (v := .float .f32 p)).cell 0; have d1 := ((HB1.set (i := 0) (v := .float .f32 p)).set (i := 1) (v := .float .f32 q)).cell 1; have d2 := (((HB1.set (i := 0) (v := .float .f32 p)).set (i := 1) (v := .float .f32 q)).set (i := 2) (v := .float .f32 r)).cell 2; simp only [List.setIfInBounds_toArray, List.set_cons_zero, List.set_cons_succ, List.getElem?_toArray, List.getElem?_cons_zero, List.getElem?_cons_succ] at d0 d1 d2; exact bodyPost_ret (v := .agg #[.float .f32 p, .float .f32 q, .float .f32 r]) (by simp [results, Try.results32, go_sem, d0, d1, d2]) rfl ⟨rfl, by (repeat' (first | (with_reducible exact Below.refl _ _) | (with_reducible assumption) | (with_reducible refine Below.alloc ?_ ?_ _) | (with_reducible refine Below.drew ?_) | (with_reducible refine Below.setCell ?_ ?_ _) | (with_reducible refine Below.trans ?_ (Below.mono (by assumption) ?_)) | (with_reducible exact Nat.le_refl _) | omega | (simp only [World.size_alloc, World.size_setCell, World.size_drew]; omega) | (simp; omega) | (simp; done)))⟩)
end Go.Proofs.Ytljilmekmfnkbaa
