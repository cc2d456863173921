/-
  Texts Cfil CeMix Cmix Cmx, joined.
-/
import Derived.Test.YtfdgijmmgllmgaaGreatDoorS14
import Derived.StillTailTactics
import Derived.Test.YtfdgijmmgllmgaaGreatDoorS06
namespace Go.Proofs.YtfdgijmmgllmgaaGreatDoor
open Go.ChangeShapes Go.WideShapes Go.ChangeAt Go.RowKit Go.Joins
set_option linter.unusedSimpArgs false
set_option linter.unusedVariables false
set_option maxRecDepth 100000
attribute [local go_sem] store_f
theorem filter_i_yes (a b c x y z : Nat) (ha : Part a) (hb : Part b) (hc : Part c) (hx : Part x) (hy : Part y) (hz : Part z) (w : World) :
    Calls Tryz.prog 82 #[colV a b c, colV x y z] w fun e w' => e = .returned (colV (mulB a x) (mulB b y) (mulB c z)) ∧ Below w.heap.size w w' := by
  have hcc : (colB a b c && colB x y z) = true := by rw [parts_colB ha hb hc, parts_colB hx hy hz]; rfl
  have K : Hid (∀ w : World, Calls Tryz.prog 114 #[colV a b c, colV x y z] w fun e w' => e = .returned (.bool true) ∧ Below w.heap.size w w') := fun w => hcc ▸ areColours_i a b c x y z w
  have E : Hid (∀ w : World, Calls Tryz.prog 117 #[.agg #[.float .f32 a, .float .f32 x, .float .f32 b, .float .f32 y, .float .f32 c, .float .f32 z], .func (.func 122) #[] #[]] w fun e w' =>
      e = .returned (.agg #[.float .f32 (mulB a x), .float .f32 (mulB b y), .float .f32 (mulB c z)]) ∧ Below w.heap.size w w') := fun w => eachFilter_i (a0 := a) (b0 := x) (a1 := b) (b1 := y) (a2 := c) (b2 := z) _ _ _ w (fun w1 _ => filterPart_i ha hx w1) (fun w1 _ => filterPart_i hb hy w1) (fun w1 _ => filterPart_i hc hz w1)
  clear ha hb hc hx hy hz hcc
  generalize mulB a x = p at E ⊢
  generalize mulB b y = q at E ⊢
  generalize mulB c z = r at E ⊢
  have P : Hid (∀ w : World, Calls Tryz.prog 118 #[colV a b c, colV x y z] w fun e w' => e = .returned (.agg #[.float .f32 a, .float .f32 x, .float .f32 b, .float .f32 y, .float .f32 c, .float .f32 z]) ∧ Below w.heap.size w w') := fun w => pairsOf_i a b c x y z w
  have C : Hid (∀ w : World, Calls Tryz.prog 116 #[.agg #[.float .f32 p, .float .f32 q, .float .f32 r]] w fun e w' => e = .returned (colV p q r) ∧ Below w.heap.size w w') := fun w => colourOf_i p q r w
  unfold colV at K P C ⊢
  go_enter Tryz.func82, Tryz.ntmps82
  go_wp2_with (first | (go_at_call 114; refine (K.out _).mono ?_; rintro e w1 ⟨rfl, hb⟩; obtain ⟨hc, hf⟩ := bcell hb; have HL := keepL (by (repeat (first | (with_reducible assumption) | (with_reducible apply AllLt.alloc) | (with_reducible apply AllLt.setCell) | (with_reducible apply AllLt.drew) | (with_reducible exact AllLt.nil _)))) hb; have hq := HL; simp only [AllLt, and_true, World.size_alloc, World.size_setCell, World.size_drew] at hq; have hbs := hb.size; try simp only [World.size_alloc, World.size_setCell, World.size_drew] at hbs) | (go_at_call 118; refine (P.out _).mono ?_; rintro e w2 ⟨rfl, hb⟩; obtain ⟨hc, hf⟩ := bcell hb; have HL := keepL (by (repeat (first | (with_reducible assumption) | (with_reducible apply AllLt.alloc) | (with_reducible apply AllLt.setCell) | (with_reducible apply AllLt.drew) | (with_reducible exact AllLt.nil _)))) hb; have hq := HL; simp only [AllLt, and_true, World.size_alloc, World.size_setCell, World.size_drew] at hq; have hbs := hb.size; try simp only [World.size_alloc, World.size_setCell, World.size_drew] at hbs) | (go_at_call 117; refine (E.out _).mono ?_; rintro e w3 ⟨rfl, hb⟩; obtain ⟨hc, hf⟩ := bcell hb; have HL := keepL (by (repeat (first | (with_reducible assumption) | (with_reducible apply AllLt.alloc) | (with_reducible apply AllLt.setCell) | (with_reducible apply AllLt.drew) | (with_reducible exact AllLt.nil _)))) hb; have hq := HL; simp only [AllLt, and_true, World.size_alloc, World.size_setCell, World.size_drew] at hq; have hbs := hb.size; try simp only [World.size_alloc, World.size_setCell, World.size_drew] at hbs) | (go_at_call 116; refine (C.out _).mono ?_; rintro e w4 ⟨rfl, hb⟩; obtain ⟨hc, hf⟩ := bcell hb; have HL := keepL (by (repeat (first | (with_reducible assumption) | (with_reducible apply AllLt.alloc) | (with_reducible apply AllLt.setCell) | (with_reducible apply AllLt.drew) | (with_reducible exact AllLt.nil _)))) hb; have hq := HL; simp only [AllLt, and_true, World.size_alloc, World.size_setCell, World.size_drew] at hq; have hbs := hb.size; try simp only [World.size_alloc, World.size_setCell, World.size_drew] at hbs))
  (have HB : Blk w4 (w.heap.size + 2) #[.float .f32 0, .float .f32 0, .float .f32 0] 26 := (by (repeat (first | (with_reducible exact Blk.newAt (by simp; done)) | (with_reducible refine Blk.below ?_ (by assumption)) | (with_reducible refine Blk.alloc ?_) | (with_reducible refine Blk.drew ?_) | (with_reducible refine Blk.other ?_ (by dsimp only; omega))))); (have d0 := (HB.set (i := 0) (v := .float .f32 p)).cell 0; have d1 := ((HB.set (i := 0) (v := .float .f32 p)).set (i := 1) (v := .float .f32 q)).cell 1; have d2 := (((HB.set (i := 0) (v := .float .f32 p)).set (i := 1) (v := .float .f32 q)).set (i := 2) (v := .float .f32 r)).cell 2; simp only [List.setIfInBounds_toArray, List.set_cons_zero, List.set_cons_succ, List.getElem?_toArray, List.getElem?_cons_zero, List.getElem?_cons_succ] at d0 d1 d2; exact bodyPost_ret (v := .agg #[.float .f32 p, .float .f32 q, .float .f32 r]) (by simp [results, Tryz.results82, go_sem, d0, d1, d2]) rfl ⟨rfl, by (repeat' (first | (with_reducible exact Below.refl _ _) | (with_reducible assumption) | (with_reducible refine Below.alloc ?_ ?_ _) | (with_reducible refine Below.drew ?_) | (with_reducible refine Below.setCell ?_ ?_ _) | (with_reducible refine Below.trans ?_ (Below.mono (by assumption) ?_)) | (with_reducible exact Nat.le_refl _) | omega | (simp only [World.size_alloc, World.size_setCell, World.size_drew]; omega) | (simp; omega) | (simp; done)))⟩))
end Go.Proofs.YtfdgijmmgllmgaaGreatDoor
namespace Go.Proofs.YtfdgijmmgllmgaaGreatDoor
open Go.ChangeShapes Go.WideShapes Go.ChangeAt Go.RowKit Go.Joins
set_option linter.unusedSimpArgs false
set_option linter.unusedVariables false
set_option maxRecDepth 100000
attribute [local go_sem] store_f
theorem eachMix_i (a0 b0 a1 b1 a2 b2 : Nat) (y0 y1 y2 : Nat) (pa pb : Addr) (w : World)
    (k0 : ∀ w1 : World, Below w.heap.size w w1 → Calls Tryz.prog 119 #[.agg #[.float .f32 a0, .float .f32 b0], .pointer (some pa), .pointer (some pb)] w1 fun e w' => e = .returned (.float .f32 y0) ∧ Below w1.heap.size w1 w')
    (k1 : ∀ w1 : World, Below w.heap.size w w1 → Calls Tryz.prog 119 #[.agg #[.float .f32 a1, .float .f32 b1], .pointer (some pa), .pointer (some pb)] w1 fun e w' => e = .returned (.float .f32 y1) ∧ Below w1.heap.size w1 w')
    (k2 : ∀ w1 : World, Below w.heap.size w w1 → Calls Tryz.prog 119 #[.agg #[.float .f32 a2, .float .f32 b2], .pointer (some pa), .pointer (some pb)] w1 fun e w' => e = .returned (.float .f32 y2) ∧ Below w1.heap.size w1 w')
    : Calls Tryz.prog 117 #[.agg #[.float .f32 a0, .float .f32 b0, .float .f32 a1, .float .f32 b1, .float .f32 a2, .float .f32 b2], .func (.func 119) #[] #[.pointer (some pa), .pointer (some pb)]] w fun e w' =>
      e = .returned (.agg #[.float .f32 y0, .float .f32 y1, .float .f32 y2]) ∧ Below w.heap.size w w' := by
  have K0 : Hid (∀ w1 : World, Below w.heap.size w w1 → Calls Tryz.prog 119 #[.agg #[.float .f32 a0, .float .f32 b0], .pointer (some pa), .pointer (some pb)] w1 fun e w' => e = .returned (.float .f32 y0) ∧ Below w1.heap.size w1 w') := k0
  have K1 : Hid (∀ w1 : World, Below w.heap.size w w1 → Calls Tryz.prog 119 #[.agg #[.float .f32 a1, .float .f32 b1], .pointer (some pa), .pointer (some pb)] w1 fun e w' => e = .returned (.float .f32 y1) ∧ Below w1.heap.size w1 w') := k1
  have K2 : Hid (∀ w1 : World, Below w.heap.size w w1 → Calls Tryz.prog 119 #[.agg #[.float .f32 a2, .float .f32 b2], .pointer (some pa), .pointer (some pb)] w1 fun e w' => e = .returned (.float .f32 y2) ∧ Below w1.heap.size w1 w') := k2
  clear k0 k1 k2
  have x0 : ∀ w : World, (Instr.index 164 (.agg #[.float .f32 a0, .float .f32 b0, .float .f32 a1, .float .f32 b1, .float .f32 a2, .float .f32 b2]) (.int .i64 0)).run Tryz.prog w = .ok (.agg #[.float .f32 a0, .float .f32 b0]) w := fun _ => by kernel_rfl
  have x1 : ∀ w : World, (Instr.index 164 (.agg #[.float .f32 a0, .float .f32 b0, .float .f32 a1, .float .f32 b1, .float .f32 a2, .float .f32 b2]) (.int .i64 1)).run Tryz.prog w = .ok (.agg #[.float .f32 a1, .float .f32 b1]) w := fun _ => by kernel_rfl
  have x2 : ∀ w : World, (Instr.index 164 (.agg #[.float .f32 a0, .float .f32 b0, .float .f32 a1, .float .f32 b1, .float .f32 a2, .float .f32 b2]) (.int .i64 2)).run Tryz.prog w = .ok (.agg #[.float .f32 a2, .float .f32 b2]) w := fun _ => by kernel_rfl
  go_enter Tryz.func117, Tryz.ntmps117
  go_wp2_with fail
  go_loopw [9] (fun i wr => ∃ k : Int, (k = 0 ∨ k = 1 ∨ k = 2 ∨ k = 3) ∧ i = .int .i64 k ∧ Blk wr (w.heap.size + 2) (row3 (.float .f32 y0) (.float .f32 y1) (.float .f32 y2) (.float .f32 0) k) 104 ∧ Blk wr (w.heap.size + 1) #[.float .f32 0, .float .f32 0, .float .f32 0] 104 ∧ Below w.heap.size w wr)
    (fun i _ => 3 - (intOf i).toNat)
  case atStart => exact ⟨0, Or.inl rfl, rfl, Blk.newAt (by simp), (Blk.newAt (by simp)).alloc, by (repeat' (first | (with_reducible exact Below.refl _ _) | (with_reducible assumption) | (with_reducible refine Below.alloc ?_ ?_ _) | (with_reducible refine Below.drew ?_) | (with_reducible refine Below.setCell ?_ ?_ _) | (with_reducible refine Below.trans ?_ (Below.mono (by assumption) ?_)) | (with_reducible exact Nat.le_refl _) | omega | (simp only [World.size_alloc, World.size_setCell, World.size_drew]; omega) | (simp; omega) | (simp; done)))⟩
  case round =>
    obtain ⟨k, hk, rfl, hB2, hB1, hbel⟩ := hrel
    have l2 := hB2.lt
    have l1 := hB1.lt
    have c20 := hB2.cell 0
    have c21 := hB2.cell 1
    have c22 := hB2.cell 2
    have f20 := hB2.free 0
    have f21 := hB2.free 1
    have f22 := hB2.free 2
    have c10 := hB1.cell 0
    have c11 := hB1.cell 1
    have c12 := hB1.cell 2
    have f10 := hB1.free 0
    have f11 := hB1.free 1
    have f12 := hB1.free 2
    have H2 : Hid (Blk wr (w.heap.size + 2) (row3 (.float .f32 y0) (.float .f32 y1) (.float .f32 y2) (.float .f32 0) k) 104) := hB2
    have H1 : Hid (Blk wr (w.heap.size + 1) #[.float .f32 0, .float .f32 0, .float .f32 0] 104) := hB1
    clear hB2 hB1
    rcases hk with rfl | rfl | rfl | rfl
    all_goals simp [row3] at c20 c21 c22 c10 c11 c12
    · go_wp2_with (first | simp only [x0] | (go_at_call 119; refine (K0.out _ (by (repeat' (first | (with_reducible exact Below.refl _ _) | (with_reducible assumption) | (with_reducible refine Below.alloc ?_ ?_ _) | (with_reducible refine Below.drew ?_) | (with_reducible refine Below.setCell ?_ ?_ _) | (with_reducible refine Below.trans ?_ (Below.mono (by assumption) ?_)) | (with_reducible exact Nat.le_refl _) | omega | (simp only [World.size_alloc, World.size_setCell, World.size_drew]; omega) | (simp; omega) | (simp; done))))).mono ?_; rintro e w1 ⟨rfl, hb⟩; obtain ⟨hc, hf⟩ := bcell hb; have HL := keepL (by (repeat (first | (with_reducible assumption) | (with_reducible apply AllLt.alloc) | (with_reducible apply AllLt.setCell) | (with_reducible apply AllLt.drew) | (with_reducible exact AllLt.nil _)))) hb; have hq := HL; simp only [AllLt, and_true, World.size_alloc, World.size_setCell, World.size_drew] at hq; have hbs := hb.size; try simp only [World.size_alloc, World.size_setCell, World.size_drew] at hbs))
      go_roundw
      case rel => exact ⟨1, by omega, rfl, Blk.setAt (cs := row3 (.float .f32 y0) (.float .f32 y1) (.float .f32 y2) (.float .f32 0) 0) (by omega) (by (repeat (first | (with_reducible exact H2.out) | (with_reducible refine Blk.below ?_ (by assumption)) | (with_reducible refine Blk.alloc ?_) | (with_reducible refine Blk.drew ?_) | (with_reducible refine Blk.other ?_ (by dsimp only; omega))))) rfl, by (repeat (first | (with_reducible exact H1.out) | (with_reducible refine Blk.below ?_ (by assumption)) | (with_reducible refine Blk.alloc ?_) | (with_reducible refine Blk.drew ?_) | (with_reducible refine Blk.other ?_ (by dsimp only; omega)))), by (repeat' (first | (with_reducible exact Below.refl _ _) | (with_reducible assumption) | (with_reducible refine Below.alloc ?_ ?_ _) | (with_reducible refine Below.drew ?_) | (with_reducible refine Below.setCell ?_ ?_ _) | (with_reducible refine Below.trans ?_ (Below.mono (by assumption) ?_)) | (with_reducible exact Nat.le_refl _) | omega | (simp only [World.size_alloc, World.size_setCell, World.size_drew]; omega) | (simp; omega) | (simp; done)))⟩
      case measure => simp [intOf]
    · go_wp2_with (first | simp only [x1] | (go_at_call 119; refine (K1.out _ (by (repeat' (first | (with_reducible exact Below.refl _ _) | (with_reducible assumption) | (with_reducible refine Below.alloc ?_ ?_ _) | (with_reducible refine Below.drew ?_) | (with_reducible refine Below.setCell ?_ ?_ _) | (with_reducible refine Below.trans ?_ (Below.mono (by assumption) ?_)) | (with_reducible exact Nat.le_refl _) | omega | (simp only [World.size_alloc, World.size_setCell, World.size_drew]; omega) | (simp; omega) | (simp; done))))).mono ?_; rintro e w1 ⟨rfl, hb⟩; obtain ⟨hc, hf⟩ := bcell hb; have HL := keepL (by (repeat (first | (with_reducible assumption) | (with_reducible apply AllLt.alloc) | (with_reducible apply AllLt.setCell) | (with_reducible apply AllLt.drew) | (with_reducible exact AllLt.nil _)))) hb; have hq := HL; simp only [AllLt, and_true, World.size_alloc, World.size_setCell, World.size_drew] at hq; have hbs := hb.size; try simp only [World.size_alloc, World.size_setCell, World.size_drew] at hbs))
      go_roundw
      case rel => exact ⟨2, by omega, rfl, Blk.setAt (cs := row3 (.float .f32 y0) (.float .f32 y1) (.float .f32 y2) (.float .f32 0) 1) (by omega) (by (repeat (first | (with_reducible exact H2.out) | (with_reducible refine Blk.below ?_ (by assumption)) | (with_reducible refine Blk.alloc ?_) | (with_reducible refine Blk.drew ?_) | (with_reducible refine Blk.other ?_ (by dsimp only; omega))))) rfl, by (repeat (first | (with_reducible exact H1.out) | (with_reducible refine Blk.below ?_ (by assumption)) | (with_reducible refine Blk.alloc ?_) | (with_reducible refine Blk.drew ?_) | (with_reducible refine Blk.other ?_ (by dsimp only; omega)))), by (repeat' (first | (with_reducible exact Below.refl _ _) | (with_reducible assumption) | (with_reducible refine Below.alloc ?_ ?_ _) | (with_reducible refine Below.drew ?_) | (with_reducible refine Below.setCell ?_ ?_ _) | (with_reducible refine Below.trans ?_ (Below.mono (by assumption) ?_)) | (with_reducible exact Nat.le_refl _) | omega | (simp only [World.size_alloc, World.size_setCell, World.size_drew]; omega) | (simp; omega) | (simp; done)))⟩
      case measure => simp [intOf]
    · go_wp2_with (first | simp only [x2] | (go_at_call 119; refine (K2.out _ (by (repeat' (first | (with_reducible exact Below.refl _ _) | (with_reducible assumption) | (with_reducible refine Below.alloc ?_ ?_ _) | (with_reducible refine Below.drew ?_) | (with_reducible refine Below.setCell ?_ ?_ _) | (with_reducible refine Below.trans ?_ (Below.mono (by assumption) ?_)) | (with_reducible exact Nat.le_refl _) | omega | (simp only [World.size_alloc, World.size_setCell, World.size_drew]; omega) | (simp; omega) | (simp; done))))).mono ?_; rintro e w1 ⟨rfl, hb⟩; obtain ⟨hc, hf⟩ := bcell hb; have HL := keepL (by (repeat (first | (with_reducible assumption) | (with_reducible apply AllLt.alloc) | (with_reducible apply AllLt.setCell) | (with_reducible apply AllLt.drew) | (with_reducible exact AllLt.nil _)))) hb; have hq := HL; simp only [AllLt, and_true, World.size_alloc, World.size_setCell, World.size_drew] at hq; have hbs := hb.size; try simp only [World.size_alloc, World.size_setCell, World.size_drew] at hbs))
      go_roundw
      case rel => exact ⟨3, by omega, rfl, Blk.setAt (cs := row3 (.float .f32 y0) (.float .f32 y1) (.float .f32 y2) (.float .f32 0) 2) (by omega) (by (repeat (first | (with_reducible exact H2.out) | (with_reducible refine Blk.below ?_ (by assumption)) | (with_reducible refine Blk.alloc ?_) | (with_reducible refine Blk.drew ?_) | (with_reducible refine Blk.other ?_ (by dsimp only; omega))))) rfl, by (repeat (first | (with_reducible exact H1.out) | (with_reducible refine Blk.below ?_ (by assumption)) | (with_reducible refine Blk.alloc ?_) | (with_reducible refine Blk.drew ?_) | (with_reducible refine Blk.other ?_ (by dsimp only; omega)))), by (repeat' (first | (with_reducible exact Below.refl _ _) | (with_reducible assumption) | (with_reducible refine Below.alloc ?_ ?_ _) | (with_reducible refine Below.drew ?_) | (with_reducible refine Below.setCell ?_ ?_ _) | (with_reducible refine Below.trans ?_ (Below.mono (by assumption) ?_)) | (with_reducible exact Nat.le_refl _) | omega | (simp only [World.size_alloc, World.size_setCell, World.size_drew]; omega) | (simp; omega) | (simp; done)))⟩
      case measure => simp [intOf]
    · have d0 := (H1.out.set (i := 0) (v := .float .f32 y0)).cell 0
      have d1 := ((H1.out.set (i := 0) (v := .float .f32 y0)).set (i := 1) (v := .float .f32 y1)).cell 1
      have d2 := (((H1.out.set (i := 0) (v := .float .f32 y0)).set (i := 1) (v := .float .f32 y1)).set (i := 2) (v := .float .f32 y2)).cell 2
      simp only [List.setIfInBounds_toArray, List.set_cons_zero, List.set_cons_succ, List.getElem?_toArray, List.getElem?_cons_zero, List.getElem?_cons_succ] at d0 d1 d2
      go_wp2
      exact bodyPost_ret (v := .agg #[.float .f32 y0, .float .f32 y1, .float .f32 y2]) (by simp [results, Tryz.results117, go_sem, d0, d1, d2]) rfl ⟨rfl, by (repeat' (first | (with_reducible exact Below.refl _ _) | (with_reducible assumption) | (with_reducible refine Below.alloc ?_ ?_ _) | (with_reducible refine Below.drew ?_) | (with_reducible refine Below.setCell ?_ ?_ _) | (with_reducible refine Below.trans ?_ (Below.mono (by assumption) ?_)) | (with_reducible exact Nat.le_refl _) | omega | (simp only [World.size_alloc, World.size_setCell, World.size_drew]; omega) | (simp; omega) | (simp; done)))⟩
end Go.Proofs.YtfdgijmmgllmgaaGreatDoor
namespace Go.Proofs.YtfdgijmmgllmgaaGreatDoor
open Go.ChangeShapes Go.WideShapes Go.ChangeAt Go.RowKit Go.Joins
set_option linter.unusedSimpArgs false
set_option linter.unusedVariables false
set_option maxRecDepth 100000
attribute [local go_sem] store_f
open Ieee
def minF (o : Ordering) (x y : Nat) : Nat := match o with | .lt => x | .gt => y | .eq => if (FloatKind.f32.decode x).neg then x else y
theorem run_min_f (P : Program) (w : World) (ts : Array TypeId) (t : TypeId) (x y : Nat) (o : Ordering) (h : FloatKind.f32.format.order x y = some o) : (Builtin.min_ ts t #[.float .f32 x, .float .f32 y]).run P w = .ok (.float .f32 (minF o x y)) w := by
  cases o <;> simp [Builtin.min_, Builtin.min2, h, minF]
theorem boundB_of {x : Nat} {o : Ordering} (e : FloatKind.f32.format.order x 1065353216 = some o) : boundB x = if (some o == some Ordering.gt) = true then 1065353216 else x := by
  unfold boundB; rw [e]
theorem order_one {x : Nat} (h : x < 2139095040) : FloatKind.f32.format.order x 1065353216 = some (compare (magOf F32 x : Int) (magOf F32 1065353216 : Int)) := by
  have h1 := order_fin F32 (fin_of_lt h) (fin_of_lt (x := 1065353216) (by omega))
  rw [val_of_lt (x := x) (by omega), val_of_lt (x := 1065353216) (by omega)] at h1
  exact h1
theorem minF_bound {x : Nat} (h : x < 2139095040) : ∃ o, FloatKind.f32.format.order x 1065353216 = some o ∧ minF o x 1065353216 = boundB x := by
  have e := order_one h
  have he := cmp_eq (a := (magOf F32 x : Int)) (b := (magOf F32 1065353216 : Int))
  generalize hp : (magOf F32 1065353216 : Int) = p at e he
  generalize ho : compare (magOf F32 x : Int) p = o at e he
  refine ⟨o, e, ?_⟩
  rw [boundB_of e]
  cases o
  · rfl
  · have h3 : x = 1065353216 := by
      have h4 : (magOf F32 x : Int) = p := by simpa using he
      rw [← hp] at h4
      exact magOf_inj F32 (by omega)
    show (if _ then x else 1065353216) = x
    rw [h3]
    split <;> rfl
  · rfl
theorem keepInBounds_i {x : Nat} (h : x < 2139095040) (w : World) :
    Calls Tryz.prog 120 #[.float .f32 x] w fun e w' => e = .returned (.float .f32 (boundB x)) ∧ w' = w := by
  obtain ⟨o, e1, e2⟩ := minF_bound h
  have hm := fun ts t w => run_min_f Tryz.prog w ts t x 1065353216 o e1
  rw [e2] at hm
  clear h e1 e2
  go_enter Tryz.func120, Tryz.ntmps120
  go_wp2_with (simp only [hm])
  all_goals (go_ret; exact ⟨rfl, rfl⟩)
def mixB (a b k : Nat) : Nat := boundB (addB (mulB a (subB 1065353216 k)) (mulB b k))
theorem boundB_le {x : Nat} (h : x < 2139095040) : boundB x ≤ 1065353216 := by
  have e := order_one h
  have he := cmp_gt (a := (magOf F32 x : Int)) (b := (magOf F32 1065353216 : Int))
  generalize hp : (magOf F32 1065353216 : Int) = p at e he
  generalize ho : compare (magOf F32 x : Int) p = o at e he
  rw [boundB_of e]
  rw [he]
  by_cases h1 : p < (magOf F32 x : Int)
  · rw [decide_eq_true h1, if_pos rfl]; exact Nat.le_refl _
  · rw [decide_eq_false h1, if_neg (by simp)]
    rw [← hp] at h1
    exact le_of_magOf F32 (by omega)
structure MixI (a b s k p q r m : Nat) : Prop where
  sa : ∀ w : World, Calls Tryz.prog 121 #[.float .f32 a, .float .f64 s] w fun e w' => e = .returned (.float .f32 p) ∧ w' = w
  sb : ∀ w : World, Calls Tryz.prog 121 #[.float .f32 b, .float .f64 k] w fun e w' => e = .returned (.float .f32 q) ∧ w' = w
  su : ∀ w : World, Calls Tryz.prog 88 #[.float .f32 p, .float .f32 q] w fun e w' => e = .returned (.float .f32 r) ∧ w' = w
  ke : ∀ w : World, Calls Tryz.prog 120 #[.float .f32 r] w fun e w' => e = .returned (.float .f32 m) ∧ w' = w
theorem part_less {k : Nat} (hk : Part k) : Part (subB 1065353216 k) := part_one.sub hk (by rw [pm_one]; exact hk.pm_le)
theorem mixI {a b k : Nat} (ha : Part a) (hb : Part b) (hk : Part k) : MixI a b (wide (subB 1065353216 k)) (wide k) (mulB a (subB 1065353216 k)) (mulB b k) (addB (mulB a (subB 1065353216 k)) (mulB b k)) (mixB a b k) :=
  ⟨fun w => shareOf_i ha (part_less hk) w, fun w => shareOf_i hb hk w, fun w => sumOf_p (ha.mul (part_less hk)) (hb.mul hk) w,
    fun w => keepInBounds_i (by have := (addB_part (ha.mul (part_less hk)) (hb.mul hk)).2; omega) w⟩
theorem mixB_le {a b k : Nat} (ha : Part a) (hb : Part b) (hk : Part k) : mixB a b k ≤ 1065353216 := boundB_le (by have := (addB_part (ha.mul (part_less hk)) (hb.mul hk)).2; omega)
theorem mixPart_i {a b s k p q r m : Nat} (H : MixI a b s k p q r m) (pa pb : Nat) (w : World) (ca : w.cell? ⟨pa, 0, Option.none⟩ = some (.float .f64 s)) (cb : w.cell? ⟨pb, 0, Option.none⟩ = some (.float .f64 k)) :
    Calls Tryz.prog 119 #[.agg #[.float .f32 a, .float .f32 b], .pointer (some ⟨pa, 0, Option.none⟩), .pointer (some ⟨pb, 0, Option.none⟩)] w fun e w' => e = .returned (.float .f32 m) ∧ Below w.heap.size w w' := by
  go_enter Tryz.func119, Tryz.ntmps119
  go_wp2_with fail
  have hB : Blk (w.alloc (.cells #[.float .f32 a, .float .f32 b] 163)) w.heap.size #[.float .f32 a, .float .f32 b] 163 := Blk.new _ _ _
  have ca1 : (w.alloc (.cells #[.float .f32 a, .float .f32 b] 163)).cell? ⟨pa, 0, Option.none⟩ = some (.float .f64 s) := cAlloc ca
  have cb1 : (w.alloc (.cells #[.float .f32 a, .float .f32 b] 163)).cell? ⟨pb, 0, Option.none⟩ = some (.float .f64 k) := cAlloc cb
  have hbel : Below w.heap.size w (w.alloc (.cells #[.float .f32 a, .float .f32 b] 163)) := by (repeat' (first | (with_reducible exact Below.refl _ _) | (with_reducible assumption) | (with_reducible refine Below.alloc ?_ ?_ _) | (with_reducible refine Below.drew ?_) | (with_reducible refine Below.setCell ?_ ?_ _) | (with_reducible refine Below.trans ?_ (Below.mono (by assumption) ?_)) | (with_reducible exact Nat.le_refl _) | omega | (simp only [World.size_alloc, World.size_setCell, World.size_drew]; omega) | (simp; omega) | (simp; done)))
  clear ca cb
  generalize w.alloc (.cells #[.float .f32 a, .float .f32 b] 163) = w1 at hB ca1 cb1 hbel ⊢
  have b0 := hB.cell 0
  have b1 := hB.cell 1
  simp at b0 b1
  refine wp_region_still_lit (by kernel_rfl) (by kernel_rfl) ?_
  repeat still_step
  still_call (H.sa _)
  repeat still_step
  still_call (H.sb _)
  repeat still_step
  still_call (H.su _)
  repeat still_step
  still_call (H.ke _)
  repeat still_step
  refine wpStill_nil ?_
  go_wp2
  all_goals (go_ret; exact ⟨rfl, hbel.drew⟩)
theorem eachMix_of {a b c x y z s k p0 q0 r0 p1 q1 r1 p2 q2 r2 m0 m1 m2 : Nat} (H0 : MixI a x s k p0 q0 r0 m0) (H1 : MixI b y s k p1 q1 r1 m1) (H2 : MixI c z s k p2 q2 r2 m2)
    (pa pb : Nat) (w : World) (ca : w.cell? ⟨pa, 0, Option.none⟩ = some (.float .f64 s)) (cb : w.cell? ⟨pb, 0, Option.none⟩ = some (.float .f64 k)) :
    Calls Tryz.prog 117 #[.agg #[.float .f32 a, .float .f32 x, .float .f32 b, .float .f32 y, .float .f32 c, .float .f32 z], .func (.func 119) #[] #[.pointer (some ⟨pa, 0, Option.none⟩), .pointer (some ⟨pb, 0, Option.none⟩)]] w fun e w' =>
      e = .returned (.agg #[.float .f32 m0, .float .f32 m1, .float .f32 m2]) ∧ Below w.heap.size w w' :=
  eachMix_i (a0 := a) (b0 := x) (a1 := b) (b1 := y) (a2 := c) (b2 := z) _ _ _ ⟨pa, 0, Option.none⟩ ⟨pb, 0, Option.none⟩ w
    (fun w1 h => mixPart_i H0 pa pb w1 (cBelow h ca) (cBelow h cb)) (fun w1 h => mixPart_i H1 pa pb w1 (cBelow h ca) (cBelow h cb)) (fun w1 h => mixPart_i H2 pa pb w1 (cBelow h ca) (cBelow h cb))
end Go.Proofs.YtfdgijmmgllmgaaGreatDoor
namespace Go.Proofs.YtfdgijmmgllmgaaGreatDoor
open Go.ChangeShapes Go.WideShapes Go.ChangeAt Go.RowKit Go.Joins
set_option linter.unusedSimpArgs false
set_option linter.unusedVariables false
set_option maxRecDepth 100000
attribute [local go_sem] store_f
structure AreC (a b c x y z : Nat) (p : Bool) : Prop where
  call : ∀ w : World, Calls Tryz.prog 114 #[.agg #[.float .f32 a, .float .f32 b, .float .f32 c], .agg #[.float .f32 x, .float .f32 y, .float .f32 z]] w fun e w' => e = .returned (.bool p) ∧ Below w.heap.size w w'
structure ShaI (k : Nat) (p : Bool) : Prop where
  call : ∀ w : World, Calls Tryz.prog 53 #[.float .f32 k] w fun e w' => e = .returned (.bool p) ∧ w' = w
structure LessI (k s : Nat) : Prop where
  call : ∀ w : World, Calls Tryz.prog 115 #[.float .f32 1065353216, .float .f32 k] w fun e w' => e = .returned (.float .f32 s) ∧ w' = w
structure EachM (a b c x y z s k p q r : Nat) : Prop where
  call : ∀ (pa pb : Nat) (w : World), w.cell? ⟨pa, 0, Option.none⟩ = some (.float .f64 s) → w.cell? ⟨pb, 0, Option.none⟩ = some (.float .f64 k) →
    Calls Tryz.prog 117 #[.agg #[.float .f32 a, .float .f32 x, .float .f32 b, .float .f32 y, .float .f32 c, .float .f32 z], .func (.func 119) #[] #[.pointer (some ⟨pa, 0, Option.none⟩), .pointer (some ⟨pb, 0, Option.none⟩)]] w fun e w' =>
      e = .returned (.agg #[.float .f32 p, .float .f32 q, .float .f32 r]) ∧ Below w.heap.size w w'
structure PairI (a b c x y z : Nat) : Prop where
  call : ∀ w : World, Calls Tryz.prog 118 #[.agg #[.float .f32 a, .float .f32 b, .float .f32 c], .agg #[.float .f32 x, .float .f32 y, .float .f32 z]] w fun e w' => e = .returned (.agg #[.float .f32 a, .float .f32 x, .float .f32 b, .float .f32 y, .float .f32 c, .float .f32 z]) ∧ Below w.heap.size w w'
structure ColI (a b c : Nat) : Prop where
  call : ∀ w : World, Calls Tryz.prog 116 #[.agg #[.float .f32 a, .float .f32 b, .float .f32 c]] w fun e w' => e = .returned (.agg #[.float .f32 a, .float .f32 b, .float .f32 c]) ∧ Below w.heap.size w w'
set_option maxHeartbeats 1000000 in
theorem mix_i_yes (a b c x y z k s s2 k2 p q r : Nat) (K : AreC a b c x y z true) (S : ShaI k true) (L : LessI k s)
    (cs : floatToFloatBits .f32 s .f64 = some s2) (ck : floatToFloatBits .f32 k .f64 = some k2) (P : PairI a b c x y z) (E : EachM a b c x y z s2 k2 p q r) (C : ColI p q r) (w : World) :
    Calls Tryz.prog 81 #[colV a b c, colV x y z, .float .f32 k] w fun e w' => e = .returned (colV p q r) ∧ Below w.heap.size w w' := by
  have qs := fun w => run_convert_float_float (P := Tryz.prog) w 24 159 .f32 .f64 s _ (by rw [Tryz.underlying24]; rfl) Tryz.underlying159 cs
  have qk := fun w => run_convert_float_float (P := Tryz.prog) w 24 159 .f32 .f64 k _ (by rw [Tryz.underlying24]; rfl) Tryz.underlying159 ck
  clear cs ck
  unfold colV
  go_enter Tryz.func81, Tryz.ntmps81
  go_wp2_with (first | simp only [qs] | simp only [qk] | (go_at_call 114; refine (K.call _).mono ?_; rintro e w1 ⟨rfl, hb⟩; obtain ⟨hc, hf⟩ := bcell hb; have HL := keepL (by (repeat (first | (with_reducible assumption) | (with_reducible apply AllLt.alloc) | (with_reducible apply AllLt.setCell) | (with_reducible apply AllLt.drew) | (with_reducible exact AllLt.nil _)))) hb; have hq := HL; simp only [AllLt, and_true, World.size_alloc, World.size_setCell, World.size_drew] at hq; have hbs := hb.size; try simp only [World.size_alloc, World.size_setCell, World.size_drew] at hbs) | (go_at_call 53; refine (S.call _).mono ?_; rintro e w2 ⟨rfl, rfl⟩) | (go_at_call 115; refine (L.call _).mono ?_; rintro e w3 ⟨rfl, rfl⟩) | (go_at_call 118; refine (P.call _).mono ?_; rintro e w4 ⟨rfl, hb⟩; obtain ⟨hc, hf⟩ := bcell hb; have HL := keepL (by (repeat (first | (with_reducible assumption) | (with_reducible apply AllLt.alloc) | (with_reducible apply AllLt.setCell) | (with_reducible apply AllLt.drew) | (with_reducible exact AllLt.nil _)))) hb; have hq := HL; simp only [AllLt, and_true, World.size_alloc, World.size_setCell, World.size_drew] at hq; have hbs := hb.size; try simp only [World.size_alloc, World.size_setCell, World.size_drew] at hbs))
  have ca : w4.cell? ⟨w3.heap.size, 0, Option.none⟩ = some (.float .f64 s2) := by ((repeat (first | (with_reducible assumption) | (with_reducible exact cNewAt (by first | rfl | (simp only [World.size_alloc, World.size_setCell, World.size_drew]; done) | omega) rfl) | (with_reducible exact sNewAt (by first | rfl | (simp only [World.size_alloc, World.size_setCell, World.size_drew]; done) | omega) rfl) | (simp; done) | (with_reducible apply cAlloc) | (with_reducible apply cDrew) | (with_reducible refine cSet (by dsimp only; omega) ?_) | (with_reducible refine cSetOff (by dsimp only; omega) ?_) | (with_reducible apply cSame) | (with_reducible refine cBelow (by assumption) ?_) | (with_reducible apply sAlloc) | (with_reducible apply sDrew) | (with_reducible refine sBelow (by assumption) ?_) | (with_reducible refine sSet (by dsimp only; omega) ?_))); first | done | (simp [*]; done))
  have cb : w4.cell? ⟨w3.heap.size + 1, 0, Option.none⟩ = some (.float .f64 k2) := by ((repeat (first | (with_reducible assumption) | (with_reducible exact cNewAt (by first | rfl | (simp only [World.size_alloc, World.size_setCell, World.size_drew]; done) | omega) rfl) | (with_reducible exact sNewAt (by first | rfl | (simp only [World.size_alloc, World.size_setCell, World.size_drew]; done) | omega) rfl) | (simp; done) | (with_reducible apply cAlloc) | (with_reducible apply cDrew) | (with_reducible refine cSet (by dsimp only; omega) ?_) | (with_reducible refine cSetOff (by dsimp only; omega) ?_) | (with_reducible apply cSame) | (with_reducible refine cBelow (by assumption) ?_) | (with_reducible apply sAlloc) | (with_reducible apply sDrew) | (with_reducible refine sBelow (by assumption) ?_) | (with_reducible refine sSet (by dsimp only; omega) ?_))); first | done | (simp [*]; done))
  refine (E.call _ _ _ ca cb).mono ?_
  rintro e w5 ⟨rfl, hb5⟩
  have hb := hb5
  obtain ⟨hc, hf⟩ := bcell hb; have HL := keepL (by (repeat (first | (with_reducible assumption) | (with_reducible apply AllLt.alloc) | (with_reducible apply AllLt.setCell) | (with_reducible apply AllLt.drew) | (with_reducible exact AllLt.nil _)))) hb; have hq := HL; simp only [AllLt, and_true, World.size_alloc, World.size_setCell, World.size_drew] at hq; have hbs := hb.size; try simp only [World.size_alloc, World.size_setCell, World.size_drew] at hbs
  go_wp2_with (go_at_call 116; refine (C.call _).mono ?_; rintro e w6 ⟨rfl, hb6⟩; have hb := hb6; obtain ⟨hc, hf⟩ := bcell hb; have HL := keepL (by (repeat (first | (with_reducible assumption) | (with_reducible apply AllLt.alloc) | (with_reducible apply AllLt.setCell) | (with_reducible apply AllLt.drew) | (with_reducible exact AllLt.nil _)))) hb; have hq := HL; simp only [AllLt, and_true, World.size_alloc, World.size_setCell, World.size_drew] at hq; have hbs := hb.size; try simp only [World.size_alloc, World.size_setCell, World.size_drew] at hbs)
  (have HB : Blk w6 (w.heap.size + 2) #[.float .f32 0, .float .f32 0, .float .f32 0] 26 := (by (repeat (first | (with_reducible exact Blk.newAt (by simp; done)) | (with_reducible refine Blk.below ?_ (by assumption)) | (with_reducible refine Blk.alloc ?_) | (with_reducible refine Blk.drew ?_) | (with_reducible refine Blk.other ?_ (by dsimp only; omega))))); (have d0 := (HB.set (i := 0) (v := .float .f32 p)).cell 0; have d1 := ((HB.set (i := 0) (v := .float .f32 p)).set (i := 1) (v := .float .f32 q)).cell 1; have d2 := (((HB.set (i := 0) (v := .float .f32 p)).set (i := 1) (v := .float .f32 q)).set (i := 2) (v := .float .f32 r)).cell 2; simp only [List.setIfInBounds_toArray, List.set_cons_zero, List.set_cons_succ, List.getElem?_toArray, List.getElem?_cons_zero, List.getElem?_cons_succ] at d0 d1 d2; exact bodyPost_ret (v := .agg #[.float .f32 p, .float .f32 q, .float .f32 r]) (by simp [results, Tryz.results81, go_sem, d0, d1, d2]) rfl ⟨rfl, by (repeat' (first | (with_reducible exact Below.refl _ _) | (with_reducible assumption) | (with_reducible refine Below.alloc ?_ ?_ _) | (with_reducible refine Below.drew ?_) | (with_reducible refine Below.setCell ?_ ?_ _) | (with_reducible refine Below.trans ?_ (Below.mono (by assumption) ?_)) | (with_reducible exact Nat.le_refl _) | omega | (simp only [World.size_alloc, World.size_setCell, World.size_drew]; omega) | (simp; omega) | (simp; done)))⟩))
end Go.Proofs.YtfdgijmmgllmgaaGreatDoor
