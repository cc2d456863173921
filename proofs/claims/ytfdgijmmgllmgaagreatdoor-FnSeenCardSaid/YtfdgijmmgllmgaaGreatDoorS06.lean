/-
  Texts Cc Cd Lall Gb Gc Pw, joined.
-/
import Derived.Test.YtfdgijmmgllmgaaGreatDoorS05
import Derived.Test.YtfdgijmmgllmgaaGreatDoorS01
import Derived.Maps.AppendAt
namespace Go.Proofs.YtfdgijmmgllmgaaGreatDoor
open Go.ChangeShapes Go.WideShapes Go.ChangeAt Go.RowKit Go.Joins
set_option linter.unusedSimpArgs false
set_option linter.unusedVariables false
set_option maxRecDepth 100000
attribute [local go_sem] store_f
def row3 (a b c z : Value) (k : Int) : Array Value := #[if 0 < k then a else z, if 1 < k then b else z, if 2 < k then c else z]
theorem eachShare_i (x y z : Nat) (w : World) :
    Calls Tryz.prog 51 #[.agg #[.float .f32 x, .float .f32 y, .float .f32 z], .func (.func 53) #[] #[]] w fun e w' =>
      e = .returned (.agg #[.bool (shareB x), .bool (shareB y), .bool (shareB z)]) ∧ Below w.heap.size w w' := by
  have x0 : ∀ w : World, (Instr.index 104 (.agg #[.float .f32 x, .float .f32 y, .float .f32 z]) (.int .i64 0)).run Tryz.prog w = .ok (.float .f32 x) w := fun _ => by kernel_rfl
  have x1 : ∀ w : World, (Instr.index 104 (.agg #[.float .f32 x, .float .f32 y, .float .f32 z]) (.int .i64 1)).run Tryz.prog w = .ok (.float .f32 y) w := fun _ => by kernel_rfl
  have x2 : ∀ w : World, (Instr.index 104 (.agg #[.float .f32 x, .float .f32 y, .float .f32 z]) (.int .i64 2)).run Tryz.prog w = .ok (.float .f32 z) w := fun _ => by kernel_rfl
  go_enter Tryz.func51, Tryz.ntmps51
  go_wp2_with fail
  go_loopw [9] (fun i wr => ∃ k : Int, (k = 0 ∨ k = 1 ∨ k = 2 ∨ k = 3) ∧ i = .int .i64 k ∧ Blk wr (w.heap.size + 2) (row3 (.bool (shareB x)) (.bool (shareB y)) (.bool (shareB z)) (.bool false) k) 102 ∧ Blk wr (w.heap.size + 1) #[.bool false, .bool false, .bool false] 102 ∧ Below w.heap.size w wr)
    (fun i _ => 3 - (intOf i).toNat)
  case atStart => exact ⟨0, Or.inl rfl, rfl, Blk.newAt (by simp), (Blk.newAt (by simp)).alloc, by (repeat' (first | (with_reducible exact Below.refl _ _) | (with_reducible assumption) | (with_reducible refine Below.alloc ?_ ?_ _) | (with_reducible refine Below.drew ?_) | (with_reducible refine Below.setCell ?_ ?_ _) | (with_reducible refine Below.trans ?_ (Below.mono (by assumption) ?_)) | (with_reducible exact Nat.le_refl _) | omega | (simp only [World.size_alloc, World.size_setCell, World.size_drew]; omega) | (simp; omega) | (simp; done)))⟩
  case round =>
    obtain ⟨k, hk, rfl, hB2, hB1, hbel⟩ := hrel
    have l2 := hB2.lt
    have l1 := hB1.lt
    have c20 := hB2.cell 0
    have c21 := hB2.cell 1
    have c22 := hB2.cell 2
    have f20 := hB2.free 0
    have f21 := hB2.free 1
    have f22 := hB2.free 2
    have c10 := hB1.cell 0
    have c11 := hB1.cell 1
    have c12 := hB1.cell 2
    have f10 := hB1.free 0
    have f11 := hB1.free 1
    have f12 := hB1.free 2
    have H2 : Hid (Blk wr (w.heap.size + 2) (row3 (.bool (shareB x)) (.bool (shareB y)) (.bool (shareB z)) (.bool false) k) 102) := hB2
    have H1 : Hid (Blk wr (w.heap.size + 1) #[.bool false, .bool false, .bool false] 102) := hB1
    clear hB2 hB1
    rcases hk with rfl | rfl | rfl | rfl
    all_goals simp [row3] at c20 c21 c22 c10 c11 c12
    · go_wp2_with (first | simp only [x0] | (go_at_call 53; refine (isShare_i _ _).mono ?_; rintro e w1 ⟨rfl, rfl⟩))
      go_roundw
      case rel => exact ⟨1, by omega, rfl, H2.out.set, H1.out.other (by simp), by (repeat' (first | (with_reducible exact Below.refl _ _) | (with_reducible assumption) | (with_reducible refine Below.alloc ?_ ?_ _) | (with_reducible refine Below.drew ?_) | (with_reducible refine Below.setCell ?_ ?_ _) | (with_reducible refine Below.trans ?_ (Below.mono (by assumption) ?_)) | (with_reducible exact Nat.le_refl _) | omega | (simp only [World.size_alloc, World.size_setCell, World.size_drew]; omega) | (simp; omega) | (simp; done)))⟩
      case measure => simp [intOf]
    · go_wp2_with (first | simp only [x1] | (go_at_call 53; refine (isShare_i _ _).mono ?_; rintro e w1 ⟨rfl, rfl⟩))
      go_roundw
      case rel => exact ⟨2, by omega, rfl, H2.out.set, H1.out.other (by simp), by (repeat' (first | (with_reducible exact Below.refl _ _) | (with_reducible assumption) | (with_reducible refine Below.alloc ?_ ?_ _) | (with_reducible refine Below.drew ?_) | (with_reducible refine Below.setCell ?_ ?_ _) | (with_reducible refine Below.trans ?_ (Below.mono (by assumption) ?_)) | (with_reducible exact Nat.le_refl _) | omega | (simp only [World.size_alloc, World.size_setCell, World.size_drew]; omega) | (simp; omega) | (simp; done)))⟩
      case measure => simp [intOf]
    · go_wp2_with (first | simp only [x2] | (go_at_call 53; refine (isShare_i _ _).mono ?_; rintro e w1 ⟨rfl, rfl⟩))
      go_roundw
      case rel => exact ⟨3, by omega, rfl, H2.out.set, H1.out.other (by simp), by (repeat' (first | (with_reducible exact Below.refl _ _) | (with_reducible assumption) | (with_reducible refine Below.alloc ?_ ?_ _) | (with_reducible refine Below.drew ?_) | (with_reducible refine Below.setCell ?_ ?_ _) | (with_reducible refine Below.trans ?_ (Below.mono (by assumption) ?_)) | (with_reducible exact Nat.le_refl _) | omega | (simp only [World.size_alloc, World.size_setCell, World.size_drew]; omega) | (simp; omega) | (simp; done)))⟩
      case measure => simp [intOf]
    · have d0 := (H1.out.set (i := 0) (v := .bool (shareB x))).cell 0
      have d1 := ((H1.out.set (i := 0) (v := .bool (shareB x))).set (i := 1) (v := .bool (shareB y))).cell 1
      have d2 := (((H1.out.set (i := 0) (v := .bool (shareB x))).set (i := 1) (v := .bool (shareB y))).set (i := 2) (v := .bool (shareB z))).cell 2
      simp only [List.setIfInBounds_toArray, List.set_cons_zero, List.set_cons_succ, List.getElem?_toArray, List.getElem?_cons_zero, List.getElem?_cons_succ] at d0 d1 d2
      go_wp2
      exact bodyPost_ret (v := .agg #[.bool (shareB x), .bool (shareB y), .bool (shareB z)]) (by simp [results, Tryz.results51, go_sem, d0, d1, d2]) rfl ⟨rfl, by (repeat' (first | (with_reducible exact Below.refl _ _) | (with_reducible assumption) | (with_reducible refine Below.alloc ?_ ?_ _) | (with_reducible refine Below.drew ?_) | (with_reducible refine Below.setCell ?_ ?_ _) | (with_reducible refine Below.trans ?_ (Below.mono (by assumption) ?_)) | (with_reducible exact Nat.le_refl _) | omega | (simp only [World.size_alloc, World.size_setCell, World.size_drew]; omega) | (simp; omega) | (simp; done)))⟩
end Go.Proofs.YtfdgijmmgllmgaaGreatDoor
namespace Go.Proofs.YtfdgijmmgllmgaaGreatDoor
open Go.ChangeShapes Go.WideShapes Go.ChangeAt Go.RowKit Go.Joins
set_option linter.unusedSimpArgs false
set_option linter.unusedVariables false
set_option maxRecDepth 100000
attribute [local go_sem] store_f
def colB (r g b : Nat) : Bool := shareB r && shareB g && shareB b
set_option maxHeartbeats 800000 in
theorem isColour_s (r g b : Nat) (hr : r < 4294967296) (hg : g < 4294967296) (hb : b < 4294967296) (w : World) :
    Calls Tryz.prog 97 #[colV r g b] w fun e w' => e = .returned (.bool (colB r g b)) ∧ Below w.heap.size w w' := by
  unfold colV colB
  cases hsr : shareB r
  · go_enter Tryz.func97, Tryz.ntmps97
    go_wp2_with (go_at_call 133; refine (l2Part_s _ (by assumption) _).mono ?_; rintro e w1 ⟨rfl, hb⟩; simp only [hsr]; obtain ⟨hc, hf⟩ := bcell hb; have HL := keepL (by (repeat (first | (with_reducible assumption) | (with_reducible apply AllLt.alloc) | (with_reducible apply AllLt.setCell) | (with_reducible apply AllLt.drew) | (with_reducible exact AllLt.nil _)))) hb; have hq := HL; simp only [AllLt, and_true, World.size_alloc, World.size_setCell, World.size_drew] at hq; have hbs := hb.size; try simp only [World.size_alloc, World.size_setCell, World.size_drew] at hbs)
    all_goals go_returns; exact ⟨rfl, by (repeat' (first | (with_reducible exact Below.refl _ _) | (with_reducible assumption) | (with_reducible refine Below.alloc ?_ ?_ _) | (with_reducible refine Below.drew ?_) | (with_reducible refine Below.setCell ?_ ?_ _) | (with_reducible refine Below.trans ?_ (Below.mono (by assumption) ?_)) | (with_reducible exact Nat.le_refl _) | omega | (simp only [World.size_alloc, World.size_setCell, World.size_drew]; omega) | (simp; omega) | (simp; done)))⟩
  · cases hsg : shareB g
    · go_enter Tryz.func97, Tryz.ntmps97
      go_wp2_with (go_at_call 133; refine (l2Part_s _ (by assumption) _).mono ?_; rintro e w1 ⟨rfl, hb⟩; simp only [hsr, hsg]; obtain ⟨hc, hf⟩ := bcell hb; have HL := keepL (by (repeat (first | (with_reducible assumption) | (with_reducible apply AllLt.alloc) | (with_reducible apply AllLt.setCell) | (with_reducible apply AllLt.drew) | (with_reducible exact AllLt.nil _)))) hb; have hq := HL; simp only [AllLt, and_true, World.size_alloc, World.size_setCell, World.size_drew] at hq; have hbs := hb.size; try simp only [World.size_alloc, World.size_setCell, World.size_drew] at hbs)
      all_goals go_returns; exact ⟨rfl, by (repeat' (first | (with_reducible exact Below.refl _ _) | (with_reducible assumption) | (with_reducible refine Below.alloc ?_ ?_ _) | (with_reducible refine Below.drew ?_) | (with_reducible refine Below.setCell ?_ ?_ _) | (with_reducible refine Below.trans ?_ (Below.mono (by assumption) ?_)) | (with_reducible exact Nat.le_refl _) | omega | (simp only [World.size_alloc, World.size_setCell, World.size_drew]; omega) | (simp; omega) | (simp; done)))⟩
    · cases hsb : shareB b
      · go_enter Tryz.func97, Tryz.ntmps97
        go_wp2_with (go_at_call 133; refine (l2Part_s _ (by assumption) _).mono ?_; rintro e w1 ⟨rfl, hb⟩; simp only [hsr, hsg, hsb]; obtain ⟨hc, hf⟩ := bcell hb; have HL := keepL (by (repeat (first | (with_reducible assumption) | (with_reducible apply AllLt.alloc) | (with_reducible apply AllLt.setCell) | (with_reducible apply AllLt.drew) | (with_reducible exact AllLt.nil _)))) hb; have hq := HL; simp only [AllLt, and_true, World.size_alloc, World.size_setCell, World.size_drew] at hq; have hbs := hb.size; try simp only [World.size_alloc, World.size_setCell, World.size_drew] at hbs)
        all_goals go_returns; exact ⟨rfl, by (repeat' (first | (with_reducible exact Below.refl _ _) | (with_reducible assumption) | (with_reducible refine Below.alloc ?_ ?_ _) | (with_reducible refine Below.drew ?_) | (with_reducible refine Below.setCell ?_ ?_ _) | (with_reducible refine Below.trans ?_ (Below.mono (by assumption) ?_)) | (with_reducible exact Nat.le_refl _) | omega | (simp only [World.size_alloc, World.size_setCell, World.size_drew]; omega) | (simp; omega) | (simp; done)))⟩
      · go_enter Tryz.func97, Tryz.ntmps97
        go_wp2_with (go_at_call 133; refine (l2Part_s _ (by assumption) _).mono ?_; rintro e w1 ⟨rfl, hb⟩; simp only [hsr, hsg, hsb]; obtain ⟨hc, hf⟩ := bcell hb; have HL := keepL (by (repeat (first | (with_reducible assumption) | (with_reducible apply AllLt.alloc) | (with_reducible apply AllLt.setCell) | (with_reducible apply AllLt.drew) | (with_reducible exact AllLt.nil _)))) hb; have hq := HL; simp only [AllLt, and_true, World.size_alloc, World.size_setCell, World.size_drew] at hq; have hbs := hb.size; try simp only [World.size_alloc, World.size_setCell, World.size_drew] at hbs)
        all_goals go_returns; exact ⟨rfl, by (repeat' (first | (with_reducible exact Below.refl _ _) | (with_reducible assumption) | (with_reducible refine Below.alloc ?_ ?_ _) | (with_reducible refine Below.drew ?_) | (with_reducible refine Below.setCell ?_ ?_ _) | (with_reducible refine Below.trans ?_ (Below.mono (by assumption) ?_)) | (with_reducible exact Nat.le_refl _) | omega | (simp only [World.size_alloc, World.size_setCell, World.size_drew]; omega) | (simp; omega) | (simp; done)))⟩
theorem partsOf_i (r g b : Nat) (w : World) :
    Calls Tryz.prog 52 #[colV r g b] w fun e w' => e = .returned (.agg #[.float .f32 r, .float .f32 g, .float .f32 b]) ∧ Below w.heap.size w w' := by
  unfold colV
  go_enter Tryz.func52, Tryz.ntmps52
  go_wp2
  go_returns; exact ⟨rfl, by (repeat' (first | (with_reducible exact Below.refl _ _) | (with_reducible assumption) | (with_reducible refine Below.alloc ?_ ?_ _) | (with_reducible refine Below.drew ?_) | (with_reducible refine Below.setCell ?_ ?_ _) | (with_reducible refine Below.trans ?_ (Below.mono (by assumption) ?_)) | (with_reducible exact Nat.le_refl _) | omega | (simp only [World.size_alloc, World.size_setCell, World.size_drew]; omega) | (simp; omega) | (simp; done)))⟩
theorem colourOf_i (r g b : Nat) (w : World) :
    Calls Tryz.prog 116 #[.agg #[.float .f32 r, .float .f32 g, .float .f32 b]] w fun e w' => e = .returned (colV r g b) ∧ Below w.heap.size w w' := by
  unfold colV
  go_enter Tryz.func116, Tryz.ntmps116
  go_wp2
  go_returns; exact ⟨rfl, by (repeat' (first | (with_reducible exact Below.refl _ _) | (with_reducible assumption) | (with_reducible refine Below.alloc ?_ ?_ _) | (with_reducible refine Below.drew ?_) | (with_reducible refine Below.setCell ?_ ?_ _) | (with_reducible refine Below.trans ?_ (Below.mono (by assumption) ?_)) | (with_reducible exact Nat.le_refl _) | omega | (simp only [World.size_alloc, World.size_setCell, World.size_drew]; omega) | (simp; omega) | (simp; done)))⟩
theorem isColour_i (r g b : Nat) (w : World) :
    Calls Tryz.prog 20 #[colV r g b] w fun e w' => e = .returned (.bool (colB r g b)) ∧ Below w.heap.size w w' := by
  unfold colV colB
  have he : ∀ (a b c : Bool) (w : World), (binOp .eql 102 (.agg #[.bool a, .bool b, .bool c]) (.agg #[.bool true, .bool true, .bool true])).run Tryz.prog w = .ok (.bool (a && b && c)) w := fun a b c w => by cases a <;> cases b <;> cases c <;> kernel_rfl
  go_enter Tryz.func20, Tryz.ntmps20
  go_wp2_with (first | (go_at_call 52; refine (partsOf_i _ _ _ _).mono ?_; rintro e w1 ⟨rfl, hb⟩; obtain ⟨hc, hf⟩ := bcell hb; have HL := keepL (by (repeat (first | (with_reducible assumption) | (with_reducible apply AllLt.alloc) | (with_reducible apply AllLt.setCell) | (with_reducible apply AllLt.drew) | (with_reducible exact AllLt.nil _)))) hb; have hq := HL; simp only [AllLt, and_true, World.size_alloc, World.size_setCell, World.size_drew] at hq; have hbs := hb.size; try simp only [World.size_alloc, World.size_setCell, World.size_drew] at hbs) | (go_at_call 51; refine (eachShare_i _ _ _ _).mono ?_; rintro e w2 ⟨rfl, hb⟩; obtain ⟨hc, hf⟩ := bcell hb; have HL := keepL (by (repeat (first | (with_reducible assumption) | (with_reducible apply AllLt.alloc) | (with_reducible apply AllLt.setCell) | (with_reducible apply AllLt.drew) | (with_reducible exact AllLt.nil _)))) hb; have hq := HL; simp only [AllLt, and_true, World.size_alloc, World.size_setCell, World.size_drew] at hq; have hbs := hb.size; try simp only [World.size_alloc, World.size_setCell, World.size_drew] at hbs) | simp only [he])
  all_goals (go_returns; exact ⟨rfl, by (repeat' (first | (with_reducible exact Below.refl _ _) | (with_reducible assumption) | (with_reducible refine Below.alloc ?_ ?_ _) | (with_reducible refine Below.drew ?_) | (with_reducible refine Below.setCell ?_ ?_ _) | (with_reducible refine Below.trans ?_ (Below.mono (by assumption) ?_)) | (with_reducible exact Nat.le_refl _) | omega | (simp only [World.size_alloc, World.size_setCell, World.size_drew]; omega) | (simp; omega) | (simp; done)))⟩)
end Go.Proofs.YtfdgijmmgllmgaaGreatDoor
namespace Go.Proofs.YtfdgijmmgllmgaaGreatDoor
open Go.ChangeShapes Go.WideShapes Go.ChangeAt Go.RowKit Go.Joins 
set_option linter.unusedSimpArgs false
set_option linter.unusedVariables false
def symK (k : Nat) : Int × Bool := ((k : Int) % 4, decide (4 ≤ (k : Int)))
def symCells (l : List (Int × Bool)) : List Value := l.flatMap fun p => [.int .i64 p.1, .bool p.2]
theorem symCells_snoc (l : List (Int × Bool)) (p : Int × Bool) : symCells (l ++ [p]) = symCells l ++ [.int .i64 p.1, .bool p.2] := by simp [symCells]
theorem infoSym : (Tryz.prog.info? 52).map (fun i => (i.zero, i.size, i.bytes)) = some (some (.agg #[.int .i64 0, .bool false]), 2, 16) := by kernel_rfl
def allTo (k : Nat) : List (Int × Bool) := (List.range k).map symK
theorem allTo_succ (k : Nat) : allTo (k + 1) = allTo k ++ [symK k] := by simp [allTo, List.range_succ]
theorem symCells_at (k : Nat) (hk : k < 8) : (symCells (allTo 8))[k * 2]? = some (.int .i64 (symK k).1) ∧ (symCells (allTo 8))[k * 2 + 1]? = some (.bool (symK k).2) := by
  rcases (by omega : k = 0 ∨ k = 1 ∨ k = 2 ∨ k = 3 ∨ k = 4 ∨ k = 5 ∨ k = 6 ∨ k = 7) with rfl | rfl | rfl | rfl | rfl | rfl | rfl | rfl <;> exact ⟨rfl, rfl⟩
set_option maxHeartbeats 1600000 in
set_option maxRecDepth 1000000 in
theorem l1All_s (w : World) :
    Calls Tryz.prog 150 #[] w fun e w' => ∃ g cap, e = .returned (.slice (some ⟨g, 0, Option.none⟩) 8 cap) ∧ w'.ownsRow w.heap.size 52 2 (.slice (some ⟨g, 0, Option.none⟩) 8 cap) 8 (symCells (allTo 8)) ∧ Below w.heap.size w w' := by
  obtain ⟨i0, hi, hz0, hz1, hz2⟩ := info_parts infoSym
  go_enter Tryz.func150, Tryz.ntmps150
  go_wp2
  go_loopw [1, 2] (fun v i wr => ∃ k : Nat, k ≤ 8 ∧ i = .int .i64 k ∧ wr.ownsRow w.heap.size 52 2 v k (symCells (allTo k)) ∧ Below w.heap.size w wr)
    (fun _ i _ => 8 - (intOf i).toNat)
  case atStart => exact ⟨0, by omega, rfl, World.ownsRow_lit _ #[] 0 (by simp) (by unfold maxLen; omega) rfl, by (repeat' (first | (with_reducible exact Below.refl _ _) | (with_reducible assumption) | (with_reducible refine Below.alloc ?_ ?_ _) | (with_reducible refine Below.drew ?_) | (with_reducible refine Below.setCell ?_ ?_ _) | (with_reducible refine Below.trans ?_ (Below.mono (by assumption) ?_)) | (with_reducible exact Nat.le_refl _) | omega | (simp only [World.size_alloc, World.size_setCell, World.size_drew]; omega) | (simp; omega) | (simp; done)))⟩
  case round =>
    obtain ⟨k, hk, rfl, hown, hbel⟩ := hrel
    have hbase := hbel.size
    by_cases hlt : k < 8
    · have HY : Hid (allTo (k + 1) = allTo k ++ [symK k]) := allTo_succ k
      go_wp2_with (at_builtin; go_loud (refine wpList_append_own _ rfl _ _ 47 rfl w.heap.size 52 i0 (.agg #[.int .i64 0, .bool false]) 2 16 Tryz.underlying47 hi hz0 hz1 hz2 rfl (by decide) _ k (symCells (allTo k)) rfl ?hown ⟨wr.heap.size, 0, Option.none⟩ 1 1 [.int .i64 (symK k).1, .bool (symK k).2] rfl rfl ?c1 ?c2 ?c3 ?c4 ?c5 ?_))
      case hown => (change World.ownsRow _ _ _ _ u1 _ _; (repeat (first | (with_reducible assumption) | (with_reducible refine World.ownsRow.alloc ?_ _) | (with_reducible refine World.ownsRow.drew ?_) | (with_reducible refine ownsBelow (by assumption) ?_))))
      case c1 =>
        intro j u hj
        rcases j with _ | _ | j <;> simp [symK] at hj <;> subst hj <;> simp [Addr.add]
      case c2 =>
        intro u hu
        simp at hu
        rcases hu with rfl | rfl <;> rfl
      case c3 => (unfold maxLen; omega)
      case c4 => omega
      case c5 => first | omega | (simp only [World.size_alloc, World.size_setCell, World.size_drew]; omega)
      intro v' w2 hown' hgrow _
      have hb2 : Below w.heap.size w w2 := Below.grown (by (repeat' (first | (with_reducible exact Below.refl _ _) | (with_reducible assumption) | (with_reducible refine Below.alloc ?_ ?_ _) | (with_reducible refine Below.drew ?_) | (with_reducible refine Below.setCell ?_ ?_ _) | (with_reducible refine Below.trans ?_ (Below.mono (by assumption) ?_)) | (with_reducible exact Nat.le_refl _) | omega | (simp only [World.size_alloc, World.size_setCell, World.size_drew]; omega) | (simp; omega) | (simp; done)))) hgrow (by first | omega | (simp only [World.size_alloc, World.size_setCell, World.size_drew]; omega)) (fun q hq => (hown.lt q hq).1)
      clear hgrow
      go_wp2
      go_roundw
      case rel => exact ⟨k + 1, by omega, by go_num, by rw [HY.out, symCells_snoc]; simpa using hown', hb2⟩
      case measure => simp [intOf]; omega
    · have hk8 : k = 8 := by omega
      subst hk8
      obtain ⟨g, cap, rfl⟩ := ownsRow_form hown (by omega)
      go_wp2
      go_ret
      exact ⟨_, _, rfl, hown, hbel⟩
end Go.Proofs.YtfdgijmmgllmgaaGreatDoor
namespace Go.Proofs.YtfdgijmmgllmgaaGreatDoor
open Go.ChangeShapes Go.WideShapes Go.ChangeAt Go.RowKit Go.Joins
set_option linter.unusedSimpArgs false
set_option linter.unusedVariables false
set_option maxRecDepth 100000
attribute [local go_sem] store_f
open Ieee
structure Shd where
  a1 : Nat
  a2 : Nat
  b1 : Nat
  b2 : Nat
  c1 : Nat
  c2 : Nat
  r : Nat
  g : Nat
  b : Nat
  k : Nat
instance : Inhabited Shd := ⟨⟨0, 0, 0, 0, 0, 0, 0, 0, 0, 0⟩⟩
def Shd.cells (s : Shd) : List Value := [.complex .f32 s.a1 s.a2, .complex .f32 s.b1 s.b2, .complex .f32 s.c1 s.c2, .float .f32 s.r, .float .f32 s.g, .float .f32 s.b, .float .f32 s.k]
def shCells (l : List Shd) : List Value := l.flatMap Shd.cells
theorem shCells_len (l : List Shd) : (shCells l).length = l.length * 7 := by
  induction l with
  | nil => rfl
  | cons p l ih => simp [shCells, Shd.cells] at ih ⊢; omega
theorem shCells_snoc (l : List Shd) (s : Shd) : shCells (l ++ [s]) = shCells l ++ s.cells := by simp [shCells]
def ShRow (W : World) (b off : Nat) (l : List Shd) : Prop :=
  ∀ k, k < l.length → W.cell? ⟨b, (off + k * 7), Option.none⟩ = some (.complex .f32 (l.getD k default).a1 (l.getD k default).a2) ∧ W.cell? ⟨b, (off + k * 7) + 1, Option.none⟩ = some (.complex .f32 (l.getD k default).b1 (l.getD k default).b2) ∧ W.cell? ⟨b, (off + k * 7) + 2, Option.none⟩ = some (.complex .f32 (l.getD k default).c1 (l.getD k default).c2) ∧ W.cell? ⟨b, (off + k * 7) + 3, Option.none⟩ = some (.float .f32 (l.getD k default).r) ∧ W.cell? ⟨b, (off + k * 7) + 4, Option.none⟩ = some (.float .f32 (l.getD k default).g) ∧ W.cell? ⟨b, (off + k * 7) + 5, Option.none⟩ = some (.float .f32 (l.getD k default).b) ∧ W.cell? ⟨b, (off + k * 7) + 6, Option.none⟩ = some (.float .f32 (l.getD k default).k)
def RowAt (W : World) (a : Option Addr) (l : List Shd) : Prop :=
  l = [] ∨ ∃ b off, a = some ⟨b, off, Option.none⟩ ∧ ShRow W b off l
theorem ShRow.below {W w1 : World} {b off : Nat} {l : List Shd} (h : ShRow W b off l) (hb : Below W.heap.size W w1) : ShRow w1 b off l := fun k hk => by
  obtain ⟨h0, h1, h2, h3, h4, h5, h6⟩ := h k hk
  exact ⟨cBelow hb h0, cBelow hb h1, cBelow hb h2, cBelow hb h3, cBelow hb h4, cBelow hb h5, cBelow hb h6⟩
theorem ShRow.grown {W w1 : World} {b off : Nat} {l : List Shd} {r : Option Nat} (h : ShRow W b off l) (hg : W.grownBy w1 r) (hne : r ≠ some b) : ShRow w1 b off l := fun k hk => by
  obtain ⟨h0, h1, h2, h3, h4, h5, h6⟩ := h k hk
  have hl := cell_lt h0
  have e : ∀ i, w1.cell? ⟨b, i, Option.none⟩ = W.cell? ⟨b, i, Option.none⟩ := fun i => World.cell?_of_block (hg.block b hl (fun e => hne e.symm))
  rw [e, e, e, e, e, e, e]
  exact ⟨h0, h1, h2, h3, h4, h5, h6⟩
theorem ShRow.set {W : World} {b off : Nat} {a : Addr} {v : Value} {l : List Shd} (h : ShRow W b off l) (hne : b ≠ a.block) : ShRow (W.setCell a v) b off l := fun k hk => by
  obtain ⟨h0, h1, h2, h3, h4, h5, h6⟩ := h k hk
  exact ⟨cSet hne h0, cSet hne h1, cSet hne h2, cSet hne h3, cSet hne h4, cSet hne h5, cSet hne h6⟩
theorem RowAt.below {W w1 : World} {a : Option Addr} {l : List Shd} (h : RowAt W a l) (hb : Below W.heap.size W w1) : RowAt w1 a l := by
  rcases h with h | ⟨b, off, e, h⟩
  · exact .inl h
  · exact .inr ⟨b, off, e, h.below hb⟩
theorem ShRow.left {W : World} {b off : Nat} {l : List Shd} (h : ShRow W b off l) (n : Nat) : ShRow W b off (l.take n) := fun k hk => by
  have h1 : k < l.length := by simp at hk; omega
  have h2 : k < n := by simp at hk; omega
  have e : (l.take n).getD k default = l.getD k default := by simp [List.getD, h2]
  rw [e]; exact h k h1
theorem ShRow.right {W : World} {b off : Nat} {l : List Shd} (h : ShRow W b off l) (n : Nat) : ShRow W b (off + n * 7) (l.drop n) := fun k hk => by
  have h1 : n + k < l.length := by simp at hk; omega
  have e : (l.drop n).getD k default = l.getD (n + k) default := by simp [List.getD]
  have e2 : off + n * 7 + k * 7 = off + (n + k) * 7 := by omega
  rw [e, e2]; exact h (n + k) h1
def ptB (x y : Nat) : Bool := inB x && inB y
def shardB (s : Shd) : Bool := ptB s.a1 s.a2 && ptB s.b1 s.b2 && ptB s.c1 s.c2 && colB s.r s.g s.b && shareB s.k
structure Shd.Ok (s : Shd) : Prop where
  a1 : Rch s.a1
  a2 : Rch s.a2
  b1 : Rch s.b1
  b2 : Rch s.b2
  c1 : Rch s.c1
  c2 : Rch s.c2
  r : Part s.r
  g : Part s.g
  b : Part s.b
  k : Part s.k
theorem parts_col {r g b : Nat} (hr : Part r) (hg : Part g) (hb : Part b) : colB r g b = true := by
  unfold colB; rw [part_share hr, part_share hg, part_share hb]; rfl
theorem Shd.Ok.yes {s : Shd} (h : s.Ok) : shardB s = true := by
  unfold shardB ptB
  rw [h.a1.inb, h.a2.inb, h.b1.inb, h.b2.inb, h.c1.inb, h.c2.inb, parts_col h.r h.g h.b, part_share h.k]; rfl
structure PtIs (x y : Nat) (p : Bool) : Prop where
  call : ∀ w : World, Calls Tryz.prog 75 #[.complex .f32 x y] w fun e w' => e = .returned (.bool p) ∧ w' = w
theorem ptIs (x y : Nat) : PtIs x y (ptB x y) := ⟨fun w => by
  unfold ptB
  cases hx : inB x
  all_goals
    go_enter Tryz.func75, Tryz.ntmps75
    go_wp2_with (go_at_call 109; refine (inReach_i _ _).mono ?_; rintro e w1 ⟨rfl, rfl⟩)
    all_goals (go_ret; exact ⟨by simp_all, rfl⟩)⟩
theorem cornersOf_i (s : Shd) (w : World) :
    Calls Tryz.prog 108 #[.agg #[.complex .f32 s.a1 s.a2, .complex .f32 s.b1 s.b2, .complex .f32 s.c1 s.c2, .float .f32 s.r, .float .f32 s.g, .float .f32 s.b, .float .f32 s.k]] w fun e w' => e = .returned (.slice (some ⟨w.heap.size + 1, 0, Option.none⟩) 3 3) ∧ Blk w' (w.heap.size + 1) #[.complex .f32 s.a1 s.a2, .complex .f32 s.b1 s.b2, .complex .f32 s.c1 s.c2] 28 ∧ Below w.heap.size w w' := by
  go_enter Tryz.func108, Tryz.ntmps108
  go_wp2
  go_returns
  exact ⟨by first | rfl | (simp; done), Blk.newAt (by simp), by (repeat' (first | (with_reducible exact Below.refl _ _) | (with_reducible assumption) | (with_reducible refine Below.alloc ?_ ?_ _) | (with_reducible refine Below.drew ?_) | (with_reducible refine Below.setCell ?_ ?_ _) | (with_reducible refine Below.trans ?_ (Below.mono (by assumption) ?_)) | (with_reducible exact Nat.le_refl _) | omega | (simp only [World.size_alloc, World.size_setCell, World.size_drew]; omega) | (simp; omega) | (simp; done)))⟩
end Go.Proofs.YtfdgijmmgllmgaaGreatDoor
namespace Go.Proofs.YtfdgijmmgllmgaaGreatDoor
open Go.ChangeShapes Go.WideShapes Go.ChangeAt Go.RowKit Go.Joins
set_option linter.unusedSimpArgs false
set_option linter.unusedVariables false
set_option maxRecDepth 100000
attribute [local go_sem] store_f
open Ieee
structure ColIs (r g b : Nat) (p : Bool) : Prop where
  call : ∀ w : World, Calls Tryz.prog 20 #[.agg #[.float .f32 r, .float .f32 g, .float .f32 b]] w fun e w' => e = .returned (.bool p) ∧ Below w.heap.size w w'
theorem colIs (r g b : Nat) : ColIs r g b (colB r g b) := ⟨fun w => isColour_i r g b w⟩
structure ShareIs (k : Nat) (p : Bool) : Prop where
  call : ∀ w : World, Calls Tryz.prog 53 #[.float .f32 k] w fun e w' => e = .returned (.bool p) ∧ w' = w
theorem shareIs (k : Nat) : ShareIs k (shareB k) := ⟨fun w => isShare_i k w⟩
structure Corn (s : Shd) : Prop where
  call : ∀ w : World, Calls Tryz.prog 108 #[.agg #[.complex .f32 s.a1 s.a2, .complex .f32 s.b1 s.b2, .complex .f32 s.c1 s.c2, .float .f32 s.r, .float .f32 s.g, .float .f32 s.b, .float .f32 s.k]] w fun e w' => e = .returned (.slice (some ⟨w.heap.size + 1, 0, Option.none⟩) 3 3) ∧ Blk w' (w.heap.size + 1) #[.complex .f32 s.a1 s.a2, .complex .f32 s.b1 s.b2, .complex .f32 s.c1 s.c2] 28 ∧ Below w.heap.size w w'
set_option maxHeartbeats 4000000 in
theorem isShard_of (s : Shd) (p q r c k : Bool) (C : Corn s) (P : PtIs s.a1 s.a2 p) (Q : PtIs s.b1 s.b2 q) (R : PtIs s.c1 s.c2 r) (CC : ColIs s.r s.g s.b c) (K : ShareIs s.k k) (w : World) :
    Calls Tryz.prog 74 #[.agg #[.complex .f32 s.a1 s.a2, .complex .f32 s.b1 s.b2, .complex .f32 s.c1 s.c2, .float .f32 s.r, .float .f32 s.g, .float .f32 s.b, .float .f32 s.k]] w fun e w' => e = .returned (.bool (p && q && r && c && k)) ∧ Below w.heap.size w w' := by
  go_enter Tryz.func74, Tryz.ntmps74
  go_wp2_with fail
  refine (C.call _).mono ?_
  rintro e w1 ⟨rfl, hB, hb1⟩
  have hbel : Below w.heap.size w w1 := by (repeat' (first | (with_reducible exact Below.refl _ _) | (with_reducible assumption) | (with_reducible refine Below.alloc ?_ ?_ _) | (with_reducible refine Below.drew ?_) | (with_reducible refine Below.setCell ?_ ?_ _) | (with_reducible refine Below.trans ?_ (Below.mono (by assumption) ?_)) | (with_reducible exact Nat.le_refl _) | omega | (simp only [World.size_alloc, World.size_setCell, World.size_drew]; omega) | (simp; omega) | (simp; done)))
  have hs : Blk w1 w.heap.size #[.complex .f32 s.a1 s.a2, .complex .f32 s.b1 s.b2, .complex .f32 s.c1 s.c2, .float .f32 s.r, .float .f32 s.g, .float .f32 s.b, .float .f32 s.k] 36 := Blk.belowAt hb1 (Blk.newAt rfl)
  simp only [World.size_alloc] at hB
  have hl := hs.lt
  have c0 := Blk.cellAt (i := 0) hB rfl
  have c1 := Blk.cellAt (i := 1) hB rfl
  have c2 := Blk.cellAt (i := 2) hB rfl
  have d3 := Blk.cellAt (i := 3) hs rfl
  have d4 := Blk.cellAt (i := 4) hs rfl
  have d5 := Blk.cellAt (i := 5) hs rfl
  have d6 := Blk.cellAt (i := 6) hs rfl
  simp only [List.getElem_toArray, List.getElem_cons_zero, List.getElem_cons_succ] at c0 c1 c2 d3 d4 d5 d6
  have HB : Hid (Below w.heap.size w w1) := hbel
  clear hB hb1 hbel hs
  simp only [World.size_alloc]
  go_wp2_with fail
  go_loopw [4, 8] (fun v i wr => wr = w1 ∧ (i = .int .i64 0 ∨ (i = .int .i64 1 ∧ p = true) ∨ (i = .int .i64 2 ∧ p = true ∧ q = true) ∨ (i = .int .i64 3 ∧ p = true ∧ q = true ∧ r = true))) (fun _ i _ => 3 - (intOf i).toNat)
  case atStart => exact ⟨rfl, .inl rfl⟩
  case round =>
    obtain ⟨rfl, hrel⟩ := hrel
    rcases hrel with rfl | ⟨rfl, rfl⟩ | ⟨rfl, rfl, rfl⟩ | ⟨rfl, rfl, rfl, rfl⟩
    · cases p
      · go_wp2_with (go_at_call 75; refine (P.call _).mono ?_; rintro e w2 ⟨rfl, rfl⟩)
        go_ret
        exact ⟨rfl, HB.out⟩
      · go_wp2_with (go_at_call 75; refine (P.call _).mono ?_; rintro e w2 ⟨rfl, rfl⟩)
        go_roundw
        case rel => simp
        case measure => simp [intOf]
    · cases q
      · go_wp2_with (go_at_call 75; refine (Q.call _).mono ?_; rintro e w2 ⟨rfl, rfl⟩)
        go_ret
        exact ⟨rfl, HB.out⟩
      · go_wp2_with (go_at_call 75; refine (Q.call _).mono ?_; rintro e w2 ⟨rfl, rfl⟩)
        go_roundw
        case rel => simp
        case measure => simp [intOf]
    · cases r
      · go_wp2_with (go_at_call 75; refine (R.call _).mono ?_; rintro e w2 ⟨rfl, rfl⟩)
        go_ret
        exact ⟨rfl, HB.out⟩
      · go_wp2_with (go_at_call 75; refine (R.call _).mono ?_; rintro e w2 ⟨rfl, rfl⟩)
        go_roundw
        case rel => simp
        case measure => simp [intOf]
    · cases c
      · go_wp2_with fail
        refine (CC.call _).mono ?_
        rintro e w2 ⟨rfl, hb2⟩
        have HB2 : Hid (Below w.heap.size w w2) := HB.out.trans (hb2.mono (by omega))
        clear hb2
        go_wp2
        go_ret
        exact ⟨rfl, HB2.out⟩
      · go_wp2_with fail
        refine (CC.call _).mono ?_
        rintro e w2 ⟨rfl, hb2⟩
        have HB2 : Hid (Below w.heap.size w w2) := HB.out.trans (hb2.mono (by omega))
        have e6 := cBelow hb2 d6
        clear hb2
        go_wp2_with (go_at_call 53; refine (K.call _).mono ?_; rintro e w3 ⟨rfl, rfl⟩)
        go_ret
        exact ⟨by simp, HB2.out⟩
structure ShdIs (s : Shd) (p : Bool) : Prop where
  call : ∀ w : World, Calls Tryz.prog 74 #[.agg #[.complex .f32 s.a1 s.a2, .complex .f32 s.b1 s.b2, .complex .f32 s.c1 s.c2, .float .f32 s.r, .float .f32 s.g, .float .f32 s.b, .float .f32 s.k]] w fun e w' => e = .returned (.bool p) ∧ Below w.heap.size w w'
theorem shdIs (s : Shd) : ShdIs s (shardB s) := ⟨fun w => isShard_of s _ _ _ _ _ ⟨fun w => cornersOf_i s w⟩ (ptIs _ _) (ptIs _ _) (ptIs _ _) (colIs _ _ _) (shareIs _) w⟩
structure Op2 (F : FuncId) (a b r : Nat) : Prop where
  call : ∀ w : World, Calls Tryz.prog F #[.float .f32 a, .float .f32 b] w fun e w' => e = .returned (.float .f32 r) ∧ w' = w
theorem diff2 {a b : Nat} (ha : Fin32 a) (hb : Fin32 b) : Op2 115 a b (clT (valOf F32 a - valOf F32 b)) := ⟨fun w => by
  obtain ⟨r, e, h⟩ := sub_cl ha hb
  rw [← h]; exact differenceOf_i a b r w e⟩
theorem sum2 {a b : Nat} (ha : Fin32 a) (hb : Fin32 b) : Op2 88 a b (clT (valOf F32 a + valOf F32 b)) := ⟨fun w => by
  obtain ⟨r, e, h⟩ := add_cl ha hb
  rw [← h]; exact sumOf_i a b r w e⟩
theorem prod2 {a b : Nat} (ha : Fin32 a) (hb : Fin32 b) : Op2 85 a b (clM (valOf F32 a * valOf F32 b)) := ⟨fun w => by
  obtain ⟨r, e, h⟩ := mul_cl ha hb
  rw [← h]; exact productOf_i a b r w e⟩
structure Join (F : FuncId) (a1 a2 b1 b2 x y : Nat) : Prop where
  call : ∀ w : World, Calls Tryz.prog 84 #[.complex .f32 a1 a2, .complex .f32 b1 b2, .func (.func F) #[] #[]] w fun e w' => e = .returned (.complex .f32 x y) ∧ w' = w
structure SideIs (a1 a2 b1 b2 p1 p2 z : Nat) : Prop where
  call : ∀ w : World, Calls Tryz.prog 141 #[.complex .f32 a1 a2, .complex .f32 b1 b2, .complex .f32 p1 p2] w fun e w' => e = .returned (.float .f32 z) ∧ w' = w
set_option maxHeartbeats 4000000 in
theorem side_of {a1 a2 b1 b2 p1 p2 d1 d2 e1 e2 x y z : Nat} (A : PtIs a1 a2 true) (B : PtIs b1 b2 true) (P : PtIs p1 p2 true) (D : Join 115 b1 b2 a1 a2 d1 d2) (E : Join 115 p1 p2 a1 a2 e1 e2)
    (X : Op2 85 d1 e2 x) (Y : Op2 85 d2 e1 y) (Z : Op2 115 x y z) : SideIs a1 a2 b1 b2 p1 p2 z := ⟨fun w => by
  go_enter Tryz.func141, Tryz.ntmps141
  go_wp2_with (first | (go_at_call 75; (first | (with_reducible refine (A.call _).mono ?_) | (with_reducible refine (B.call _).mono ?_) | (with_reducible refine (P.call _).mono ?_)); rintro e w1 ⟨rfl, rfl⟩) | (go_at_call 84; (first | (with_reducible refine (D.call _).mono ?_) | (with_reducible refine (E.call _).mono ?_)); rintro e w1 ⟨rfl, rfl⟩) | (go_at_call 85; (first | (with_reducible refine (X.call _).mono ?_) | (with_reducible refine (Y.call _).mono ?_)); rintro e w1 ⟨rfl, rfl⟩) | (go_at_call 115; (with_reducible refine (Z.call _).mono ?_); rintro e w1 ⟨rfl, rfl⟩))
  go_ret
  exact ⟨rfl, rfl⟩⟩
theorem ptYes {x y : Nat} (hx : inB x = true) (hy : inB y = true) : PtIs x y true := by
  have h := ptIs x y
  unfold ptB at h
  rwa [hx, hy] at h
end Go.Proofs.YtfdgijmmgllmgaaGreatDoor
namespace Go.Proofs.YtfdgijmmgllmgaaGreatDoor
open Go.ChangeShapes Go.WideShapes Go.ChangeAt Go.RowKit Go.Joins
set_option linter.unusedSimpArgs false
set_option linter.unusedVariables false
set_option maxRecDepth 100000
attribute [local go_sem] store_f
open Ieee Go.Lib
abbrev PtW := { p : Nat × Nat // Pt p.1 ∧ Pt p.2 }
instance : Inhabited PtW := ⟨⟨(0, 0), ⟨⟨cl_zero, ok_zero⟩, ⟨cl_zero, ok_zero⟩⟩⟩⟩
def vX (p : PtW) : Int := valOf F32 p.1.1
def vY (p : PtW) : Int := valOf F32 p.1.2
theorem cl_inj {x y : Nat} (hx : Cl x) (hy : Cl y) (h : valOf F32 x = valOf F32 y) : x = y := by
  by_cases h0 : rungOf F32 x = 0
  · have h1 := val_eq_zero.2 h0
    rw [h1] at h
    rw [hx.zero h0, hy.zero (val_eq_zero.1 h.symm)]
  · have e1 : magOf F32 (rungOf F32 x) = magOf F32 (rungOf F32 y) := by
      unfold valOf at h
      split at h <;> split at h <;> omega
    have e2 : rungOf F32 x = rungOf F32 y := magOf_inj F32 e1
    have hp : 0 < magOf F32 (rungOf F32 x) := magOf_pos (by omega)
    have e3 : negOf F32 x = negOf F32 y := by
      unfold valOf at h
      cases hnx : negOf F32 x <;> cases hny : negOf F32 y <;> simp [hnx, hny] at h ⊢ <;> omega
    rw [← word_of F32 (w := x) (by rw [F32_w]; exact hx.lt), ← word_of F32 (w := y) (by rw [F32_w]; exact hy.lt), e2, e3]
theorem ptW_inj {p q : PtW} (h1 : vX p = vX q) (h2 : vY p = vY q) : p = q := by
  apply Subtype.ext
  apply Prod.ext
  · exact cl_inj p.2.1.cl q.2.1.cl h1
  · exact cl_inj p.2.2.cl q.2.2.cl h2
end Go.Proofs.YtfdgijmmgllmgaaGreatDoor
