/-
  Texts Hl Cpart Cb Cc Cd Hc, joined.
-/
import Derived.Test.YtfdgijmmgllmgaaW01
import Derived.Test.YtfdgijmmgllmgaaW05
import Derived.Test.YtfdgijmmgllmgaaW02
namespace Go.Proofs.Ytfdgijmmgllmgaa
open Go.ChangeShapes Go.WideShapes Go.ChangeAt Go.RowKit Go.Joins
set_option linter.unusedSimpArgs false
set_option linter.unusedVariables false
set_option maxRecDepth 100000
attribute [local go_sem] store_f
structure Lit where
  r : Nat
  g : Nat
  b : Nat
instance : Inhabited Lit := ⟨⟨0, 0, 0⟩⟩
structure Lit.Ok (c : Lit) : Prop where
  r : c.r ≤ 1065353216
  g : c.g ≤ 1065353216
  b : c.b ≤ 1065353216
def Lit.cells (c : Lit) : List Value := [.float .f32 c.r, .float .f32 c.g, .float .f32 c.b]
def litCells (l : List Lit) : List Value := l.flatMap Lit.cells
theorem litCells_snoc (l : List Lit) (s : Lit) : litCells (l ++ [s]) = litCells l ++ s.cells := by simp [litCells]
def LitRow (W : World) (b off : Nat) (l : List Lit) : Prop :=
  ∀ k, k < l.length → W.cell? ⟨b, (off + k * 3), Option.none⟩ = some (.float .f32 (l.getD k default).r) ∧ W.cell? ⟨b, (off + k * 3) + 1, Option.none⟩ = some (.float .f32 (l.getD k default).g) ∧ W.cell? ⟨b, (off + k * 3) + 2, Option.none⟩ = some (.float .f32 (l.getD k default).b)
def LitsAt (W : World) (a : Option Addr) (l : List Lit) : Prop :=
  l = [] ∨ ∃ b off, a = some ⟨b, off, Option.none⟩ ∧ LitRow W b off l
theorem LitRow.below {W w1 : World} {b off : Nat} {l : List Lit} (h : LitRow W b off l) (hb : Below W.heap.size W w1) : LitRow w1 b off l := fun k hk => by
  obtain ⟨h0, h1, h2⟩ := h k hk
  exact ⟨cBelow hb h0, cBelow hb h1, cBelow hb h2⟩
theorem LitRow.grown {W w1 : World} {b off : Nat} {l : List Lit} {r : Option Nat} (h : LitRow W b off l) (hg : W.grownBy w1 r) (hne : r ≠ some b) : LitRow w1 b off l := fun k hk => by
  obtain ⟨h0, h1, h2⟩ := h k hk
  have hl := cell_lt h0
  have e : ∀ i, w1.cell? ⟨b, i, Option.none⟩ = W.cell? ⟨b, i, Option.none⟩ := fun i => World.cell?_of_block (hg.block b hl (fun e => hne e.symm))
  rw [e, e, e]
  exact ⟨h0, h1, h2⟩
theorem LitRow.set {W : World} {b off : Nat} {a : Addr} {v : Value} {l : List Lit} (h : LitRow W b off l) (hne : b ≠ a.block) : LitRow (W.setCell a v) b off l := fun k hk => by
  obtain ⟨h0, h1, h2⟩ := h k hk
  exact ⟨cSet hne h0, cSet hne h1, cSet hne h2⟩
theorem LitRow.alloc {W : World} {b off : Nat} {o : Obj} {l : List Lit} (h : LitRow W b off l) : LitRow (W.alloc o) b off l := fun k hk => by
  obtain ⟨h0, h1, h2⟩ := h k hk
  exact ⟨cAlloc h0, cAlloc h1, cAlloc h2⟩
theorem LitRow.drew {W : World} {b off : Nat} {l : List Lit} (h : LitRow W b off l) : LitRow W.drew b off l := h
theorem LitsAt.below {W w1 : World} {a : Option Addr} {l : List Lit} (h : LitsAt W a l) (hb : Below W.heap.size W w1) : LitsAt w1 a l := by
  rcases h with h | ⟨b, off, e, h⟩
  · exact .inl h
  · exact .inr ⟨b, off, e, h.below hb⟩
theorem LitsAt.alloc {W : World} {a : Option Addr} {o : Obj} {l : List Lit} (h : LitsAt W a l) : LitsAt (W.alloc o) a l := by
  rcases h with h | ⟨b, off, e, h⟩
  · exact .inl h
  · exact .inr ⟨b, off, e, h.alloc⟩
theorem LitsAt.drew {W : World} {a : Option Addr} {l : List Lit} (h : LitsAt W a l) : LitsAt W.drew a l := h
theorem litCells_get : ∀ (l : List Lit) (k : Nat), k < l.length → ∀ j, j < 3 → (litCells l)[k * 3 + j]? = (l.getD k default).cells[j]?
  | p :: l, 0, _, j, hj => by
    have e : litCells (p :: l) = p.cells ++ litCells l := rfl
    rw [e, Nat.zero_mul, Nat.zero_add, List.getElem?_append_left (by simp [Lit.cells]; omega)]
    rfl
  | p :: l, k + 1, h, j, hj => by
    have ih := litCells_get l k (by simpa using h) j hj
    have e : litCells (p :: l) = p.cells ++ litCells l := rfl
    have hl : p.cells.length = 3 := rfl
    rw [e, List.getElem?_append_right (by omega), hl, show (k + 1) * 3 + j - 3 = k * 3 + j by omega, ih]
    rfl
theorem litRow_of {W : World} {base g n cap : Nat} {l : List Lit} (h : W.ownsRow base 47 3 (.slice (some ⟨g, 0, Option.none⟩) n cap) n (litCells l)) (hn : l.length = n) : LitRow W g 0 l := fun k hk => by
  have hg := litCells_get l k hk
  simp only [Nat.zero_add]
  rw [h.cellAt _ (by omega), h.cellAt _ (by omega), h.cellAt _ (by omega)]
  exact ⟨hg 0 (by omega), hg 1 (by omega), hg 2 (by omega)⟩
theorem infoC : (Try.prog.info? 47).map (fun i => (i.zero, i.size, i.bytes)) = some (some (.agg #[.float .f32 0, .float .f32 0, .float .f32 0]), 3, 12) := by kernel_rfl
end Go.Proofs.Ytfdgijmmgllmgaa
namespace Go.Proofs.Ytfdgijmmgllmgaa
open Ieee
theorem read_zero : F32.read 0 = .number false 0 F32.leastPlace := by kernel_rfl
theorem read_one : F32.read 1065353216 = .number false 8388608 (-23) := by kernel_rfl
theorem not_fin {x : Nat} (h : ¬ Fin32 x) : (F32.read x = .infinity (negOf F32 x)) ∨ ∃ s t, F32.read x = .nan s t := by
  have h1 : F32.infRung ≤ rungOf F32 x := Nat.le_of_not_lt h
  rcases Nat.eq_or_lt_of_le h1 with h2 | h2
  · exact Or.inl (read_inf F32 h2.symm F32_eb)
  · exact Or.inr ⟨_, _, read_nan F32 h2 F32_eb⟩
theorem sub_self_none {x : Nat} (h : ¬ Fin32 x) : F32.sub x x = none := by
  unfold Format.sub
  rcases not_fin h with e | ⟨s, t, e⟩
  · rw [e]; cases negOf F32 x <;> rfl
  · rw [e]; rfl
def Part (x : Nat) : Prop := x ≤ 1065353216 ∨ x = 2147483648
theorem Part.fin {x : Nat} (h : Part x) : Fin32 x := by
  rcases h with h | h
  · exact fin_of_lt (by omega)
  · subst h; unfold Fin32 rungOf; rw [F32_sw, F32_inf]; decide
theorem Part.lt {x : Nat} (h : Part x) : x < 4294967296 := by
  rcases h with h | h <;> omega
theorem share_part {x : Nat} (hx : x < 4294967296) (h : shareB x = true) : Part x := by
  by_cases hf : Fin32 x
  · unfold shareB at h
    rw [order_zero hf, order_fin F32 hf (fin_of_lt (x := 1065353216) (by omega)), val_of_lt (x := 1065353216) (by omega)] at h
    simp only [cmp_eq, cmp_lt, cmp_gt] at h
    simp only [Bool.and_eq_true, Bool.or_eq_true, decide_eq_true_eq] at h
    by_cases hlt : x < 2147483648
    · left
      rw [val_of_lt hlt] at h
      exact le_of_magOf F32 (by omega)
    · right
      have e1 : rungOf F32 x = x - 2147483648 := by unfold rungOf; rw [F32_sw]; omega
      have e2 : negOf F32 x = true := by unfold negOf; rw [F32_sw]; have : x / 2147483648 = 1 := by omega
                                         rw [this]; rfl
      unfold valOf at h
      rw [e1, e2] at h
      simp only [if_true] at h
      rcases Nat.eq_zero_or_pos (x - 2147483648) with h0 | h0
      · omega
      · have := magOf_pos h0; omega
  · exfalso
    unfold shareB at h
    have h1 : ∀ y, F32.order x y = (F32.read x).order (F32.read y) := fun _ => rfl
    have h' : (((F32.read x).order (F32.read 0) == some .gt || (F32.read x).order (F32.read 0) == some .eq) && ((F32.read x).order (F32.read 1065353216) == some .lt || (F32.read x).order (F32.read 1065353216) == some .eq)) = true := h
    rw [read_zero, read_one] at h'
    rcases not_fin hf with e | ⟨s, t, e⟩
    · rw [e] at h'; cases hn : negOf F32 x <;> rw [hn] at h' <;> simp [Datum.order] at h'
    · rw [e] at h'; simp [Datum.order] at h'
theorem part_share {x : Nat} (h : Part x) : shareB x = true := by
  have hf := h.fin
  unfold shareB
  rw [order_zero hf, order_fin F32 hf (fin_of_lt (x := 1065353216) (by omega)), val_of_lt (x := 1065353216) (by omega)]
  simp only [cmp_eq, cmp_lt, cmp_gt]
  simp only [Bool.and_eq_true, Bool.or_eq_true, decide_eq_true_eq]
  rcases h with h | h
  · rw [val_of_lt (by omega)]
    have := magOf_le F32 h
    omega
  · subst h
    have : valOf F32 2147483648 = 0 := val_eq_zero.2 (by unfold rungOf; rw [F32_sw])
    rw [this]; omega
section
variable {P : Program} (w : World)
theorem run_float_nan (t : TypeId) (x y : Nat) (h : FloatKind.f32.format.sub x y = none) : (binOp .sub t (.float .f32 x) (.float .f32 y)).run P w = .ok (.float .f32 ((Question.nanBits .f32 x y).cut (w.tape w.drawn (.nanBits .f32 x y)))) w.drew := by
  simp [binOp, Op.floatArith, h, Question.forced]
end
theorem nan_order (x y t : Nat) : (FloatKind.f32.format.order ((Question.nanBits .f32 x y).cut t) 0 == some .eq) = false := by
  have h : F32.infRung < rungOf F32 ((Question.nanBits .f32 x y).cut t) := by
    show _ < rungOf F32 (t % 2 * 2 ^ 31 + 0x7f800000 + 1 + t / 2 % (2 ^ 23 - 1))
    unfold rungOf
    rw [F32_inf, F32_sw]
    have hb : t / 2 % (2 ^ 23 - 1) < 2 ^ 23 - 1 := Nat.mod_lt _ (by omega)
    have ha : t % 2 = 0 ∨ t % 2 = 1 := by omega
    generalize t / 2 % (2 ^ 23 - 1) = b at hb ⊢
    rcases ha with e | e <;> rw [e] <;> omega
  show ((F32.read _).order (F32.read 0) == some .eq) = false
  rw [read_nan F32 h F32_eb]; rfl
end Go.Proofs.Ytfdgijmmgllmgaa
namespace Go.Proofs.Ytfdgijmmgllmgaa
open Go.ChangeShapes Go.WideShapes Go.ChangeAt Go.RowKit Go.Joins
set_option linter.unusedSimpArgs false
set_option linter.unusedVariables false
set_option maxRecDepth 100000
attribute [local go_sem] store_f
theorem l1Single_yes (x : Nat) (w : World) (h : FloatKind.f32.format.sub x x = some 0) :
    Calls Try.prog 79 #[.float .f32 x] w fun e w' => e = .returned (.bool true) ∧ Below w.heap.size w w' := by
  have hop := fun t w => run_float_arith (P := Try.prog) w .sub t .f32 x x 0 h
  have h0 : (FloatKind.f32.format.order 0 0 == some .eq) = true := by kernel_rfl
  go_enter Try.func79, Try.ntmps79
  go_wp2_with (simp only [hop])
  all_goals (go_ret; exact ⟨by simp_all, Below.refl _ _⟩)
theorem l1Single_no (x : Nat) (w : World) (h : FloatKind.f32.format.sub x x = none) :
    Calls Try.prog 79 #[.float .f32 x] w fun e w' => e = .returned (.bool false) ∧ Below w.heap.size w w' := by
  have hop := fun t w => run_float_nan (P := Try.prog) w t x x h
  have h0 := nan_order x x
  go_enter Try.func79, Try.ntmps79
  go_wp2_with (simp only [hop])
  all_goals (go_ret; exact ⟨by simp_all, by (repeat' (first | (with_reducible exact Below.refl _ _) | (with_reducible assumption) | (with_reducible refine Below.alloc ?_ ?_ _) | (with_reducible refine Below.drew ?_) | (with_reducible refine Below.setCell ?_ ?_ _) | (with_reducible refine Below.trans ?_ (Below.mono (by assumption) ?_)) | (with_reducible exact Nat.le_refl _) | omega | (simp only [World.size_alloc, World.size_setCell, World.size_drew]; omega) | (simp; omega) | (simp; done)))⟩)
theorem l1Single_s (x : Nat) (w : World) :
    Calls Try.prog 79 #[.float .f32 x] w fun e w' => e = .returned (.bool (rungOf F32 x < F32.infRung)) ∧ Below w.heap.size w w' := by
  by_cases h : Fin32 x
  · refine (l1Single_yes x w (sub_self h)).mono ?_
    rintro e w1 ⟨rfl, hb⟩
    have h' : rungOf F32 x < F32.infRung := h
    exact ⟨by simp [h'], hb⟩
  · refine (l1Single_no x w (sub_self_none h)).mono ?_
    rintro e w1 ⟨rfl, hb⟩
    have h' : ¬ rungOf F32 x < F32.infRung := h
    exact ⟨by simp [h'], hb⟩
theorem part_fin' {x : Nat} (hx : x < 4294967296) (h : ¬ rungOf F32 x < F32.infRung) : shareB x = false := by
  cases h1 : shareB x
  · rfl
  · exact absurd (share_part hx h1).fin h
theorem l2Part_s (x : Nat) (hx : x < 4294967296) (w : World) :
    Calls Try.prog 113 #[.float .f32 x] w fun e w' => e = .returned (.bool (shareB x)) ∧ Below w.heap.size w w' := by
  have HX : Hid (x < 4294967296) := hx
  clear hx
  by_cases hs : rungOf F32 x < F32.infRung
  · go_enter Try.func113, Try.ntmps113
    go_wp2_with (go_at_call 79; refine (l1Single_s _ _).mono ?_; rintro e w1 ⟨rfl, hb⟩; simp only [hs, decide_true])
    all_goals (go_ret; exact ⟨by simp_all [shareB], by (repeat' (first | (with_reducible exact Below.refl _ _) | (with_reducible assumption) | (with_reducible refine Below.alloc ?_ ?_ _) | (with_reducible refine Below.drew ?_) | (with_reducible refine Below.setCell ?_ ?_ _) | (with_reducible refine Below.trans ?_ (Below.mono (by assumption) ?_)) | (with_reducible exact Nat.le_refl _) | omega | (simp only [World.size_alloc, World.size_setCell, World.size_drew]; omega) | (simp; omega) | (simp; done)))⟩)
  · have H2 : Hid (shareB x = false) := part_fin' HX.out hs
    go_enter Try.func113, Try.ntmps113
    go_wp2_with (go_at_call 79; refine (l1Single_s _ _).mono ?_; rintro e w1 ⟨rfl, hb⟩; simp only [hs, decide_false])
    all_goals (go_ret; exact ⟨by simp [H2.out], by (repeat' (first | (with_reducible exact Below.refl _ _) | (with_reducible assumption) | (with_reducible refine Below.alloc ?_ ?_ _) | (with_reducible refine Below.drew ?_) | (with_reducible refine Below.setCell ?_ ?_ _) | (with_reducible refine Below.trans ?_ (Below.mono (by assumption) ?_)) | (with_reducible exact Nat.le_refl _) | omega | (simp only [World.size_alloc, World.size_setCell, World.size_drew]; omega) | (simp; omega) | (simp; done)))⟩)
end Go.Proofs.Ytfdgijmmgllmgaa
namespace Go.Proofs.Ytfdgijmmgllmgaa
open Go.ChangeShapes Go.WideShapes Go.ChangeAt Go.RowKit Go.Joins
set_option linter.unusedSimpArgs false
set_option linter.unusedVariables false
set_option maxRecDepth 100000
attribute [local go_sem] store_f
def row3 (a b c z : Value) (k : Int) : Array Value := #[if 0 < k then a else z, if 1 < k then b else z, if 2 < k then c else z]
theorem eachShare_i (x y z : Nat) (w : World) :
    Calls Try.prog 96 #[.agg #[.float .f32 x, .float .f32 y, .float .f32 z], .func (.func 98) #[] #[]] w fun e w' =>
      e = .returned (.agg #[.bool (shareB x), .bool (shareB y), .bool (shareB z)]) ∧ Below w.heap.size w w' := by
  have x0 : ∀ w : World, (Instr.index 104 (.agg #[.float .f32 x, .float .f32 y, .float .f32 z]) (.int .i64 0)).run Try.prog w = .ok (.float .f32 x) w := fun _ => by kernel_rfl
  have x1 : ∀ w : World, (Instr.index 104 (.agg #[.float .f32 x, .float .f32 y, .float .f32 z]) (.int .i64 1)).run Try.prog w = .ok (.float .f32 y) w := fun _ => by kernel_rfl
  have x2 : ∀ w : World, (Instr.index 104 (.agg #[.float .f32 x, .float .f32 y, .float .f32 z]) (.int .i64 2)).run Try.prog w = .ok (.float .f32 z) w := fun _ => by kernel_rfl
  go_enter Try.func96, Try.ntmps96
  go_wp2_with fail
  go_loopw [9] (fun i wr => ∃ k : Int, (k = 0 ∨ k = 1 ∨ k = 2 ∨ k = 3) ∧ i = .int .i64 k ∧ Blk wr (w.heap.size + 2) (row3 (.bool (shareB x)) (.bool (shareB y)) (.bool (shareB z)) (.bool false) k) 133 ∧ Blk wr (w.heap.size + 1) #[.bool false, .bool false, .bool false] 133 ∧ Below w.heap.size w wr)
    (fun i _ => 3 - (intOf i).toNat)
  case atStart => exact ⟨0, Or.inl rfl, rfl, Blk.newAt (by simp), (Blk.newAt (by simp)).alloc, by (repeat' (first | (with_reducible exact Below.refl _ _) | (with_reducible assumption) | (with_reducible refine Below.alloc ?_ ?_ _) | (with_reducible refine Below.drew ?_) | (with_reducible refine Below.setCell ?_ ?_ _) | (with_reducible refine Below.trans ?_ (Below.mono (by assumption) ?_)) | (with_reducible exact Nat.le_refl _) | omega | (simp only [World.size_alloc, World.size_setCell, World.size_drew]; omega) | (simp; omega) | (simp; done)))⟩
  case round =>
    obtain ⟨k, hk, rfl, hB2, hB1, hbel⟩ := hrel
    have l2 := hB2.lt
    have l1 := hB1.lt
    have c20 := hB2.cell 0
    have c21 := hB2.cell 1
    have c22 := hB2.cell 2
    have f20 := hB2.free 0
    have f21 := hB2.free 1
    have f22 := hB2.free 2
    have c10 := hB1.cell 0
    have c11 := hB1.cell 1
    have c12 := hB1.cell 2
    have f10 := hB1.free 0
    have f11 := hB1.free 1
    have f12 := hB1.free 2
    have H2 : Hid (Blk wr (w.heap.size + 2) (row3 (.bool (shareB x)) (.bool (shareB y)) (.bool (shareB z)) (.bool false) k) 133) := hB2
    have H1 : Hid (Blk wr (w.heap.size + 1) #[.bool false, .bool false, .bool false] 133) := hB1
    clear hB2 hB1
    rcases hk with rfl | rfl | rfl | rfl
    all_goals simp [row3] at c20 c21 c22 c10 c11 c12
    · go_wp2_with (first | simp only [x0] | (go_at_call 98; refine (isShare_i _ _).mono ?_; rintro e w1 ⟨rfl, rfl⟩))
      go_roundw
      case rel => exact ⟨1, by omega, rfl, H2.out.set, H1.out.other (by simp), by (repeat' (first | (with_reducible exact Below.refl _ _) | (with_reducible assumption) | (with_reducible refine Below.alloc ?_ ?_ _) | (with_reducible refine Below.drew ?_) | (with_reducible refine Below.setCell ?_ ?_ _) | (with_reducible refine Below.trans ?_ (Below.mono (by assumption) ?_)) | (with_reducible exact Nat.le_refl _) | omega | (simp only [World.size_alloc, World.size_setCell, World.size_drew]; omega) | (simp; omega) | (simp; done)))⟩
      case measure => simp [intOf]
    · go_wp2_with (first | simp only [x1] | (go_at_call 98; refine (isShare_i _ _).mono ?_; rintro e w1 ⟨rfl, rfl⟩))
      go_roundw
      case rel => exact ⟨2, by omega, rfl, H2.out.set, H1.out.other (by simp), by (repeat' (first | (with_reducible exact Below.refl _ _) | (with_reducible assumption) | (with_reducible refine Below.alloc ?_ ?_ _) | (with_reducible refine Below.drew ?_) | (with_reducible refine Below.setCell ?_ ?_ _) | (with_reducible refine Below.trans ?_ (Below.mono (by assumption) ?_)) | (with_reducible exact Nat.le_refl _) | omega | (simp only [World.size_alloc, World.size_setCell, World.size_drew]; omega) | (simp; omega) | (simp; done)))⟩
      case measure => simp [intOf]
    · go_wp2_with (first | simp only [x2] | (go_at_call 98; refine (isShare_i _ _).mono ?_; rintro e w1 ⟨rfl, rfl⟩))
      go_roundw
      case rel => exact ⟨3, by omega, rfl, H2.out.set, H1.out.other (by simp), by (repeat' (first | (with_reducible exact Below.refl _ _) | (with_reducible assumption) | (with_reducible refine Below.alloc ?_ ?_ _) | (with_reducible refine Below.drew ?_) | (with_reducible refine Below.setCell ?_ ?_ _) | (with_reducible refine Below.trans ?_ (Below.mono (by assumption) ?_)) | (with_reducible exact Nat.le_refl _) | omega | (simp only [World.size_alloc, World.size_setCell, World.size_drew]; omega) | (simp; omega) | (simp; done)))⟩
      case measure => simp [intOf]
    · have d0 := (H1.out.set (i := 0) (v := .bool (shareB x))).cell 0
      have d1 := ((H1.out.set (i := 0) (v := .bool (shareB x))).set (i := 1) (v := .bool (shareB y))).cell 1
      have d2 := (((H1.out.set (i := 0) (v := .bool (shareB x))).set (i := 1) (v := .bool (shareB y))).set (i := 2) (v := .bool (shareB z))).cell 2
      simp only [List.setIfInBounds_toArray, List.set_cons_zero, List.set_cons_succ, List.getElem?_toArray, List.getElem?_cons_zero, List.getElem?_cons_succ] at d0 d1 d2
      go_wp2
      exact bodyPost_ret (v := .agg #[.bool (shareB x), .bool (shareB y), .bool (shareB z)]) (by simp [results, Try.results96, go_sem, d0, d1, d2]) rfl ⟨rfl, by (repeat' (first | (with_reducible exact Below.refl _ _) | (with_reducible assumption) | (with_reducible refine Below.alloc ?_ ?_ _) | (with_reducible refine Below.drew ?_) | (with_reducible refine Below.setCell ?_ ?_ _) | (with_reducible refine Below.trans ?_ (Below.mono (by assumption) ?_)) | (with_reducible exact Nat.le_refl _) | omega | (simp only [World.size_alloc, World.size_setCell, World.size_drew]; omega) | (simp; omega) | (simp; done)))⟩
end Go.Proofs.Ytfdgijmmgllmgaa
namespace Go.Proofs.Ytfdgijmmgllmgaa
open Go.ChangeShapes Go.WideShapes Go.ChangeAt Go.RowKit Go.Joins
set_option linter.unusedSimpArgs false
set_option linter.unusedVariables false
set_option maxRecDepth 100000
attribute [local go_sem] store_f
def colB (r g b : Nat) : Bool := shareB r && shareB g && shareB b
set_option maxHeartbeats 800000 in
theorem isColour_s (r g b : Nat) (hr : r < 4294967296) (hg : g < 4294967296) (hb : b < 4294967296) (w : World) :
    Calls Try.prog 76 #[colV r g b] w fun e w' => e = .returned (.bool (colB r g b)) ∧ Below w.heap.size w w' := by
  unfold colV colB
  cases hsr : shareB r
  · go_enter Try.func76, Try.ntmps76
    go_wp2_with (go_at_call 113; refine (l2Part_s _ (by assumption) _).mono ?_; rintro e w1 ⟨rfl, hb⟩; simp only [hsr]; obtain ⟨hc, hf⟩ := bcell hb; have HL := keepL (by (repeat (first | (with_reducible assumption) | (with_reducible apply AllLt.alloc) | (with_reducible apply AllLt.setCell) | (with_reducible apply AllLt.drew) | (with_reducible exact AllLt.nil _)))) hb; have hq := HL; simp only [AllLt, and_true, World.size_alloc, World.size_setCell, World.size_drew] at hq; have hbs := hb.size; try simp only [World.size_alloc, World.size_setCell, World.size_drew] at hbs)
    all_goals go_returns; exact ⟨rfl, by (repeat' (first | (with_reducible exact Below.refl _ _) | (with_reducible assumption) | (with_reducible refine Below.alloc ?_ ?_ _) | (with_reducible refine Below.drew ?_) | (with_reducible refine Below.setCell ?_ ?_ _) | (with_reducible refine Below.trans ?_ (Below.mono (by assumption) ?_)) | (with_reducible exact Nat.le_refl _) | omega | (simp only [World.size_alloc, World.size_setCell, World.size_drew]; omega) | (simp; omega) | (simp; done)))⟩
  · cases hsg : shareB g
    · go_enter Try.func76, Try.ntmps76
      go_wp2_with (go_at_call 113; refine (l2Part_s _ (by assumption) _).mono ?_; rintro e w1 ⟨rfl, hb⟩; simp only [hsr, hsg]; obtain ⟨hc, hf⟩ := bcell hb; have HL := keepL (by (repeat (first | (with_reducible assumption) | (with_reducible apply AllLt.alloc) | (with_reducible apply AllLt.setCell) | (with_reducible apply AllLt.drew) | (with_reducible exact AllLt.nil _)))) hb; have hq := HL; simp only [AllLt, and_true, World.size_alloc, World.size_setCell, World.size_drew] at hq; have hbs := hb.size; try simp only [World.size_alloc, World.size_setCell, World.size_drew] at hbs)
      all_goals go_returns; exact ⟨rfl, by (repeat' (first | (with_reducible exact Below.refl _ _) | (with_reducible assumption) | (with_reducible refine Below.alloc ?_ ?_ _) | (with_reducible refine Below.drew ?_) | (with_reducible refine Below.setCell ?_ ?_ _) | (with_reducible refine Below.trans ?_ (Below.mono (by assumption) ?_)) | (with_reducible exact Nat.le_refl _) | omega | (simp only [World.size_alloc, World.size_setCell, World.size_drew]; omega) | (simp; omega) | (simp; done)))⟩
    · cases hsb : shareB b
      · go_enter Try.func76, Try.ntmps76
        go_wp2_with (go_at_call 113; refine (l2Part_s _ (by assumption) _).mono ?_; rintro e w1 ⟨rfl, hb⟩; simp only [hsr, hsg, hsb]; obtain ⟨hc, hf⟩ := bcell hb; have HL := keepL (by (repeat (first | (with_reducible assumption) | (with_reducible apply AllLt.alloc) | (with_reducible apply AllLt.setCell) | (with_reducible apply AllLt.drew) | (with_reducible exact AllLt.nil _)))) hb; have hq := HL; simp only [AllLt, and_true, World.size_alloc, World.size_setCell, World.size_drew] at hq; have hbs := hb.size; try simp only [World.size_alloc, World.size_setCell, World.size_drew] at hbs)
        all_goals go_returns; exact ⟨rfl, by (repeat' (first | (with_reducible exact Below.refl _ _) | (with_reducible assumption) | (with_reducible refine Below.alloc ?_ ?_ _) | (with_reducible refine Below.drew ?_) | (with_reducible refine Below.setCell ?_ ?_ _) | (with_reducible refine Below.trans ?_ (Below.mono (by assumption) ?_)) | (with_reducible exact Nat.le_refl _) | omega | (simp only [World.size_alloc, World.size_setCell, World.size_drew]; omega) | (simp; omega) | (simp; done)))⟩
      · go_enter Try.func76, Try.ntmps76
        go_wp2_with (go_at_call 113; refine (l2Part_s _ (by assumption) _).mono ?_; rintro e w1 ⟨rfl, hb⟩; simp only [hsr, hsg, hsb]; obtain ⟨hc, hf⟩ := bcell hb; have HL := keepL (by (repeat (first | (with_reducible assumption) | (with_reducible apply AllLt.alloc) | (with_reducible apply AllLt.setCell) | (with_reducible apply AllLt.drew) | (with_reducible exact AllLt.nil _)))) hb; have hq := HL; simp only [AllLt, and_true, World.size_alloc, World.size_setCell, World.size_drew] at hq; have hbs := hb.size; try simp only [World.size_alloc, World.size_setCell, World.size_drew] at hbs)
        all_goals go_returns; exact ⟨rfl, by (repeat' (first | (with_reducible exact Below.refl _ _) | (with_reducible assumption) | (with_reducible refine Below.alloc ?_ ?_ _) | (with_reducible refine Below.drew ?_) | (with_reducible refine Below.setCell ?_ ?_ _) | (with_reducible refine Below.trans ?_ (Below.mono (by assumption) ?_)) | (with_reducible exact Nat.le_refl _) | omega | (simp only [World.size_alloc, World.size_setCell, World.size_drew]; omega) | (simp; omega) | (simp; done)))⟩
theorem partsOf_i (r g b : Nat) (w : World) :
    Calls Try.prog 97 #[colV r g b] w fun e w' => e = .returned (.agg #[.float .f32 r, .float .f32 g, .float .f32 b]) ∧ Below w.heap.size w w' := by
  unfold colV
  go_enter Try.func97, Try.ntmps97
  go_wp2
  go_returns; exact ⟨rfl, by (repeat' (first | (with_reducible exact Below.refl _ _) | (with_reducible assumption) | (with_reducible refine Below.alloc ?_ ?_ _) | (with_reducible refine Below.drew ?_) | (with_reducible refine Below.setCell ?_ ?_ _) | (with_reducible refine Below.trans ?_ (Below.mono (by assumption) ?_)) | (with_reducible exact Nat.le_refl _) | omega | (simp only [World.size_alloc, World.size_setCell, World.size_drew]; omega) | (simp; omega) | (simp; done)))⟩
theorem isColour_i (r g b : Nat) (w : World) :
    Calls Try.prog 63 #[colV r g b] w fun e w' => e = .returned (.bool (colB r g b)) ∧ Below w.heap.size w w' := by
  unfold colV colB
  have he : ∀ (a b c : Bool) (w : World), (binOp .eql 133 (.agg #[.bool a, .bool b, .bool c]) (.agg #[.bool true, .bool true, .bool true])).run Try.prog w = .ok (.bool (a && b && c)) w := fun a b c w => by cases a <;> cases b <;> cases c <;> kernel_rfl
  go_enter Try.func63, Try.ntmps63
  go_wp2_with (first | (go_at_call 97; refine (partsOf_i _ _ _ _).mono ?_; rintro e w1 ⟨rfl, hb⟩; obtain ⟨hc, hf⟩ := bcell hb; have HL := keepL (by (repeat (first | (with_reducible assumption) | (with_reducible apply AllLt.alloc) | (with_reducible apply AllLt.setCell) | (with_reducible apply AllLt.drew) | (with_reducible exact AllLt.nil _)))) hb; have hq := HL; simp only [AllLt, and_true, World.size_alloc, World.size_setCell, World.size_drew] at hq; have hbs := hb.size; try simp only [World.size_alloc, World.size_setCell, World.size_drew] at hbs) | (go_at_call 96; refine (eachShare_i _ _ _ _).mono ?_; rintro e w2 ⟨rfl, hb⟩; obtain ⟨hc, hf⟩ := bcell hb; have HL := keepL (by (repeat (first | (with_reducible assumption) | (with_reducible apply AllLt.alloc) | (with_reducible apply AllLt.setCell) | (with_reducible apply AllLt.drew) | (with_reducible exact AllLt.nil _)))) hb; have hq := HL; simp only [AllLt, and_true, World.size_alloc, World.size_setCell, World.size_drew] at hq; have hbs := hb.size; try simp only [World.size_alloc, World.size_setCell, World.size_drew] at hbs) | simp only [he])
  all_goals (go_returns; exact ⟨rfl, by (repeat' (first | (with_reducible exact Below.refl _ _) | (with_reducible assumption) | (with_reducible refine Below.alloc ?_ ?_ _) | (with_reducible refine Below.drew ?_) | (with_reducible refine Below.setCell ?_ ?_ _) | (with_reducible refine Below.trans ?_ (Below.mono (by assumption) ?_)) | (with_reducible exact Nat.le_refl _) | omega | (simp only [World.size_alloc, World.size_setCell, World.size_drew]; omega) | (simp; omega) | (simp; done)))⟩)
end Go.Proofs.Ytfdgijmmgllmgaa
namespace Go.Proofs.Ytfdgijmmgllmgaa
open Go.ChangeShapes Go.WideShapes Go.ChangeAt Go.RowKit Go.Joins
set_option linter.unusedSimpArgs false
set_option linter.unusedVariables false
set_option maxRecDepth 100000
attribute [local go_sem] store_f
open Ieee
def Lit.isB (c : Lit) : Bool := colB c.r c.g c.b
def picB (n : Int) (l : List Lit) : Bool := sizeB n && decide ((l.length : Int) = n * n) && l.all Lit.isB
structure PicIs (n : Int) (a : Option Addr) (cap : Nat) (l : List Lit) (p : Bool) : Prop where
  call : ∀ w : World, LitsAt w a l → Calls Try.prog 29 #[.agg #[.int .i64 n, .slice a l.length cap]] w fun e w' => e = .returned (.bool p) ∧ Below w.heap.size w w'
structure ColB (c : Lit) (p : Bool) : Prop where
  call : ∀ w : World, Calls Try.prog 63 #[.agg #[.float .f32 c.r, .float .f32 c.g, .float .f32 c.b]] w fun e w' => e = .returned (.bool p) ∧ Below w.heap.size w w'
theorem colB_of (c : Lit) : ColB c c.isB := ⟨fun w => isColour_i c.r c.g c.b w⟩
set_option maxHeartbeats 4000000 in
theorem picIs_size {n : Int} {a : Option Addr} {cap : Nat} {l : List Lit} (h : sizeB n = false) : PicIs n a cap l false := ⟨fun w hrow => by
  have S := fun w => isSize_i n w
  rw [h] at S
  clear hrow h
  go_enter Try.func29, Try.ntmps29
  go_wp2_with (go_at_call 62; (with_reducible refine (S _).mono ?_); rintro e w1 ⟨rfl, rfl⟩)
  go_ret
  exact ⟨rfl, by (repeat' (first | (with_reducible exact Below.refl _ _) | (with_reducible assumption) | (with_reducible refine Below.alloc ?_ ?_ _) | (with_reducible refine Below.drew ?_) | (with_reducible refine Below.setCell ?_ ?_ _) | (with_reducible refine Below.trans ?_ (Below.mono (by assumption) ?_)) | (with_reducible exact Nat.le_refl _) | omega | (simp only [World.size_alloc, World.size_setCell, World.size_drew]; omega) | (simp; omega) | (simp; done)))⟩⟩
set_option maxHeartbeats 4000000 in
theorem picIs_len {n : Int} {a : Option Addr} {cap : Nat} {l : List Lit} (h : sizeB n = true) (hl : (l.length : Int) ≠ n * n) : PicIs n a cap l false := ⟨fun w hrow => by
  unfold sizeB at h
  simp at h
  clear hrow
  rcases (by omega : n = 1 ∨ n = 2 ∨ n = 3 ∨ n = 4 ∨ n = 5 ∨ n = 6 ∨ n = 7 ∨ n = 8) with rfl | rfl | rfl | rfl | rfl | rfl | rfl | rfl
  all_goals
    simp only [Int.reduceMul] at hl
    clear h
    go_enter Try.func29, Try.ntmps29
    go_wp2
    go_ret
    exact ⟨rfl, by (repeat' (first | (with_reducible exact Below.refl _ _) | (with_reducible assumption) | (with_reducible refine Below.alloc ?_ ?_ _) | (with_reducible refine Below.drew ?_) | (with_reducible refine Below.setCell ?_ ?_ _) | (with_reducible refine Below.trans ?_ (Below.mono (by assumption) ?_)) | (with_reducible exact Nat.le_refl _) | omega | (simp only [World.size_alloc, World.size_setCell, World.size_drew]; omega) | (simp; omega) | (simp; done)))⟩⟩
theorem picIs_all {n : Int} {a : Option Addr} {cap : Nat} {l : List Lit} (h : sizeB n = true) (hl : (l.length : Int) = n * n) : PicIs n a cap l (l.all Lit.isB) := ⟨fun w hrow => by
  unfold sizeB at h
  simp at h
  obtain ⟨N, hN⟩ : ∃ N : Nat, N = l.length := ⟨_, rfl⟩
  have hN2 : N ≤ 64 := by
    have h2 : n * n ≤ 8 * 8 := Int.mul_le_mul (by omega) (by omega) (by omega) (by omega)
    omega
  have HNN : Hid (n * n = (N : Int)) := by show n * n = (N : Int); omega
  have HR : Hid (LitsAt w a l) := hrow
  rw [← hN]
  have HN : Hid (N = l.length) := hN
  have HG : Hid (∀ j, j < N → l.all Lit.isB = true → (l.getD j default).isB = true) := fun j hj hh => by
    have h1 : j < l.length := by omega
    have h2 := List.all_eq_true.1 hh l[j] (List.getElem_mem h1)
    simpa [List.getD, h1] using h2
  have HA : Hid ((∀ j, j < N → (l.getD j default).isB = true) → l.all Lit.isB = true) := fun hh => by
    rw [List.all_eq_true]
    intro c hc
    obtain ⟨j, hj, rfl⟩ := List.mem_iff_getElem.1 hc
    have h2 := hh j (by omega)
    simpa [List.getD, hj] using h2
  clear hrow hl hN
  generalize l.all Lit.isB = p at HG HA ⊢
  have S := fun w => isSize_i n w
  have hs : sizeB n = true := by unfold sizeB; simp; omega
  rw [hs] at S
  obtain ⟨h1, h8⟩ := h
  clear hs
  have hNN := HNN.out
  go_enter Try.func29, Try.ntmps29
  go_wp2_with (go_at_call 62; (with_reducible refine (S _).mono ?_); rintro e w1 ⟨rfl, rfl⟩)
  clear S hNN
  go_loopw [23] (fun i wr => ∃ j : Nat, j ≤ N ∧ i = .int .i64 j ∧ (∀ i, i < j → (l.getD i default).isB = true) ∧ Below w.heap.size w wr) (fun i _ => N - (intOf i).toNat)
  case atStart => exact ⟨0, by omega, rfl, fun i hi => absurd hi (by omega), by (repeat' (first | (with_reducible exact Below.refl _ _) | (with_reducible assumption) | (with_reducible refine Below.alloc ?_ ?_ _) | (with_reducible refine Below.drew ?_) | (with_reducible refine Below.setCell ?_ ?_ _) | (with_reducible refine Below.trans ?_ (Below.mono (by assumption) ?_)) | (with_reducible exact Nat.le_refl _) | omega | (simp only [World.size_alloc, World.size_setCell, World.size_drew]; omega) | (simp; omega) | (simp; done)))⟩
  case round =>
    obtain ⟨j, hj, rfl, hall, hbel⟩ := hrel
    have HB : Hid (Below w.heap.size w wr) := hbel
    have HL : Hid (∀ i, i < j → (l.getD i default).isB = true) := hall
    have hbs := hbel.size
    clear hall
    by_cases hlt : j < N
    · have K := colB_of (l.getD j default)
      have HGj := HG.out j hlt
      rcases HR.out with hnil | ⟨b, off, rfl, hRR⟩
      · exfalso
        have := HN.out
        rw [hnil] at this
        simp at this
        omega
      have hrow := (LitRow.below hRR hbel) j (by have := HN.out; omega)
      have HS : Hid ((l.getD j default).isB = true → ∀ i, i < j + 1 → (l.getD i default).isB = true) := fun h i hi => by
        rcases (by omega : i < j ∨ i = j) with h1 | rfl
        · exact HL.out i h1
        · exact h
      generalize (l.getD j default).isB = q at K HS HGj
      have HQ : Hid (p = true → q = true) := HGj
      generalize l.getD j default = c at hrow K
      obtain ⟨d0, d1, d2⟩ := hrow
      clear hbel hRR HGj
      cases q
      · have hp : p = false := by
          cases p
          · rfl
          · exact absurd (HQ.out rfl) (by decide)
        subst hp
        go_wp2_with fail
        refine (K.call _).mono ?_
        rintro e w2 ⟨rfl, hb⟩
        have HB2 : Hid (Below w.heap.size w w2) := (HB.out.alloc (by omega) _).trans (hb.mono (by simp; omega))
        clear hb d0 d1 d2
        go_wp2
        go_ret
        exact ⟨rfl, HB2.out⟩
      · go_wp2_with fail
        refine (K.call _).mono ?_
        rintro e w2 ⟨rfl, hb⟩
        have HB2 : Hid (Below w.heap.size w w2) := (HB.out.alloc (by omega) _).trans (hb.mono (by simp; omega))
        clear hb d0 d1 d2
        go_wp2
        go_roundw
        case rel => exact ⟨j + 1, by omega, by go_num, HS.out (by simp), HB2.out⟩
        case measure => simp [intOf]; omega
    · have hjm : j = N := by omega
      subst hjm
      have hp : p = true := HA.out HL.out
      subst hp
      clear hbel
      go_wp2
      go_ret
      exact ⟨rfl, HB.out⟩⟩
theorem picIs (n : Int) (a : Option Addr) (cap : Nat) (l : List Lit) : PicIs n a cap l (picB n l) := by
  unfold picB
  cases hs : sizeB n
  · exact picIs_size hs
  · by_cases hl : (l.length : Int) = n * n
    · have h := picIs_all (a := a) (cap := cap) hs hl
      simpa [hl] using h
    · have h := picIs_len (a := a) (cap := cap) hs hl
      simpa [hl] using h
end Go.Proofs.Ytfdgijmmgllmgaa
