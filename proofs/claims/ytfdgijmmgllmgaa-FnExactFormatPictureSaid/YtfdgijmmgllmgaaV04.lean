/-
  Texts Hb Copen Ca Cpart Cb Cc Cd Hc Cop Cconv, joined.
-/
import Derived.Test.YtfdgijmmgllmgaaV01
import Derived.Test.YtfdgijmmgllmgaaV03
import Derived.Deep.DeepCutAuto
import Derived.Deep.RegionHeld3
import Derived.StillTactics
import Derived.Deep.QuietTactic
import Derived.BigQuiet
import Derived.Test.YtfdgijmmgllmgaaV02
namespace Go.Proofs.Ytfdgijmmgllmgaa
open Go.ChangeShapes Go.WideShapes Go.ChangeAt Go.RowKit Go.Joins
set_option linter.unusedSimpArgs false
set_option linter.unusedVariables false
set_option maxRecDepth 100000
attribute [local go_sem] store_f
open Ieee
attribute [local go_sem] store_c
def sizeB (n : Int) : Bool := decide (1 ≤ n ∧ n ≤ 8)
theorem isSize_i (n : Int) (w : World) : Calls Try.prog 62 #[.int .i64 n] w fun e w' => e = .returned (.bool (sizeB n)) ∧ w' = w := by
  by_cases h1 : 1 ≤ n
  · by_cases h2 : n ≤ 8
    · have e : sizeB n = true := by unfold sizeB; simp; omega
      rw [e]
      go_enter Try.func62, Try.ntmps62
      go_wp2
      go_ret
      exact ⟨rfl, rfl⟩
    · have e : sizeB n = false := by unfold sizeB; simp; omega
      rw [e]
      have hd : decide (n ≤ 8) = false := by simpa using h2
      go_enter Try.func62, Try.ntmps62
      go_wp2
      go_ret
      exact ⟨rfl, rfl⟩
  · have e : sizeB n = false := by unfold sizeB; simp; omega
    rw [e]
    have hd : decide (1 ≤ n) = false := by simpa using h1
    go_enter Try.func62, Try.ntmps62
    go_wp2
    go_ret
    exact ⟨rfl, rfl⟩
end Go.Proofs.Ytfdgijmmgllmgaa
namespace Go.Proofs.Ytfdgijmmgllmgaa
open Go.ChangeShapes Go.WideShapes Go.ChangeAt Go.RowKit Go.Joins
section
variable {H : Type} {enc : TypeId × Value → H} {W : World} {base : Nat} {spare : Nat → Bool} {held : Bool} {v : Value} {d : DataW H} {p : List MemPlace}
def colV (r g b : Nat) : Value := .agg #[.float .f32 r, .float .f32 g, .float .f32 b]
end
end Go.Proofs.Ytfdgijmmgllmgaa
namespace Go.Proofs.Ytfdgijmmgllmgaa
open Go.ChangeShapes Go.WideShapes Go.ChangeAt Go.RowKit Go.Joins
set_option linter.unusedSimpArgs false
set_option linter.unusedVariables false
set_option maxRecDepth 100000
attribute [local go_sem] store_f
def shareB (x : Nat) : Bool := (FloatKind.f32.format.order x 0 == some .gt || FloatKind.f32.format.order x 0 == some .eq) && (FloatKind.f32.format.order x 1065353216 == some .lt || FloatKind.f32.format.order x 1065353216 == some .eq)
theorem isShare_i (x : Nat) (w : World) :
    Calls Try.prog 98 #[.float .f32 x] w fun e w' => e = .returned (.bool (shareB x)) ∧ w' = w := by
  go_enter Try.func98, Try.ntmps98
  go_wp2
  all_goals (go_ret; exact ⟨by simp_all [shareB], rfl⟩)
theorem l1Clean_s (x : Nat) (w : World) (h : FloatKind.f32.format.sub x x = some 0) :
    Calls Try.prog 134 #[.float .f32 x] w fun e w' => e = .returned (.float .f32 (cleanB x)) ∧ w' = w := by
  have hop := fun t w => run_float_arith (P := Try.prog) w .sub t .f32 x x 0 h
  have h0 : FloatKind.f32.format.order 0 0 = some .eq := by kernel_rfl
  go_enter Try.func134, Try.ntmps134
  go_wp2_with (simp only [hop])
  all_goals (go_ret; exact ⟨by simp_all [cleanB], rfl⟩)
theorem l1Times_s (a b r : Nat) (w : World) (h : FloatKind.f32.format.mul a b = some r) (h0 : FloatKind.f32.format.sub r r = some 0) :
    Calls Try.prog 114 #[.float .f32 a, .float .f32 b] w fun e w' => e = .returned (.float .f32 (cleanB r)) ∧ w' = w := by
  have hop := fun t w => run_float_arith (P := Try.prog) w .mul t .f32 a b r h
  have H0 : Hid (FloatKind.f32.format.sub r r = some 0) := h0
  clear h0
  go_enter Try.func114, Try.ntmps114
  go_wp2_with (first | (simp only [hop]) | (go_at_call 134; refine (l1Clean_s _ _ H0.out).mono ?_; rintro e w1 ⟨rfl, rfl⟩))
  all_goals (go_ret; exact ⟨rfl, rfl⟩)
end Go.Proofs.Ytfdgijmmgllmgaa
namespace Go.Proofs.Ytfdgijmmgllmgaa
open Ieee
theorem read_zero : F32.read 0 = .number false 0 F32.leastPlace := by kernel_rfl
theorem read_one : F32.read 1065353216 = .number false 8388608 (-23) := by kernel_rfl
theorem not_fin {x : Nat} (h : ¬ Fin32 x) : (F32.read x = .infinity (negOf F32 x)) ∨ ∃ s t, F32.read x = .nan s t := by
  have h1 : F32.infRung ≤ rungOf F32 x := Nat.le_of_not_lt h
  rcases Nat.eq_or_lt_of_le h1 with h2 | h2
  · exact Or.inl (read_inf F32 h2.symm F32_eb)
  · exact Or.inr ⟨_, _, read_nan F32 h2 F32_eb⟩
theorem sub_self_none {x : Nat} (h : ¬ Fin32 x) : F32.sub x x = none := by
  unfold Format.sub
  rcases not_fin h with e | ⟨s, t, e⟩
  · rw [e]; cases negOf F32 x <;> rfl
  · rw [e]; rfl
def Part (x : Nat) : Prop := x ≤ 1065353216 ∨ x = 2147483648
theorem Part.fin {x : Nat} (h : Part x) : Fin32 x := by
  rcases h with h | h
  · exact fin_of_lt (by omega)
  · subst h; unfold Fin32 rungOf; rw [F32_sw, F32_inf]; decide
theorem Part.lt {x : Nat} (h : Part x) : x < 4294967296 := by
  rcases h with h | h <;> omega
theorem share_part {x : Nat} (hx : x < 4294967296) (h : shareB x = true) : Part x := by
  by_cases hf : Fin32 x
  · unfold shareB at h
    rw [order_zero hf, order_fin F32 hf (fin_of_lt (x := 1065353216) (by omega)), val_of_lt (x := 1065353216) (by omega)] at h
    simp only [cmp_eq, cmp_lt, cmp_gt] at h
    simp only [Bool.and_eq_true, Bool.or_eq_true, decide_eq_true_eq] at h
    by_cases hlt : x < 2147483648
    · left
      rw [val_of_lt hlt] at h
      exact le_of_magOf F32 (by omega)
    · right
      have e1 : rungOf F32 x = x - 2147483648 := by unfold rungOf; rw [F32_sw]; omega
      have e2 : negOf F32 x = true := by unfold negOf; rw [F32_sw]; have : x / 2147483648 = 1 := by omega
                                         rw [this]; rfl
      unfold valOf at h
      rw [e1, e2] at h
      simp only [if_true] at h
      rcases Nat.eq_zero_or_pos (x - 2147483648) with h0 | h0
      · omega
      · have := magOf_pos h0; omega
  · exfalso
    unfold shareB at h
    have h1 : ∀ y, F32.order x y = (F32.read x).order (F32.read y) := fun _ => rfl
    have h' : (((F32.read x).order (F32.read 0) == some .gt || (F32.read x).order (F32.read 0) == some .eq) && ((F32.read x).order (F32.read 1065353216) == some .lt || (F32.read x).order (F32.read 1065353216) == some .eq)) = true := h
    rw [read_zero, read_one] at h'
    rcases not_fin hf with e | ⟨s, t, e⟩
    · rw [e] at h'; cases hn : negOf F32 x <;> rw [hn] at h' <;> simp [Datum.order] at h'
    · rw [e] at h'; simp [Datum.order] at h'
theorem part_share {x : Nat} (h : Part x) : shareB x = true := by
  have hf := h.fin
  unfold shareB
  rw [order_zero hf, order_fin F32 hf (fin_of_lt (x := 1065353216) (by omega)), val_of_lt (x := 1065353216) (by omega)]
  simp only [cmp_eq, cmp_lt, cmp_gt]
  simp only [Bool.and_eq_true, Bool.or_eq_true, decide_eq_true_eq]
  rcases h with h | h
  · rw [val_of_lt (by omega)]
    have := magOf_le F32 h
    omega
  · subst h
    have : valOf F32 2147483648 = 0 := val_eq_zero.2 (by unfold rungOf; rw [F32_sw])
    rw [this]; omega
section
variable {P : Program} (w : World)
theorem run_float_nan (t : TypeId) (x y : Nat) (h : FloatKind.f32.format.sub x y = none) : (binOp .sub t (.float .f32 x) (.float .f32 y)).run P w = .ok (.float .f32 ((Question.nanBits .f32 x y).cut (w.tape w.drawn (.nanBits .f32 x y)))) w.drew := by
  simp [binOp, Op.floatArith, h, Question.forced]
end
theorem nan_order (x y t : Nat) : (FloatKind.f32.format.order ((Question.nanBits .f32 x y).cut t) 0 == some .eq) = false := by
  have h : F32.infRung < rungOf F32 ((Question.nanBits .f32 x y).cut t) := by
    show _ < rungOf F32 (t % 2 * 2 ^ 31 + 0x7f800000 + 1 + t / 2 % (2 ^ 23 - 1))
    unfold rungOf
    rw [F32_inf, F32_sw]
    have hb : t / 2 % (2 ^ 23 - 1) < 2 ^ 23 - 1 := Nat.mod_lt _ (by omega)
    have ha : t % 2 = 0 ∨ t % 2 = 1 := by omega
    generalize t / 2 % (2 ^ 23 - 1) = b at hb ⊢
    rcases ha with e | e <;> rw [e] <;> omega
  show ((F32.read _).order (F32.read 0) == some .eq) = false
  rw [read_nan F32 h F32_eb]; rfl
end Go.Proofs.Ytfdgijmmgllmgaa
namespace Go.Proofs.Ytfdgijmmgllmgaa
open Go.ChangeShapes Go.WideShapes Go.ChangeAt Go.RowKit Go.Joins
set_option linter.unusedSimpArgs false
set_option linter.unusedVariables false
set_option maxRecDepth 100000
attribute [local go_sem] store_f
theorem l1Single_yes (x : Nat) (w : World) (h : FloatKind.f32.format.sub x x = some 0) :
    Calls Try.prog 79 #[.float .f32 x] w fun e w' => e = .returned (.bool true) ∧ Below w.heap.size w w' := by
  have hop := fun t w => run_float_arith (P := Try.prog) w .sub t .f32 x x 0 h
  have h0 : (FloatKind.f32.format.order 0 0 == some .eq) = true := by kernel_rfl
  go_enter Try.func79, Try.ntmps79
  go_wp2_with (simp only [hop])
  all_goals (go_ret; exact ⟨by simp_all, Below.refl _ _⟩)
theorem l1Single_no (x : Nat) (w : World) (h : FloatKind.f32.format.sub x x = none) :
    Calls Try.prog 79 #[.float .f32 x] w fun e w' => e = .returned (.bool false) ∧ Below w.heap.size w w' := by
  have hop := fun t w => run_float_nan (P := Try.prog) w t x x h
  have h0 := nan_order x x
  go_enter Try.func79, Try.ntmps79
  go_wp2_with (simp only [hop])
  all_goals (go_ret; exact ⟨by simp_all, by (repeat' (first | (with_reducible exact Below.refl _ _) | (with_reducible assumption) | (with_reducible refine Below.alloc ?_ ?_ _) | (with_reducible refine Below.drew ?_) | (with_reducible refine Below.setCell ?_ ?_ _) | (with_reducible refine Below.trans ?_ (Below.mono (by assumption) ?_)) | (with_reducible exact Nat.le_refl _) | omega | (simp only [World.size_alloc, World.size_setCell, World.size_drew]; omega) | (simp; omega) | (simp; done)))⟩)
theorem l1Single_s (x : Nat) (w : World) :
    Calls Try.prog 79 #[.float .f32 x] w fun e w' => e = .returned (.bool (rungOf F32 x < F32.infRung)) ∧ Below w.heap.size w w' := by
  by_cases h : Fin32 x
  · refine (l1Single_yes x w (sub_self h)).mono ?_
    rintro e w1 ⟨rfl, hb⟩
    have h' : rungOf F32 x < F32.infRung := h
    exact ⟨by simp [h'], hb⟩
  · refine (l1Single_no x w (sub_self_none h)).mono ?_
    rintro e w1 ⟨rfl, hb⟩
    have h' : ¬ rungOf F32 x < F32.infRung := h
    exact ⟨by simp [h'], hb⟩
theorem part_fin' {x : Nat} (hx : x < 4294967296) (h : ¬ rungOf F32 x < F32.infRung) : shareB x = false := by
  cases h1 : shareB x
  · rfl
  · exact absurd (share_part hx h1).fin h
theorem l2Part_s (x : Nat) (hx : x < 4294967296) (w : World) :
    Calls Try.prog 113 #[.float .f32 x] w fun e w' => e = .returned (.bool (shareB x)) ∧ Below w.heap.size w w' := by
  have HX : Hid (x < 4294967296) := hx
  clear hx
  by_cases hs : rungOf F32 x < F32.infRung
  · go_enter Try.func113, Try.ntmps113
    go_wp2_with (go_at_call 79; refine (l1Single_s _ _).mono ?_; rintro e w1 ⟨rfl, hb⟩; simp only [hs, decide_true])
    all_goals (go_ret; exact ⟨by simp_all [shareB], by (repeat' (first | (with_reducible exact Below.refl _ _) | (with_reducible assumption) | (with_reducible refine Below.alloc ?_ ?_ _) | (with_reducible refine Below.drew ?_) | (with_reducible refine Below.setCell ?_ ?_ _) | (with_reducible refine Below.trans ?_ (Below.mono (by assumption) ?_)) | (with_reducible exact Nat.le_refl _) | omega | (simp only [World.size_alloc, World.size_setCell, World.size_drew]; omega) | (simp; omega) | (simp; done)))⟩)
  · have H2 : Hid (shareB x = false) := part_fin' HX.out hs
    go_enter Try.func113, Try.ntmps113
    go_wp2_with (go_at_call 79; refine (l1Single_s _ _).mono ?_; rintro e w1 ⟨rfl, hb⟩; simp only [hs, decide_false])
    all_goals (go_ret; exact ⟨by simp [H2.out], by (repeat' (first | (with_reducible exact Below.refl _ _) | (with_reducible assumption) | (with_reducible refine Below.alloc ?_ ?_ _) | (with_reducible refine Below.drew ?_) | (with_reducible refine Below.setCell ?_ ?_ _) | (with_reducible refine Below.trans ?_ (Below.mono (by assumption) ?_)) | (with_reducible exact Nat.le_refl _) | omega | (simp only [World.size_alloc, World.size_setCell, World.size_drew]; omega) | (simp; omega) | (simp; done)))⟩)
end Go.Proofs.Ytfdgijmmgllmgaa
namespace Go.Proofs.Ytfdgijmmgllmgaa
open Go.ChangeShapes Go.WideShapes Go.ChangeAt Go.RowKit Go.Joins
set_option linter.unusedSimpArgs false
set_option linter.unusedVariables false
set_option maxRecDepth 100000
attribute [local go_sem] store_f
def row3 (a b c z : Value) (k : Int) : Array Value := #[if 0 < k then a else z, if 1 < k then b else z, if 2 < k then c else z]
theorem eachShare_i (x y z : Nat) (w : World) :
    Calls Try.prog 96 #[.agg #[.float .f32 x, .float .f32 y, .float .f32 z], .func (.func 98) #[] #[]] w fun e w' =>
      e = .returned (.agg #[.bool (shareB x), .bool (shareB y), .bool (shareB z)]) ∧ Below w.heap.size w w' := by
  have x0 : ∀ w : World, (Instr.index 104 (.agg #[.float .f32 x, .float .f32 y, .float .f32 z]) (.int .i64 0)).run Try.prog w = .ok (.float .f32 x) w := fun _ => by kernel_rfl
  have x1 : ∀ w : World, (Instr.index 104 (.agg #[.float .f32 x, .float .f32 y, .float .f32 z]) (.int .i64 1)).run Try.prog w = .ok (.float .f32 y) w := fun _ => by kernel_rfl
  have x2 : ∀ w : World, (Instr.index 104 (.agg #[.float .f32 x, .float .f32 y, .float .f32 z]) (.int .i64 2)).run Try.prog w = .ok (.float .f32 z) w := fun _ => by kernel_rfl
  go_enter Try.func96, Try.ntmps96
  go_wp2_with fail
  go_loopw [9] (fun i wr => ∃ k : Int, (k = 0 ∨ k = 1 ∨ k = 2 ∨ k = 3) ∧ i = .int .i64 k ∧ Blk wr (w.heap.size + 2) (row3 (.bool (shareB x)) (.bool (shareB y)) (.bool (shareB z)) (.bool false) k) 133 ∧ Blk wr (w.heap.size + 1) #[.bool false, .bool false, .bool false] 133 ∧ Below w.heap.size w wr)
    (fun i _ => 3 - (intOf i).toNat)
  case atStart => exact ⟨0, Or.inl rfl, rfl, Blk.newAt (by simp), (Blk.newAt (by simp)).alloc, by (repeat' (first | (with_reducible exact Below.refl _ _) | (with_reducible assumption) | (with_reducible refine Below.alloc ?_ ?_ _) | (with_reducible refine Below.drew ?_) | (with_reducible refine Below.setCell ?_ ?_ _) | (with_reducible refine Below.trans ?_ (Below.mono (by assumption) ?_)) | (with_reducible exact Nat.le_refl _) | omega | (simp only [World.size_alloc, World.size_setCell, World.size_drew]; omega) | (simp; omega) | (simp; done)))⟩
  case round =>
    obtain ⟨k, hk, rfl, hB2, hB1, hbel⟩ := hrel
    have l2 := hB2.lt
    have l1 := hB1.lt
    have c20 := hB2.cell 0
    have c21 := hB2.cell 1
    have c22 := hB2.cell 2
    have f20 := hB2.free 0
    have f21 := hB2.free 1
    have f22 := hB2.free 2
    have c10 := hB1.cell 0
    have c11 := hB1.cell 1
    have c12 := hB1.cell 2
    have f10 := hB1.free 0
    have f11 := hB1.free 1
    have f12 := hB1.free 2
    have H2 : Hid (Blk wr (w.heap.size + 2) (row3 (.bool (shareB x)) (.bool (shareB y)) (.bool (shareB z)) (.bool false) k) 133) := hB2
    have H1 : Hid (Blk wr (w.heap.size + 1) #[.bool false, .bool false, .bool false] 133) := hB1
    clear hB2 hB1
    rcases hk with rfl | rfl | rfl | rfl
    all_goals simp [row3] at c20 c21 c22 c10 c11 c12
    · go_wp2_with (first | simp only [x0] | (go_at_call 98; refine (isShare_i _ _).mono ?_; rintro e w1 ⟨rfl, rfl⟩))
      go_roundw
      case rel => exact ⟨1, by omega, rfl, H2.out.set, H1.out.other (by simp), by (repeat' (first | (with_reducible exact Below.refl _ _) | (with_reducible assumption) | (with_reducible refine Below.alloc ?_ ?_ _) | (with_reducible refine Below.drew ?_) | (with_reducible refine Below.setCell ?_ ?_ _) | (with_reducible refine Below.trans ?_ (Below.mono (by assumption) ?_)) | (with_reducible exact Nat.le_refl _) | omega | (simp only [World.size_alloc, World.size_setCell, World.size_drew]; omega) | (simp; omega) | (simp; done)))⟩
      case measure => simp [intOf]
    · go_wp2_with (first | simp only [x1] | (go_at_call 98; refine (isShare_i _ _).mono ?_; rintro e w1 ⟨rfl, rfl⟩))
      go_roundw
      case rel => exact ⟨2, by omega, rfl, H2.out.set, H1.out.other (by simp), by (repeat' (first | (with_reducible exact Below.refl _ _) | (with_reducible assumption) | (with_reducible refine Below.alloc ?_ ?_ _) | (with_reducible refine Below.drew ?_) | (with_reducible refine Below.setCell ?_ ?_ _) | (with_reducible refine Below.trans ?_ (Below.mono (by assumption) ?_)) | (with_reducible exact Nat.le_refl _) | omega | (simp only [World.size_alloc, World.size_setCell, World.size_drew]; omega) | (simp; omega) | (simp; done)))⟩
      case measure => simp [intOf]
    · go_wp2_with (first | simp only [x2] | (go_at_call 98; refine (isShare_i _ _).mono ?_; rintro e w1 ⟨rfl, rfl⟩))
      go_roundw
      case rel => exact ⟨3, by omega, rfl, H2.out.set, H1.out.other (by simp), by (repeat' (first | (with_reducible exact Below.refl _ _) | (with_reducible assumption) | (with_reducible refine Below.alloc ?_ ?_ _) | (with_reducible refine Below.drew ?_) | (with_reducible refine Below.setCell ?_ ?_ _) | (with_reducible refine Below.trans ?_ (Below.mono (by assumption) ?_)) | (with_reducible exact Nat.le_refl _) | omega | (simp only [World.size_alloc, World.size_setCell, World.size_drew]; omega) | (simp; omega) | (simp; done)))⟩
      case measure => simp [intOf]
    · have d0 := (H1.out.set (i := 0) (v := .bool (shareB x))).cell 0
      have d1 := ((H1.out.set (i := 0) (v := .bool (shareB x))).set (i := 1) (v := .bool (shareB y))).cell 1
      have d2 := (((H1.out.set (i := 0) (v := .bool (shareB x))).set (i := 1) (v := .bool (shareB y))).set (i := 2) (v := .bool (shareB z))).cell 2
      simp only [List.setIfInBounds_toArray, List.set_cons_zero, List.set_cons_succ, List.getElem?_toArray, List.getElem?_cons_zero, List.getElem?_cons_succ] at d0 d1 d2
      go_wp2
      exact bodyPost_ret (v := .agg #[.bool (shareB x), .bool (shareB y), .bool (shareB z)]) (by simp [results, Try.results96, go_sem, d0, d1, d2]) rfl ⟨rfl, by (repeat' (first | (with_reducible exact Below.refl _ _) | (with_reducible assumption) | (with_reducible refine Below.alloc ?_ ?_ _) | (with_reducible refine Below.drew ?_) | (with_reducible refine Below.setCell ?_ ?_ _) | (with_reducible refine Below.trans ?_ (Below.mono (by assumption) ?_)) | (with_reducible exact Nat.le_refl _) | omega | (simp only [World.size_alloc, World.size_setCell, World.size_drew]; omega) | (simp; omega) | (simp; done)))⟩
end Go.Proofs.Ytfdgijmmgllmgaa
namespace Go.Proofs.Ytfdgijmmgllmgaa
open Go.ChangeShapes Go.WideShapes Go.ChangeAt Go.RowKit Go.Joins
set_option linter.unusedSimpArgs false
set_option linter.unusedVariables false
set_option maxRecDepth 100000
attribute [local go_sem] store_f
def colB (r g b : Nat) : Bool := shareB r && shareB g && shareB b
theorem toColour_any (r g b : Nat) (w : World) :
    Calls Try.prog 21 #[colV r g b] w fun e w' => e = .returned (colV r g b) ∧ Below w.heap.size w w' := by
  unfold colV
  go_enter Try.func21, Try.ntmps21
  go_wp2
  go_returns; exact ⟨rfl, by (repeat' (first | (with_reducible exact Below.refl _ _) | (with_reducible assumption) | (with_reducible refine Below.alloc ?_ ?_ _) | (with_reducible refine Below.drew ?_) | (with_reducible refine Below.setCell ?_ ?_ _) | (with_reducible refine Below.trans ?_ (Below.mono (by assumption) ?_)) | (with_reducible exact Nat.le_refl _) | omega | (simp only [World.size_alloc, World.size_setCell, World.size_drew]; omega) | (simp; omega) | (simp; done)))⟩
set_option maxHeartbeats 800000 in
theorem isColour_s (r g b : Nat) (hr : r < 4294967296) (hg : g < 4294967296) (hb : b < 4294967296) (w : World) :
    Calls Try.prog 76 #[colV r g b] w fun e w' => e = .returned (.bool (colB r g b)) ∧ Below w.heap.size w w' := by
  unfold colV colB
  cases hsr : shareB r
  · go_enter Try.func76, Try.ntmps76
    go_wp2_with (go_at_call 113; refine (l2Part_s _ (by assumption) _).mono ?_; rintro e w1 ⟨rfl, hb⟩; simp only [hsr]; obtain ⟨hc, hf⟩ := bcell hb; have HL := keepL (by (repeat (first | (with_reducible assumption) | (with_reducible apply AllLt.alloc) | (with_reducible apply AllLt.setCell) | (with_reducible apply AllLt.drew) | (with_reducible exact AllLt.nil _)))) hb; have hq := HL; simp only [AllLt, and_true, World.size_alloc, World.size_setCell, World.size_drew] at hq; have hbs := hb.size; try simp only [World.size_alloc, World.size_setCell, World.size_drew] at hbs)
    all_goals go_returns; exact ⟨rfl, by (repeat' (first | (with_reducible exact Below.refl _ _) | (with_reducible assumption) | (with_reducible refine Below.alloc ?_ ?_ _) | (with_reducible refine Below.drew ?_) | (with_reducible refine Below.setCell ?_ ?_ _) | (with_reducible refine Below.trans ?_ (Below.mono (by assumption) ?_)) | (with_reducible exact Nat.le_refl _) | omega | (simp only [World.size_alloc, World.size_setCell, World.size_drew]; omega) | (simp; omega) | (simp; done)))⟩
  · cases hsg : shareB g
    · go_enter Try.func76, Try.ntmps76
      go_wp2_with (go_at_call 113; refine (l2Part_s _ (by assumption) _).mono ?_; rintro e w1 ⟨rfl, hb⟩; simp only [hsr, hsg]; obtain ⟨hc, hf⟩ := bcell hb; have HL := keepL (by (repeat (first | (with_reducible assumption) | (with_reducible apply AllLt.alloc) | (with_reducible apply AllLt.setCell) | (with_reducible apply AllLt.drew) | (with_reducible exact AllLt.nil _)))) hb; have hq := HL; simp only [AllLt, and_true, World.size_alloc, World.size_setCell, World.size_drew] at hq; have hbs := hb.size; try simp only [World.size_alloc, World.size_setCell, World.size_drew] at hbs)
      all_goals go_returns; exact ⟨rfl, by (repeat' (first | (with_reducible exact Below.refl _ _) | (with_reducible assumption) | (with_reducible refine Below.alloc ?_ ?_ _) | (with_reducible refine Below.drew ?_) | (with_reducible refine Below.setCell ?_ ?_ _) | (with_reducible refine Below.trans ?_ (Below.mono (by assumption) ?_)) | (with_reducible exact Nat.le_refl _) | omega | (simp only [World.size_alloc, World.size_setCell, World.size_drew]; omega) | (simp; omega) | (simp; done)))⟩
    · cases hsb : shareB b
      · go_enter Try.func76, Try.ntmps76
        go_wp2_with (go_at_call 113; refine (l2Part_s _ (by assumption) _).mono ?_; rintro e w1 ⟨rfl, hb⟩; simp only [hsr, hsg, hsb]; obtain ⟨hc, hf⟩ := bcell hb; have HL := keepL (by (repeat (first | (with_reducible assumption) | (with_reducible apply AllLt.alloc) | (with_reducible apply AllLt.setCell) | (with_reducible apply AllLt.drew) | (with_reducible exact AllLt.nil _)))) hb; have hq := HL; simp only [AllLt, and_true, World.size_alloc, World.size_setCell, World.size_drew] at hq; have hbs := hb.size; try simp only [World.size_alloc, World.size_setCell, World.size_drew] at hbs)
        all_goals go_returns; exact ⟨rfl, by (repeat' (first | (with_reducible exact Below.refl _ _) | (with_reducible assumption) | (with_reducible refine Below.alloc ?_ ?_ _) | (with_reducible refine Below.drew ?_) | (with_reducible refine Below.setCell ?_ ?_ _) | (with_reducible refine Below.trans ?_ (Below.mono (by assumption) ?_)) | (with_reducible exact Nat.le_refl _) | omega | (simp only [World.size_alloc, World.size_setCell, World.size_drew]; omega) | (simp; omega) | (simp; done)))⟩
      · go_enter Try.func76, Try.ntmps76
        go_wp2_with (go_at_call 113; refine (l2Part_s _ (by assumption) _).mono ?_; rintro e w1 ⟨rfl, hb⟩; simp only [hsr, hsg, hsb]; obtain ⟨hc, hf⟩ := bcell hb; have HL := keepL (by (repeat (first | (with_reducible assumption) | (with_reducible apply AllLt.alloc) | (with_reducible apply AllLt.setCell) | (with_reducible apply AllLt.drew) | (with_reducible exact AllLt.nil _)))) hb; have hq := HL; simp only [AllLt, and_true, World.size_alloc, World.size_setCell, World.size_drew] at hq; have hbs := hb.size; try simp only [World.size_alloc, World.size_setCell, World.size_drew] at hbs)
        all_goals go_returns; exact ⟨rfl, by (repeat' (first | (with_reducible exact Below.refl _ _) | (with_reducible assumption) | (with_reducible refine Below.alloc ?_ ?_ _) | (with_reducible refine Below.drew ?_) | (with_reducible refine Below.setCell ?_ ?_ _) | (with_reducible refine Below.trans ?_ (Below.mono (by assumption) ?_)) | (with_reducible exact Nat.le_refl _) | omega | (simp only [World.size_alloc, World.size_setCell, World.size_drew]; omega) | (simp; omega) | (simp; done)))⟩
theorem partsOf_i (r g b : Nat) (w : World) :
    Calls Try.prog 97 #[colV r g b] w fun e w' => e = .returned (.agg #[.float .f32 r, .float .f32 g, .float .f32 b]) ∧ Below w.heap.size w w' := by
  unfold colV
  go_enter Try.func97, Try.ntmps97
  go_wp2
  go_returns; exact ⟨rfl, by (repeat' (first | (with_reducible exact Below.refl _ _) | (with_reducible assumption) | (with_reducible refine Below.alloc ?_ ?_ _) | (with_reducible refine Below.drew ?_) | (with_reducible refine Below.setCell ?_ ?_ _) | (with_reducible refine Below.trans ?_ (Below.mono (by assumption) ?_)) | (with_reducible exact Nat.le_refl _) | omega | (simp only [World.size_alloc, World.size_setCell, World.size_drew]; omega) | (simp; omega) | (simp; done)))⟩
theorem isColour_i (r g b : Nat) (w : World) :
    Calls Try.prog 63 #[colV r g b] w fun e w' => e = .returned (.bool (colB r g b)) ∧ Below w.heap.size w w' := by
  unfold colV colB
  have he : ∀ (a b c : Bool) (w : World), (binOp .eql 133 (.agg #[.bool a, .bool b, .bool c]) (.agg #[.bool true, .bool true, .bool true])).run Try.prog w = .ok (.bool (a && b && c)) w := fun a b c w => by cases a <;> cases b <;> cases c <;> kernel_rfl
  go_enter Try.func63, Try.ntmps63
  go_wp2_with (first | (go_at_call 97; refine (partsOf_i _ _ _ _).mono ?_; rintro e w1 ⟨rfl, hb⟩; obtain ⟨hc, hf⟩ := bcell hb; have HL := keepL (by (repeat (first | (with_reducible assumption) | (with_reducible apply AllLt.alloc) | (with_reducible apply AllLt.setCell) | (with_reducible apply AllLt.drew) | (with_reducible exact AllLt.nil _)))) hb; have hq := HL; simp only [AllLt, and_true, World.size_alloc, World.size_setCell, World.size_drew] at hq; have hbs := hb.size; try simp only [World.size_alloc, World.size_setCell, World.size_drew] at hbs) | (go_at_call 96; refine (eachShare_i _ _ _ _).mono ?_; rintro e w2 ⟨rfl, hb⟩; obtain ⟨hc, hf⟩ := bcell hb; have HL := keepL (by (repeat (first | (with_reducible assumption) | (with_reducible apply AllLt.alloc) | (with_reducible apply AllLt.setCell) | (with_reducible apply AllLt.drew) | (with_reducible exact AllLt.nil _)))) hb; have hq := HL; simp only [AllLt, and_true, World.size_alloc, World.size_setCell, World.size_drew] at hq; have hbs := hb.size; try simp only [World.size_alloc, World.size_setCell, World.size_drew] at hbs) | simp only [he])
  all_goals (go_returns; exact ⟨rfl, by (repeat' (first | (with_reducible exact Below.refl _ _) | (with_reducible assumption) | (with_reducible refine Below.alloc ?_ ?_ _) | (with_reducible refine Below.drew ?_) | (with_reducible refine Below.setCell ?_ ?_ _) | (with_reducible refine Below.trans ?_ (Below.mono (by assumption) ?_)) | (with_reducible exact Nat.le_refl _) | omega | (simp only [World.size_alloc, World.size_setCell, World.size_drew]; omega) | (simp; omega) | (simp; done)))⟩)
end Go.Proofs.Ytfdgijmmgllmgaa
namespace Go.Proofs.Ytfdgijmmgllmgaa
open Go.ChangeShapes Go.WideShapes Go.ChangeAt Go.RowKit Go.Joins
set_option linter.unusedSimpArgs false
set_option linter.unusedVariables false
set_option maxRecDepth 100000
attribute [local go_sem] store_f
open Ieee
def Lit.isB (c : Lit) : Bool := colB c.r c.g c.b
def picB (n : Int) (l : List Lit) : Bool := sizeB n && decide ((l.length : Int) = n * n) && l.all Lit.isB
structure PicIs (n : Int) (a : Option Addr) (cap : Nat) (l : List Lit) (p : Bool) : Prop where
  call : ∀ w : World, LitsAt w a l → Calls Try.prog 29 #[.agg #[.int .i64 n, .slice a l.length cap]] w fun e w' => e = .returned (.bool p) ∧ Below w.heap.size w w'
structure ColB (c : Lit) (p : Bool) : Prop where
  call : ∀ w : World, Calls Try.prog 63 #[.agg #[.float .f32 c.r, .float .f32 c.g, .float .f32 c.b]] w fun e w' => e = .returned (.bool p) ∧ Below w.heap.size w w'
theorem colB_of (c : Lit) : ColB c c.isB := ⟨fun w => isColour_i c.r c.g c.b w⟩
set_option maxHeartbeats 4000000 in
theorem picIs_size {n : Int} {a : Option Addr} {cap : Nat} {l : List Lit} (h : sizeB n = false) : PicIs n a cap l false := ⟨fun w hrow => by
  have S := fun w => isSize_i n w
  rw [h] at S
  clear hrow h
  go_enter Try.func29, Try.ntmps29
  go_wp2_with (go_at_call 62; (with_reducible refine (S _).mono ?_); rintro e w1 ⟨rfl, rfl⟩)
  go_ret
  exact ⟨rfl, by (repeat' (first | (with_reducible exact Below.refl _ _) | (with_reducible assumption) | (with_reducible refine Below.alloc ?_ ?_ _) | (with_reducible refine Below.drew ?_) | (with_reducible refine Below.setCell ?_ ?_ _) | (with_reducible refine Below.trans ?_ (Below.mono (by assumption) ?_)) | (with_reducible exact Nat.le_refl _) | omega | (simp only [World.size_alloc, World.size_setCell, World.size_drew]; omega) | (simp; omega) | (simp; done)))⟩⟩
set_option maxHeartbeats 4000000 in
theorem picIs_len {n : Int} {a : Option Addr} {cap : Nat} {l : List Lit} (h : sizeB n = true) (hl : (l.length : Int) ≠ n * n) : PicIs n a cap l false := ⟨fun w hrow => by
  unfold sizeB at h
  simp at h
  clear hrow
  rcases (by omega : n = 1 ∨ n = 2 ∨ n = 3 ∨ n = 4 ∨ n = 5 ∨ n = 6 ∨ n = 7 ∨ n = 8) with rfl | rfl | rfl | rfl | rfl | rfl | rfl | rfl
  all_goals
    simp only [Int.reduceMul] at hl
    clear h
    go_enter Try.func29, Try.ntmps29
    go_wp2
    go_ret
    exact ⟨rfl, by (repeat' (first | (with_reducible exact Below.refl _ _) | (with_reducible assumption) | (with_reducible refine Below.alloc ?_ ?_ _) | (with_reducible refine Below.drew ?_) | (with_reducible refine Below.setCell ?_ ?_ _) | (with_reducible refine Below.trans ?_ (Below.mono (by assumption) ?_)) | (with_reducible exact Nat.le_refl _) | omega | (simp only [World.size_alloc, World.size_setCell, World.size_drew]; omega) | (simp; omega) | (simp; done)))⟩⟩
theorem picIs_all {n : Int} {a : Option Addr} {cap : Nat} {l : List Lit} (h : sizeB n = true) (hl : (l.length : Int) = n * n) : PicIs n a cap l (l.all Lit.isB) := ⟨fun w hrow => by
  unfold sizeB at h
  simp at h
  obtain ⟨N, hN⟩ : ∃ N : Nat, N = l.length := ⟨_, rfl⟩
  have hN2 : N ≤ 64 := by
    have h2 : n * n ≤ 8 * 8 := Int.mul_le_mul (by omega) (by omega) (by omega) (by omega)
    omega
  have HNN : Hid (n * n = (N : Int)) := by show n * n = (N : Int); omega
  have HR : Hid (LitsAt w a l) := hrow
  rw [← hN]
  have HN : Hid (N = l.length) := hN
  have HG : Hid (∀ j, j < N → l.all Lit.isB = true → (l.getD j default).isB = true) := fun j hj hh => by
    have h1 : j < l.length := by omega
    have h2 := List.all_eq_true.1 hh l[j] (List.getElem_mem h1)
    simpa [List.getD, h1] using h2
  have HA : Hid ((∀ j, j < N → (l.getD j default).isB = true) → l.all Lit.isB = true) := fun hh => by
    rw [List.all_eq_true]
    intro c hc
    obtain ⟨j, hj, rfl⟩ := List.mem_iff_getElem.1 hc
    have h2 := hh j (by omega)
    simpa [List.getD, hj] using h2
  clear hrow hl hN
  generalize l.all Lit.isB = p at HG HA ⊢
  have S := fun w => isSize_i n w
  have hs : sizeB n = true := by unfold sizeB; simp; omega
  rw [hs] at S
  obtain ⟨h1, h8⟩ := h
  clear hs
  have hNN := HNN.out
  go_enter Try.func29, Try.ntmps29
  go_wp2_with (go_at_call 62; (with_reducible refine (S _).mono ?_); rintro e w1 ⟨rfl, rfl⟩)
  clear S hNN
  go_loopw [23] (fun i wr => ∃ j : Nat, j ≤ N ∧ i = .int .i64 j ∧ (∀ i, i < j → (l.getD i default).isB = true) ∧ Below w.heap.size w wr) (fun i _ => N - (intOf i).toNat)
  case atStart => exact ⟨0, by omega, rfl, fun i hi => absurd hi (by omega), by (repeat' (first | (with_reducible exact Below.refl _ _) | (with_reducible assumption) | (with_reducible refine Below.alloc ?_ ?_ _) | (with_reducible refine Below.drew ?_) | (with_reducible refine Below.setCell ?_ ?_ _) | (with_reducible refine Below.trans ?_ (Below.mono (by assumption) ?_)) | (with_reducible exact Nat.le_refl _) | omega | (simp only [World.size_alloc, World.size_setCell, World.size_drew]; omega) | (simp; omega) | (simp; done)))⟩
  case round =>
    obtain ⟨j, hj, rfl, hall, hbel⟩ := hrel
    have HB : Hid (Below w.heap.size w wr) := hbel
    have HL : Hid (∀ i, i < j → (l.getD i default).isB = true) := hall
    have hbs := hbel.size
    clear hall
    by_cases hlt : j < N
    · have K := colB_of (l.getD j default)
      have HGj := HG.out j hlt
      rcases HR.out with hnil | ⟨b, off, rfl, hRR⟩
      · exfalso
        have := HN.out
        rw [hnil] at this
        simp at this
        omega
      have hrow := (LitRow.below hRR hbel) j (by have := HN.out; omega)
      have HS : Hid ((l.getD j default).isB = true → ∀ i, i < j + 1 → (l.getD i default).isB = true) := fun h i hi => by
        rcases (by omega : i < j ∨ i = j) with h1 | rfl
        · exact HL.out i h1
        · exact h
      generalize (l.getD j default).isB = q at K HS HGj
      have HQ : Hid (p = true → q = true) := HGj
      generalize l.getD j default = c at hrow K
      obtain ⟨d0, d1, d2⟩ := hrow
      clear hbel hRR HGj
      cases q
      · have hp : p = false := by
          cases p
          · rfl
          · exact absurd (HQ.out rfl) (by decide)
        subst hp
        go_wp2_with fail
        refine (K.call _).mono ?_
        rintro e w2 ⟨rfl, hb⟩
        have HB2 : Hid (Below w.heap.size w w2) := (HB.out.alloc (by omega) _).trans (hb.mono (by simp; omega))
        clear hb d0 d1 d2
        go_wp2
        go_ret
        exact ⟨rfl, HB2.out⟩
      · go_wp2_with fail
        refine (K.call _).mono ?_
        rintro e w2 ⟨rfl, hb⟩
        have HB2 : Hid (Below w.heap.size w w2) := (HB.out.alloc (by omega) _).trans (hb.mono (by simp; omega))
        clear hb d0 d1 d2
        go_wp2
        go_roundw
        case rel => exact ⟨j + 1, by omega, by go_num, HS.out (by simp), HB2.out⟩
        case measure => simp [intOf]; omega
    · have hjm : j = N := by omega
      subst hjm
      have hp : p = true := HA.out HL.out
      subst hp
      clear hbel
      go_wp2
      go_ret
      exact ⟨rfl, HB.out⟩⟩
theorem picIs (n : Int) (a : Option Addr) (cap : Nat) (l : List Lit) : PicIs n a cap l (picB n l) := by
  unfold picB
  cases hs : sizeB n
  · exact picIs_size hs
  · by_cases hl : (l.length : Int) = n * n
    · have h := picIs_all (a := a) (cap := cap) hs hl
      simpa [hl] using h
    · have h := picIs_len (a := a) (cap := cap) hs hl
      simpa [hl] using h
end Go.Proofs.Ytfdgijmmgllmgaa
namespace Go.Proofs.Ytfdgijmmgllmgaa
open Ieee
def pm (x : Nat) : Nat := magOf F32 (rungOf F32 x)
theorem mag_one : magOf F32 1065353216 = 2 ^ 149 := by decide +kernel
theorem Part.rung {x : Nat} (h : Part x) : rungOf F32 x ≤ 1065353216 := by
  rcases h with h | h
  · rw [rung_of_lt (by omega)]; exact h
  · subst h; unfold rungOf; rw [F32_sw]; decide
theorem Part.pm_le {x : Nat} (h : Part x) : pm x ≤ 2 ^ 149 := by
  rw [← mag_one]; exact magOf_le F32 h.rung
theorem Part.neg {x : Nat} (h : Part x) : negOf F32 x = true → rungOf F32 x = 0 := by
  intro hn
  rcases h with h | h
  · rw [neg_of_lt (by omega)] at hn; cases hn
  · subst h; unfold rungOf; rw [F32_sw]
theorem Part.val {x : Nat} (h : Part x) : valOf F32 x = (pm x : Int) := by
  unfold valOf pm
  cases hn : negOf F32 x
  · rfl
  · rw [h.neg hn, magOf_zero]; rfl
theorem Part.order {a b : Nat} (ha : Part a) (hb : Part b) : F32.order a b = some (compare (pm a : Int) (pm b : Int)) := by
  rw [order_fin F32 ha.fin hb.fin, ha.val, hb.val]
theorem part_of_le {x : Nat} (h : x ≤ 1065353216) : Part x := Or.inl h
def opB (o : Option Nat) : Nat := match o with | some r => cleanB r | none => 0
def mulB (a b : Nat) : Nat := opB (F32.mul a b)
def subB (a b : Nat) : Nat := opB (F32.sub a b)
theorem clean_word (s : Bool) {r : Nat} (h : r < 2139095040) : cleanB (F32.word s r) = if r = 0 then 0 else F32.word s r := by
  rw [clean_eq (fin_word s h), rungOf_word F32 s (by rw [F32_sw]; omega)]
theorem mul_part {a b : Nat} (ha : Part a) (hb : Part b) :
    ∃ r, F32.mul a b = some r ∧ Fin32 r ∧ cleanB r = rn F32 (pm a * pm b) 149 ∧ rn F32 (pm a * pm b) 149 ≤ rungOf F32 a ∧ rn F32 (pm a * pm b) 149 ≤ rungOf F32 b := by
  have e := mul_fin F32 (q := 149) F32_lp ha.fin hb.fin
  have hN : pm a * pm b ≤ magOf F32 (rungOf F32 a) * 2 ^ 149 := Nat.mul_le_mul_left _ hb.pm_le
  have hN2 : pm a * pm b ≤ magOf F32 (rungOf F32 b) * 2 ^ 149 := by rw [Nat.mul_comm]; exact Nat.mul_le_mul_left _ ha.pm_le
  have hra := ha.rung
  obtain ⟨e1, l1⟩ := roundMul_eq 149 (negOf F32 a ^^ negOf F32 b) (pm a * pm b) (R := rungOf F32 a) (by omega) hN
  have l2 : rn F32 (pm a * pm b) 149 ≤ rungOf F32 b := rn_le F32 hN2
  refine ⟨_, e, ?_, ?_, l1, l2⟩
  · show Fin32 (roundMul F32 149 (negOf F32 a ^^ negOf F32 b) (pm a * pm b))
    rw [e1]; exact fin_word _ (by omega)
  · show cleanB (roundMul F32 149 (negOf F32 a ^^ negOf F32 b) (pm a * pm b)) = _
    rw [e1, clean_word _ (by omega)]
    by_cases h0 : rn F32 (pm a * pm b) 149 = 0
    · rw [if_pos h0, h0]
    · rw [if_neg h0]
      cases hs : (negOf F32 a ^^ negOf F32 b)
      · rfl
      · exfalso; apply h0
        have : pm a * pm b = 0 := by
          unfold pm
          cases na : negOf F32 a
          · cases nb : negOf F32 b
            · rw [na, nb] at hs; cases hs
            · rw [hb.neg nb, magOf_zero, Nat.mul_zero]
          · rw [ha.neg na, magOf_zero, Nat.zero_mul]
        rw [this, rn_zero]
theorem mulB_part {a b : Nat} (ha : Part a) (hb : Part b) : mulB a b = rn F32 (pm a * pm b) 149 ∧ mulB a b ≤ rungOf F32 a ∧ mulB a b ≤ rungOf F32 b := by
  obtain ⟨r, e, _, e1, l1, l2⟩ := mul_part ha hb
  unfold mulB; rw [e]
  show cleanB r = _ ∧ cleanB r ≤ _ ∧ cleanB r ≤ _
  rw [e1]; exact ⟨rfl, l1, l2⟩
theorem Part.mul {a b : Nat} (ha : Part a) (hb : Part b) : Part (mulB a b) := part_of_le (by have := (mulB_part ha hb).2.1; have := ha.rung; omega)
theorem sub_part {a b : Nat} (ha : Part a) (hb : Part b) : ∃ r, F32.sub a b = some r ∧ Fin32 r ∧
    (pm b ≤ pm a → cleanB r = rn F32 (pm a - pm b) 0 ∧ rn F32 (pm a - pm b) 0 ≤ rungOf F32 a) := by
  have e := sub_fin F32 ha.fin hb.fin
  rw [ha.val, hb.val] at e
  have h1 := ha.pm_le
  have h2 := hb.pm_le
  have hra := ha.rung
  obtain ⟨e1, l1⟩ := roundTo_eq (negOf F32 a && !negOf F32 b) ((pm a : Int) - (pm b : Int)) (R := 1065353216) (by omega) (by rw [mag_one]; omega)
  rw [e1] at e
  refine ⟨_, e, fin_word _ (by omega), fun hle => ?_⟩
  have hn : ((pm a : Int) - (pm b : Int)).natAbs = pm a - pm b := by omega
  rw [hn]
  have l2 : rn F32 (pm a - pm b) 0 ≤ rungOf F32 a := rn_le F32 (by rw [Nat.pow_zero, Nat.mul_one]; exact Nat.sub_le _ _)
  refine ⟨?_, l2⟩
  rw [clean_word _ (by omega)]
  by_cases h0 : rn F32 (pm a - pm b) 0 = 0
  · rw [if_pos h0, h0]
  · rw [if_neg h0]
    have hT : ¬ ((pm a : Int) - (pm b : Int)) = 0 := by
      intro h; apply h0
      have : pm a - pm b = 0 := by omega
      rw [this, rn_zero]
    have hT2 : ¬ ((pm a : Int) - (pm b : Int)) < 0 := by omega
    rw [if_neg hT, decide_eq_false hT2]; rfl
theorem subB_part {a b : Nat} (ha : Part a) (hb : Part b) (h : pm b ≤ pm a) : subB a b = rn F32 (pm a - pm b) 0 ∧ subB a b ≤ rungOf F32 a := by
  obtain ⟨r, e, _, e1⟩ := sub_part ha hb
  unfold subB; rw [e]
  show cleanB r = _ ∧ cleanB r ≤ _
  rw [(e1 h).1]; exact ⟨rfl, (e1 h).2⟩
theorem Part.sub {a b : Nat} (ha : Part a) (hb : Part b) (h : pm b ≤ pm a) : Part (subB a b) := part_of_le (by have := (subB_part ha hb h).2; have := ha.rung; omega)
end Go.Proofs.Ytfdgijmmgllmgaa
namespace Go.Proofs.Ytfdgijmmgllmgaa
open Ieee
abbrev F64 : Format := FloatKind.f64.format
theorem F64_sw : F64.signWeight = 9223372036854775808 := by kernel_rfl
theorem F64_inf : F64.infRung = 9218868437227405312 := by kernel_rfl
theorem F64_bin : F64.binade = 4503599627370496 := by kernel_rfl
theorem F64_lp : F64.leastPlace = -(1074 : Nat) := by kernel_rfl
def Fin64 (x : Nat) : Prop := rungOf F64 x < F64.infRung
theorem mag_exact (f : Format) {m P : Nat} (h : m < 2 * f.binade) : magOf f (rn f (m * 2 ^ P) 0) = m * 2 ^ P := by
  rcases Nat.eq_zero_or_pos m with e | e
  · subst e
    have : rn f (0 * 2 ^ P) 0 ≤ 0 := rn_le f (by simp)
    have : rn f (0 * 2 ^ P) 0 = 0 := by omega
    rw [this, magOf_zero]; simp
  · rw [magOf_rn, log2_shift (by omega)]
    have h1 : m.log2 ≤ f.fractionBits := by
      have : m.log2 < f.fractionBits + 1 := (Nat.log2_lt (by omega)).2 (by rw [Nat.pow_succ, Nat.mul_comm]; exact h)
      omega
    generalize hu : m.log2 + P - (f.fractionBits + 0) = u
    have hle : u ≤ P := by omega
    have e2 : m * 2 ^ P = m * 2 ^ (P - u) * 2 ^ u := by rw [Nat.mul_assoc, ← Nat.pow_add, Nat.sub_add_cancel hle]
    rw [e2, Nat.zero_add]
    have h2 := cutAt_le (n := m * 2 ^ (P - u) * 2 ^ u) (g := 2 ^ u) (K := m * 2 ^ (P - u)) (Nat.two_pow_pos u) (Nat.le_refl _)
    have h3 := cutAt_ge (n := m * 2 ^ (P - u) * 2 ^ u) (g := 2 ^ u) (K := m * 2 ^ (P - u)) (Nat.two_pow_pos u) (Nat.le_refl _)
    rw [Nat.le_antisymm h2 h3]
theorem up_le {x : Nat} (h : Fin32 x) : upOf F32 (rungOf F32 x) ≤ 253 := by
  have h1 : rungOf F32 x < F32.infRung := h
  unfold upOf
  rw [F32_inf] at h1
  rw [F32_bin]
  omega
theorem sig_lt (x : Nat) : sigOf F32 (rungOf F32 x) < 16777216 := by
  have := sigOf_lt F32 (rungOf F32 x)
  rw [F32_bin] at this
  omega
def wrung (x : Nat) : Nat := rn F64 (magOf F32 (rungOf F32 x) * 2 ^ 925) 0
theorem one_scale (s u k : Nat) : s * 2 ^ u * 2 ^ k = s * 2 ^ (u + k) := by rw [Nat.mul_assoc, ← Nat.pow_add]
def wide (x : Nat) : Nat := F64.word (negOf F32 x) (wrung x)
theorem wide_rn {x : Nat} (h : Fin32 x) : wrung x ≤ 5188146770730811392 ∧ magOf F64 (wrung x) = magOf F32 (rungOf F32 x) * 2 ^ 925 := by
  have hs := sig_lt x
  have hu := up_le h
  have e : magOf F32 (rungOf F32 x) * 2 ^ 925 = sigOf F32 (rungOf F32 x) * 2 ^ (upOf F32 (rungOf F32 x) + 925) := one_scale _ _ 925
  constructor
  · unfold wrung
    refine rn_le F64 ?_
    rw [e, Nat.pow_zero, Nat.mul_one]
    have h1 := Nat.mul_le_mul (Nat.le_of_lt hs) (Nat.pow_le_pow_right (n := 2) (by decide) (Nat.add_le_add_right hu 925))
    have h2 : 16777216 * 2 ^ (253 + 925) ≤ magOf F64 5188146770730811392 := by decide +kernel
    exact Nat.le_trans h1 h2
  · unfold wrung
    rw [e]
    exact mag_exact F64 (by rw [F64_bin]; omega)
theorem wide_fin {x : Nat} (h : Fin32 x) : Fin64 (wide x) := by
  unfold Fin64 wide
  have := (wide_rn h).1
  rw [rungOf_word F64 _ (by rw [F64_sw]; omega), F64_inf]
  omega
theorem wide_rung {x : Nat} (h : Fin32 x) : rungOf F64 (wide x) = wrung x := by
  unfold wide
  have := (wide_rn h).1
  rw [rungOf_word F64 _ (by rw [F64_sw]; omega)]
theorem wide_mag {x : Nat} (h : Fin32 x) : magOf F64 (rungOf F64 (wide x)) = magOf F32 (rungOf F32 x) * 2 ^ 925 := by
  rw [wide_rung h]; exact (wide_rn h).2
theorem not_inf64 {s : Bool} {r : Nat} (h : r < 9218868437227405312) : (F64.read (F64.word s r)).isInfinity = false := by
  have : rungOf F64 (F64.word s r) < F64.infRung := by rw [rungOf_word F64 s (by rw [F64_sw]; omega), F64_inf]; exact h
  rw [read_fin F64 this]; rfl
theorem wide_bits {x : Nat} (h : Fin32 x) : floatToFloatBits .f32 x .f64 = some (wide x) := by
  have e : F64.write (.number (negOf F32 x) (sigOf F32 (rungOf F32 x)) (F32.leastPlace + (upOf F32 (rungOf F32 x) : Nat))) = wide x := by
    show F64.nearest _ _ _ = _
    rw [nearest_rn F64 _ _ _ F64.leastPlace (upOf F32 (rungOf F32 x) + 925) 0 (by rw [F32_lp, F64_lp]; omega) (by omega)]
    have e2 : sigOf F32 (rungOf F32 x) * 2 ^ (upOf F32 (rungOf F32 x) + 925) = magOf F32 (rungOf F32 x) * 2 ^ 925 := (one_scale _ _ 925).symm
    rw [e2]
    show F64.word (negOf F32 x) (min (wrung x) F64.infRung) = _
    rw [Nat.min_eq_left (by have := (wide_rn h).1; rw [F64_inf]; omega)]
    rfl
  have hni : (F64.read (wide x)).isInfinity = false := not_inf64 (by have := (wide_rn h).1; omega)
  unfold floatToFloatBits
  rw [if_neg (by decide)]
  have hr : FloatKind.f32.decode x = .number (negOf F32 x) (sigOf F32 (rungOf F32 x)) (F32.leastPlace + (upOf F32 (rungOf F32 x) : Nat)) := read_fin F32 h
  rw [hr]
  show (if (F64.read (F64.write _)).isInfinity = true then none else some (F64.write _)) = _
  rw [e, hni]; rfl
theorem wide_same {x : Nat} (h : Fin32 x) : F64.order (wide x) (wide x) = some .eq := by
  rw [order_fin F64 (wide_fin h) (wide_fin h)]; simp
theorem zero64_fin : rungOf F64 0 < F64.infRung := by unfold rungOf; rw [F64_sw, F64_inf]; decide
end Go.Proofs.Ytfdgijmmgllmgaa
