/-
  Texts of this proof, joined: Copen, Ca, Cpart, Cb, Cc, Cd, Hc.
-/
import Derived.Test.YtlnikapkheldeaaK02
import Derived.Test.YtlnikapkheldeaaK03
import Derived.Test.YtlnikapkheldeaaK09
import Derived.Test.YtlnikapkheldeaaK10
/-
  What a colour and a single look like when they are read as data.
-/
namespace Go.Proofs.Ytlnikapkheldeaa
open Go.ChangeShapes Go.WideShapes Go.ChangeAt Go.RowKit Go.Joins

section
variable {H : Type} {enc : TypeId × Value → H} {W : World} {base : Nat} {spare : Nat → Bool} {held : Bool} {v : Value} {d : DataW H} {p : List MemPlace}

theorem wf_f32 {b : Nat} (h : (Lit.float .f32 b).wf = true) : b < 4294967296 := by
  simp [Lit.wf] at h; exact h

/-- A colour as a value. -/
def colV (r g b : Nat) : Value := .agg #[.float .f32 r, .float .f32 g, .float .f32 b]

end
end Go.Proofs.Ytlnikapkheldeaa

/-
  Singles: contracts of what both sides reckon with.
-/
namespace Go.Proofs.Ytlnikapkheldeaa
open Go.ChangeShapes Go.WideShapes Go.ChangeAt Go.RowKit Go.Joins
set_option linter.unusedSimpArgs false
set_option linter.unusedVariables false
set_option maxRecDepth 100000
attribute [local go_sem] store_f

def shareB (x : Nat) : Bool := (FloatKind.f32.format.order x 0 == some .gt || FloatKind.f32.format.order x 0 == some .eq) && (FloatKind.f32.format.order x 1065353216 == some .lt || FloatKind.f32.format.order x 1065353216 == some .eq)
def boundB (x : Nat) : Nat := if FloatKind.f32.format.order x 1065353216 == some .gt then 1065353216 else x

theorem isShare_i (x : Nat) (w : World) :
    Calls Try.prog 137 #[.float .f32 x] w fun e w' => e = .returned (.bool (shareB x)) ∧ w' = w := by
  go_enter Try.func137, Try.ntmps137
  go_wp2
  all_goals (go_ret; exact ⟨by simp_all [shareB], rfl⟩)

theorem differenceOf_i (a b r : Nat) (w : World) (h : FloatKind.f32.format.sub a b = some r) :
    Calls Try.prog 175 #[.float .f32 a, .float .f32 b] w fun e w' => e = .returned (.float .f32 (setB r)) ∧ w' = w := by
  have hop := fun t w => run_float_arith (P := Try.prog) w .sub t .f32 a b r h
  go_enter Try.func175, Try.ntmps175
  go_wp2_with (first | (simp only [hop]) | (go_at_call 130; refine (settle_i _ _).mono ?_; rintro e w1 ⟨rfl, rfl⟩))
  all_goals (go_ret; exact ⟨rfl, rfl⟩)

theorem l1Clean_s (x : Nat) (w : World) (h : FloatKind.f32.format.sub x x = some 0) :
    Calls Try.prog 200 #[.float .f32 x] w fun e w' => e = .returned (.float .f32 (cleanB x)) ∧ w' = w := by
  have hop := fun t w => run_float_arith (P := Try.prog) w .sub t .f32 x x 0 h
  have h0 : FloatKind.f32.format.order 0 0 = some .eq := by kernel_rfl
  go_enter Try.func200, Try.ntmps200
  go_wp2_with (simp only [hop])
  all_goals (go_ret; exact ⟨by simp_all [cleanB], rfl⟩)

theorem l1Plus_s (a b r : Nat) (w : World) (h : FloatKind.f32.format.add a b = some r) (h0 : FloatKind.f32.format.sub r r = some 0) :
    Calls Try.prog 162 #[.float .f32 a, .float .f32 b] w fun e w' => e = .returned (.float .f32 (cleanB r)) ∧ w' = w := by
  have hop := fun t w => run_float_arith (P := Try.prog) w .add t .f32 a b r h
  have H0 : Hid (FloatKind.f32.format.sub r r = some 0) := h0
  clear h0
  go_enter Try.func162, Try.ntmps162
  go_wp2_with (first | (simp only [hop]) | (go_at_call 200; refine (l1Clean_s _ _ H0.out).mono ?_; rintro e w1 ⟨rfl, rfl⟩))
  all_goals (go_ret; exact ⟨rfl, rfl⟩)

theorem l1Minus_s (a b r : Nat) (w : World) (h : FloatKind.f32.format.sub a b = some r) (h0 : FloatKind.f32.format.sub r r = some 0) :
    Calls Try.prog 163 #[.float .f32 a, .float .f32 b] w fun e w' => e = .returned (.float .f32 (cleanB r)) ∧ w' = w := by
  have hop := fun t w => run_float_arith (P := Try.prog) w .sub t .f32 a b r h
  have H0 : Hid (FloatKind.f32.format.sub r r = some 0) := h0
  clear h0
  go_enter Try.func163, Try.ntmps163
  go_wp2_with (first | (simp only [hop]) | (go_at_call 200; refine (l1Clean_s _ _ H0.out).mono ?_; rintro e w1 ⟨rfl, rfl⟩))
  all_goals (go_ret; exact ⟨rfl, rfl⟩)

theorem l1Times_s (a b r : Nat) (w : World) (h : FloatKind.f32.format.mul a b = some r) (h0 : FloatKind.f32.format.sub r r = some 0) :
    Calls Try.prog 201 #[.float .f32 a, .float .f32 b] w fun e w' => e = .returned (.float .f32 (cleanB r)) ∧ w' = w := by
  have hop := fun t w => run_float_arith (P := Try.prog) w .mul t .f32 a b r h
  have H0 : Hid (FloatKind.f32.format.sub r r = some 0) := h0
  clear h0
  go_enter Try.func201, Try.ntmps201
  go_wp2_with (first | (simp only [hop]) | (go_at_call 200; refine (l1Clean_s _ _ H0.out).mono ?_; rintro e w1 ⟨rfl, rfl⟩))
  all_goals (go_ret; exact ⟨rfl, rfl⟩)

end Go.Proofs.Ytlnikapkheldeaa

/-
  Parts of colours: singles from 0 to 1, as words; how both sides ask for them.
-/
namespace Go.Proofs.Ytlnikapkheldeaa
open Ieee

theorem read_zero : F32.read 0 = .number false 0 F32.leastPlace := by kernel_rfl
theorem read_one : F32.read 1065353216 = .number false 8388608 (-23) := by kernel_rfl

/-- What is no number: infinite, or NaN. -/
theorem not_fin {x : Nat} (h : ¬ Fin32 x) : (F32.read x = .infinity (negOf F32 x)) ∨ ∃ s t, F32.read x = .nan s t := by
  have h1 : F32.infRung ≤ rungOf F32 x := Nat.le_of_not_lt h
  rcases Nat.eq_or_lt_of_le h1 with h2 | h2
  · exact Or.inl (read_inf F32 h2.symm F32_eb)
  · exact Or.inr ⟨_, _, read_nan F32 h2 F32_eb⟩

theorem sub_self_none {x : Nat} (h : ¬ Fin32 x) : F32.sub x x = none := by
  unfold Format.sub
  rcases not_fin h with e | ⟨s, t, e⟩
  · rw [e]; cases negOf F32 x <;> rfl
  · rw [e]; rfl

/-- A part: +0 up to 1, or -0. -/
def Part (x : Nat) : Prop := x ≤ 1065353216 ∨ x = 2147483648

theorem Part.fin {x : Nat} (h : Part x) : Fin32 x := by
  rcases h with h | h
  · exact fin_of_lt (by omega)
  · subst h; unfold Fin32 rungOf; rw [F32_sw, F32_inf]; decide

theorem Part.lt {x : Nat} (h : Part x) : x < 4294967296 := by
  rcases h with h | h <;> omega

theorem share_part {x : Nat} (hx : x < 4294967296) (h : shareB x = true) : Part x := by
  by_cases hf : Fin32 x
  · unfold shareB at h
    rw [order_zero hf, order_fin F32 hf (fin_of_lt (x := 1065353216) (by omega)), val_of_lt (x := 1065353216) (by omega)] at h
    simp only [cmp_eq, cmp_lt, cmp_gt] at h
    simp only [Bool.and_eq_true, Bool.or_eq_true, decide_eq_true_eq] at h
    by_cases hlt : x < 2147483648
    · left
      rw [val_of_lt hlt] at h
      exact le_of_magOf F32 (by omega)
    · right
      have e1 : rungOf F32 x = x - 2147483648 := by unfold rungOf; rw [F32_sw]; omega
      have e2 : negOf F32 x = true := by unfold negOf; rw [F32_sw]; have : x / 2147483648 = 1 := by omega
                                         rw [this]; rfl
      unfold valOf at h
      rw [e1, e2] at h
      simp only [if_true] at h
      rcases Nat.eq_zero_or_pos (x - 2147483648) with h0 | h0
      · omega
      · have := magOf_pos h0; omega
  · exfalso
    unfold shareB at h
    have h1 : ∀ y, F32.order x y = (F32.read x).order (F32.read y) := fun _ => rfl
    have h' : (((F32.read x).order (F32.read 0) == some .gt || (F32.read x).order (F32.read 0) == some .eq) && ((F32.read x).order (F32.read 1065353216) == some .lt || (F32.read x).order (F32.read 1065353216) == some .eq)) = true := h
    rw [read_zero, read_one] at h'
    rcases not_fin hf with e | ⟨s, t, e⟩
    · rw [e] at h'; cases hn : negOf F32 x <;> rw [hn] at h' <;> simp [Datum.order] at h'
    · rw [e] at h'; simp [Datum.order] at h'

theorem part_share {x : Nat} (h : Part x) : shareB x = true := by
  have hf := h.fin
  unfold shareB
  rw [order_zero hf, order_fin F32 hf (fin_of_lt (x := 1065353216) (by omega)), val_of_lt (x := 1065353216) (by omega)]
  simp only [cmp_eq, cmp_lt, cmp_gt]
  simp only [Bool.and_eq_true, Bool.or_eq_true, decide_eq_true_eq]
  rcases h with h | h
  · rw [val_of_lt (by omega)]
    have := magOf_le F32 h
    omega
  · subst h
    have : valOf F32 2147483648 = 0 := val_eq_zero.2 (by unfold rungOf; rw [F32_sw])
    rw [this]; omega

theorem share_iff {x : Nat} (hx : x < 4294967296) : shareB x = true ↔ Part x := ⟨share_part hx, part_share⟩

section
variable {P : Program} (w : World)
/-- An operation that has no number for an answer: some NaN, drawn. -/
theorem run_float_nan (t : TypeId) (x y : Nat) (h : FloatKind.f32.format.sub x y = none) : (binOp .sub t (.float .f32 x) (.float .f32 y)).run P w = .ok (.float .f32 ((Question.nanBits .f32 x y).cut (w.tape w.drawn (.nanBits .f32 x y)))) w.drew := by
  simp [binOp, Op.floatArith, h, Question.forced]
end

theorem nan_order (x y t : Nat) : (FloatKind.f32.format.order ((Question.nanBits .f32 x y).cut t) 0 == some .eq) = false := by
  have h : F32.infRung < rungOf F32 ((Question.nanBits .f32 x y).cut t) := by
    show _ < rungOf F32 (t % 2 * 2 ^ 31 + 0x7f800000 + 1 + t / 2 % (2 ^ 23 - 1))
    unfold rungOf
    rw [F32_inf, F32_sw]
    have hb : t / 2 % (2 ^ 23 - 1) < 2 ^ 23 - 1 := Nat.mod_lt _ (by omega)
    have ha : t % 2 = 0 ∨ t % 2 = 1 := by omega
    generalize t / 2 % (2 ^ 23 - 1) = b at hb ⊢
    rcases ha with e | e <;> rw [e] <;> omega
  show ((F32.read _).order (F32.read 0) == some .eq) = false
  rw [read_nan F32 h F32_eb]; rfl
end Go.Proofs.Ytlnikapkheldeaa

/-
  Is it a part? Contracts of both sides.
-/
namespace Go.Proofs.Ytlnikapkheldeaa
open Go.ChangeShapes Go.WideShapes Go.ChangeAt Go.RowKit Go.Joins
set_option linter.unusedSimpArgs false
set_option linter.unusedVariables false
set_option maxRecDepth 100000
attribute [local go_sem] store_f

theorem l1Single_yes (x : Nat) (w : World) (h : FloatKind.f32.format.sub x x = some 0) :
    Calls Try.prog 199 #[.float .f32 x] w fun e w' => e = .returned (.bool true) ∧ Below w.heap.size w w' := by
  have hop := fun t w => run_float_arith (P := Try.prog) w .sub t .f32 x x 0 h
  have h0 : (FloatKind.f32.format.order 0 0 == some .eq) = true := by kernel_rfl
  go_enter Try.func199, Try.ntmps199
  go_wp2_with (simp only [hop])
  all_goals (go_ret; exact ⟨by simp_all, Below.refl _ _⟩)

theorem l1Single_no (x : Nat) (w : World) (h : FloatKind.f32.format.sub x x = none) :
    Calls Try.prog 199 #[.float .f32 x] w fun e w' => e = .returned (.bool false) ∧ Below w.heap.size w w' := by
  have hop := fun t w => run_float_nan (P := Try.prog) w t x x h
  have h0 := nan_order x x
  go_enter Try.func199, Try.ntmps199
  go_wp2_with (simp only [hop])
  all_goals (go_ret; exact ⟨by simp_all, by (repeat' (first | (with_reducible exact Below.refl _ _) | (with_reducible assumption) | (with_reducible refine Below.alloc ?_ ?_ _) | (with_reducible refine Below.drew ?_) | (with_reducible refine Below.setCell ?_ ?_ _) | (with_reducible refine Below.trans ?_ (Below.mono (by assumption) ?_)) | (with_reducible exact Nat.le_refl _) | omega | (simp only [World.size_alloc, World.size_setCell, World.size_drew]; omega) | (simp; omega) | (simp; done)))⟩)


theorem l1Single_s (x : Nat) (w : World) :
    Calls Try.prog 199 #[.float .f32 x] w fun e w' => e = .returned (.bool (rungOf F32 x < F32.infRung)) ∧ Below w.heap.size w w' := by
  by_cases h : Fin32 x
  · refine (l1Single_yes x w (sub_self h)).mono ?_
    rintro e w1 ⟨rfl, hb⟩
    have h' : rungOf F32 x < F32.infRung := h
    exact ⟨by simp [h'], hb⟩
  · refine (l1Single_no x w (sub_self_none h)).mono ?_
    rintro e w1 ⟨rfl, hb⟩
    have h' : ¬ rungOf F32 x < F32.infRung := h
    exact ⟨by simp [h'], hb⟩

theorem part_fin' {x : Nat} (hx : x < 4294967296) (h : ¬ rungOf F32 x < F32.infRung) : shareB x = false := by
  cases h1 : shareB x
  · rfl
  · exact absurd (share_part hx h1).fin h

theorem l2Part_s (x : Nat) (hx : x < 4294967296) (w : World) :
    Calls Try.prog 159 #[.float .f32 x] w fun e w' => e = .returned (.bool (shareB x)) ∧ Below w.heap.size w w' := by
  have HX : Hid (x < 4294967296) := hx
  clear hx
  by_cases hs : rungOf F32 x < F32.infRung
  · go_enter Try.func159, Try.ntmps159
    go_wp2_with (go_at_call 199; refine (l1Single_s _ _).mono ?_; rintro e w1 ⟨rfl, hb⟩; simp only [hs, decide_true])
    all_goals (go_ret; exact ⟨by simp_all [shareB], by (repeat' (first | (with_reducible exact Below.refl _ _) | (with_reducible assumption) | (with_reducible refine Below.alloc ?_ ?_ _) | (with_reducible refine Below.drew ?_) | (with_reducible refine Below.setCell ?_ ?_ _) | (with_reducible refine Below.trans ?_ (Below.mono (by assumption) ?_)) | (with_reducible exact Nat.le_refl _) | omega | (simp only [World.size_alloc, World.size_setCell, World.size_drew]; omega) | (simp; omega) | (simp; done)))⟩)
  · have H2 : Hid (shareB x = false) := part_fin' HX.out hs
    go_enter Try.func159, Try.ntmps159
    go_wp2_with (go_at_call 199; refine (l1Single_s _ _).mono ?_; rintro e w1 ⟨rfl, hb⟩; simp only [hs, decide_false])
    all_goals (go_ret; exact ⟨by simp [H2.out], by (repeat' (first | (with_reducible exact Below.refl _ _) | (with_reducible assumption) | (with_reducible refine Below.alloc ?_ ?_ _) | (with_reducible refine Below.drew ?_) | (with_reducible refine Below.setCell ?_ ?_ _) | (with_reducible refine Below.trans ?_ (Below.mono (by assumption) ?_)) | (with_reducible exact Nat.le_refl _) | omega | (simp only [World.size_alloc, World.size_setCell, World.size_drew]; omega) | (simp; omega) | (simp; done)))⟩)

theorem l2Part_is {x : Nat} {s : Bool} (hs : shareB x = s) (hx : x < 4294967296) (w : World) :
    Calls Try.prog 159 #[.float .f32 x] w fun e w' => e = .returned (.bool s) ∧ Below w.heap.size w w' := hs ▸ l2Part_s x hx w
end Go.Proofs.Ytlnikapkheldeaa

/-
  A function over the three parts: is each a part?
-/
namespace Go.Proofs.Ytlnikapkheldeaa
open Go.ChangeShapes Go.WideShapes Go.ChangeAt Go.RowKit Go.Joins
set_option linter.unusedSimpArgs false
set_option linter.unusedVariables false
set_option maxRecDepth 100000
attribute [local go_sem] store_f

/-- Three cells, the first k of which are filled. -/
def row3 (a b c z : Value) (k : Int) : Array Value := #[if 0 < k then a else z, if 1 < k then b else z, if 2 < k then c else z]

theorem fBelow {W w1 : World} {b i : Nat} (hb : Below W.heap.size W w1) (hl : b < W.heap.size) (h : W.frozen? ⟨b, i, Option.none⟩ = false) : w1.frozen? ⟨b, i, Option.none⟩ = false := (hb.frozen (p := ⟨b, i, Option.none⟩) hl).trans h
theorem fDrew {W : World} {a : Addr} (h : W.frozen? a = false) : W.drew.frozen? a = false := h


theorem eachShare_i (x y z : Nat) (w : World) :
    Calls Try.prog 135 #[.agg #[.float .f32 x, .float .f32 y, .float .f32 z], .func (.func 137) #[] #[]] w fun e w' =>
      e = .returned (.agg #[.bool (shareB x), .bool (shareB y), .bool (shareB z)]) ∧ Below w.heap.size w w' := by
  have x0 : ∀ w : World, (Instr.index 153 (.agg #[.float .f32 x, .float .f32 y, .float .f32 z]) (.int .i64 0)).run Try.prog w = .ok (.float .f32 x) w := fun _ => by kernel_rfl
  have x1 : ∀ w : World, (Instr.index 153 (.agg #[.float .f32 x, .float .f32 y, .float .f32 z]) (.int .i64 1)).run Try.prog w = .ok (.float .f32 y) w := fun _ => by kernel_rfl
  have x2 : ∀ w : World, (Instr.index 153 (.agg #[.float .f32 x, .float .f32 y, .float .f32 z]) (.int .i64 2)).run Try.prog w = .ok (.float .f32 z) w := fun _ => by kernel_rfl
  go_enter Try.func135, Try.ntmps135
  go_wp2_with fail
  go_loopw [9] (fun i wr => ∃ k : Int, (k = 0 ∨ k = 1 ∨ k = 2 ∨ k = 3) ∧ i = .int .i64 k ∧ Blk wr (w.heap.size + 2) (row3 (.bool (shareB x)) (.bool (shareB y)) (.bool (shareB z)) (.bool false) k) 151 ∧ Blk wr (w.heap.size + 1) #[.bool false, .bool false, .bool false] 151 ∧ Below w.heap.size w wr)
    (fun i _ => 3 - (intOf i).toNat)
  case atStart => exact ⟨0, Or.inl rfl, rfl, Blk.newAt (by simp), (Blk.newAt (by simp)).alloc, by (repeat' (first | (with_reducible exact Below.refl _ _) | (with_reducible assumption) | (with_reducible refine Below.alloc ?_ ?_ _) | (with_reducible refine Below.drew ?_) | (with_reducible refine Below.setCell ?_ ?_ _) | (with_reducible refine Below.trans ?_ (Below.mono (by assumption) ?_)) | (with_reducible exact Nat.le_refl _) | omega | (simp only [World.size_alloc, World.size_setCell, World.size_drew]; omega) | (simp; omega) | (simp; done)))⟩
  case round =>
    obtain ⟨k, hk, rfl, hB2, hB1, hbel⟩ := hrel
    have l2 := hB2.lt
    have l1 := hB1.lt
    have c20 := hB2.cell 0
    have c21 := hB2.cell 1
    have c22 := hB2.cell 2
    have f20 := hB2.free 0
    have f21 := hB2.free 1
    have f22 := hB2.free 2
    have c10 := hB1.cell 0
    have c11 := hB1.cell 1
    have c12 := hB1.cell 2
    have f10 := hB1.free 0
    have f11 := hB1.free 1
    have f12 := hB1.free 2
    have H2 : Hid (Blk wr (w.heap.size + 2) (row3 (.bool (shareB x)) (.bool (shareB y)) (.bool (shareB z)) (.bool false) k) 151) := hB2
    have H1 : Hid (Blk wr (w.heap.size + 1) #[.bool false, .bool false, .bool false] 151) := hB1
    clear hB2 hB1
    rcases hk with rfl | rfl | rfl | rfl
    all_goals simp [row3] at c20 c21 c22 c10 c11 c12
    · go_wp2_with (first | simp only [x0] | (go_at_call 137; refine (isShare_i _ _).mono ?_; rintro e w1 ⟨rfl, rfl⟩))
      go_roundw
      case rel => exact ⟨1, by omega, rfl, H2.out.set, H1.out.other (by simp), by (repeat' (first | (with_reducible exact Below.refl _ _) | (with_reducible assumption) | (with_reducible refine Below.alloc ?_ ?_ _) | (with_reducible refine Below.drew ?_) | (with_reducible refine Below.setCell ?_ ?_ _) | (with_reducible refine Below.trans ?_ (Below.mono (by assumption) ?_)) | (with_reducible exact Nat.le_refl _) | omega | (simp only [World.size_alloc, World.size_setCell, World.size_drew]; omega) | (simp; omega) | (simp; done)))⟩
      case measure => simp [intOf]
    · go_wp2_with (first | simp only [x1] | (go_at_call 137; refine (isShare_i _ _).mono ?_; rintro e w1 ⟨rfl, rfl⟩))
      go_roundw
      case rel => exact ⟨2, by omega, rfl, H2.out.set, H1.out.other (by simp), by (repeat' (first | (with_reducible exact Below.refl _ _) | (with_reducible assumption) | (with_reducible refine Below.alloc ?_ ?_ _) | (with_reducible refine Below.drew ?_) | (with_reducible refine Below.setCell ?_ ?_ _) | (with_reducible refine Below.trans ?_ (Below.mono (by assumption) ?_)) | (with_reducible exact Nat.le_refl _) | omega | (simp only [World.size_alloc, World.size_setCell, World.size_drew]; omega) | (simp; omega) | (simp; done)))⟩
      case measure => simp [intOf]
    · go_wp2_with (first | simp only [x2] | (go_at_call 137; refine (isShare_i _ _).mono ?_; rintro e w1 ⟨rfl, rfl⟩))
      go_roundw
      case rel => exact ⟨3, by omega, rfl, H2.out.set, H1.out.other (by simp), by (repeat' (first | (with_reducible exact Below.refl _ _) | (with_reducible assumption) | (with_reducible refine Below.alloc ?_ ?_ _) | (with_reducible refine Below.drew ?_) | (with_reducible refine Below.setCell ?_ ?_ _) | (with_reducible refine Below.trans ?_ (Below.mono (by assumption) ?_)) | (with_reducible exact Nat.le_refl _) | omega | (simp only [World.size_alloc, World.size_setCell, World.size_drew]; omega) | (simp; omega) | (simp; done)))⟩
      case measure => simp [intOf]
    · have d0 := (H1.out.set (i := 0) (v := .bool (shareB x))).cell 0
      have d1 := ((H1.out.set (i := 0) (v := .bool (shareB x))).set (i := 1) (v := .bool (shareB y))).cell 1
      have d2 := (((H1.out.set (i := 0) (v := .bool (shareB x))).set (i := 1) (v := .bool (shareB y))).set (i := 2) (v := .bool (shareB z))).cell 2
      simp only [List.setIfInBounds_toArray, List.set_cons_zero, List.set_cons_succ, List.getElem?_toArray, List.getElem?_cons_zero, List.getElem?_cons_succ] at d0 d1 d2
      go_wp2
      exact bodyPost_ret (v := .agg #[.bool (shareB x), .bool (shareB y), .bool (shareB z)]) (by simp [results, Try.results135, go_sem, d0, d1, d2]) rfl ⟨rfl, by (repeat' (first | (with_reducible exact Below.refl _ _) | (with_reducible assumption) | (with_reducible refine Below.alloc ?_ ?_ _) | (with_reducible refine Below.drew ?_) | (with_reducible refine Below.setCell ?_ ?_ _) | (with_reducible refine Below.trans ?_ (Below.mono (by assumption) ?_)) | (with_reducible exact Nat.le_refl _) | omega | (simp only [World.size_alloc, World.size_setCell, World.size_drew]; omega) | (simp; omega) | (simp; done)))⟩
end Go.Proofs.Ytlnikapkheldeaa

/-
  Is it a colour? Contracts of both sides, of toColour.
-/
namespace Go.Proofs.Ytlnikapkheldeaa
open Go.ChangeShapes Go.WideShapes Go.ChangeAt Go.RowKit Go.Joins
set_option linter.unusedSimpArgs false
set_option linter.unusedVariables false
set_option maxRecDepth 100000
attribute [local go_sem] store_f

def colB (r g b : Nat) : Bool := shareB r && shareB g && shareB b

theorem toColour_any (r g b : Nat) (w : World) :
    Calls Try.prog 160 #[colV r g b] w fun e w' => e = .returned (colV r g b) ∧ Below w.heap.size w w' := by
  unfold colV
  go_enter Try.func160, Try.ntmps160
  go_wp2
  go_returns; exact ⟨rfl, by (repeat' (first | (with_reducible exact Below.refl _ _) | (with_reducible assumption) | (with_reducible refine Below.alloc ?_ ?_ _) | (with_reducible refine Below.drew ?_) | (with_reducible refine Below.setCell ?_ ?_ _) | (with_reducible refine Below.trans ?_ (Below.mono (by assumption) ?_)) | (with_reducible exact Nat.le_refl _) | omega | (simp only [World.size_alloc, World.size_setCell, World.size_drew]; omega) | (simp; omega) | (simp; done)))⟩

set_option maxHeartbeats 800000 in
theorem isColour_s (r g b : Nat) (hr : r < 4294967296) (hg : g < 4294967296) (hb : b < 4294967296) (w : World) :
    Calls Try.prog 113 #[colV r g b] w fun e w' => e = .returned (.bool (colB r g b)) ∧ Below w.heap.size w w' := by
  unfold colV colB
  cases hsr : shareB r
  · go_enter Try.func113, Try.ntmps113
    go_wp2_with (go_at_call 159; refine (l2Part_s _ (by assumption) _).mono ?_; rintro e w1 ⟨rfl, hb⟩; simp only [hsr]; obtain ⟨hc, hf⟩ := bcell hb; have HL := keepL (by (repeat (first | (with_reducible assumption) | (with_reducible apply AllLt.alloc) | (with_reducible apply AllLt.setCell) | (with_reducible apply AllLt.drew) | (with_reducible exact AllLt.nil _)))) hb; have hq := HL; simp only [AllLt, and_true, World.size_alloc, World.size_setCell, World.size_drew] at hq; have hbs := hb.size; try simp only [World.size_alloc, World.size_setCell, World.size_drew] at hbs)
    all_goals go_returns; exact ⟨rfl, by (repeat' (first | (with_reducible exact Below.refl _ _) | (with_reducible assumption) | (with_reducible refine Below.alloc ?_ ?_ _) | (with_reducible refine Below.drew ?_) | (with_reducible refine Below.setCell ?_ ?_ _) | (with_reducible refine Below.trans ?_ (Below.mono (by assumption) ?_)) | (with_reducible exact Nat.le_refl _) | omega | (simp only [World.size_alloc, World.size_setCell, World.size_drew]; omega) | (simp; omega) | (simp; done)))⟩
  · cases hsg : shareB g
    · go_enter Try.func113, Try.ntmps113
      go_wp2_with (go_at_call 159; refine (l2Part_s _ (by assumption) _).mono ?_; rintro e w1 ⟨rfl, hb⟩; simp only [hsr, hsg]; obtain ⟨hc, hf⟩ := bcell hb; have HL := keepL (by (repeat (first | (with_reducible assumption) | (with_reducible apply AllLt.alloc) | (with_reducible apply AllLt.setCell) | (with_reducible apply AllLt.drew) | (with_reducible exact AllLt.nil _)))) hb; have hq := HL; simp only [AllLt, and_true, World.size_alloc, World.size_setCell, World.size_drew] at hq; have hbs := hb.size; try simp only [World.size_alloc, World.size_setCell, World.size_drew] at hbs)
      all_goals go_returns; exact ⟨rfl, by (repeat' (first | (with_reducible exact Below.refl _ _) | (with_reducible assumption) | (with_reducible refine Below.alloc ?_ ?_ _) | (with_reducible refine Below.drew ?_) | (with_reducible refine Below.setCell ?_ ?_ _) | (with_reducible refine Below.trans ?_ (Below.mono (by assumption) ?_)) | (with_reducible exact Nat.le_refl _) | omega | (simp only [World.size_alloc, World.size_setCell, World.size_drew]; omega) | (simp; omega) | (simp; done)))⟩
    · cases hsb : shareB b
      · go_enter Try.func113, Try.ntmps113
        go_wp2_with (go_at_call 159; refine (l2Part_s _ (by assumption) _).mono ?_; rintro e w1 ⟨rfl, hb⟩; simp only [hsr, hsg, hsb]; obtain ⟨hc, hf⟩ := bcell hb; have HL := keepL (by (repeat (first | (with_reducible assumption) | (with_reducible apply AllLt.alloc) | (with_reducible apply AllLt.setCell) | (with_reducible apply AllLt.drew) | (with_reducible exact AllLt.nil _)))) hb; have hq := HL; simp only [AllLt, and_true, World.size_alloc, World.size_setCell, World.size_drew] at hq; have hbs := hb.size; try simp only [World.size_alloc, World.size_setCell, World.size_drew] at hbs)
        all_goals go_returns; exact ⟨rfl, by (repeat' (first | (with_reducible exact Below.refl _ _) | (with_reducible assumption) | (with_reducible refine Below.alloc ?_ ?_ _) | (with_reducible refine Below.drew ?_) | (with_reducible refine Below.setCell ?_ ?_ _) | (with_reducible refine Below.trans ?_ (Below.mono (by assumption) ?_)) | (with_reducible exact Nat.le_refl _) | omega | (simp only [World.size_alloc, World.size_setCell, World.size_drew]; omega) | (simp; omega) | (simp; done)))⟩
      · go_enter Try.func113, Try.ntmps113
        go_wp2_with (go_at_call 159; refine (l2Part_s _ (by assumption) _).mono ?_; rintro e w1 ⟨rfl, hb⟩; simp only [hsr, hsg, hsb]; obtain ⟨hc, hf⟩ := bcell hb; have HL := keepL (by (repeat (first | (with_reducible assumption) | (with_reducible apply AllLt.alloc) | (with_reducible apply AllLt.setCell) | (with_reducible apply AllLt.drew) | (with_reducible exact AllLt.nil _)))) hb; have hq := HL; simp only [AllLt, and_true, World.size_alloc, World.size_setCell, World.size_drew] at hq; have hbs := hb.size; try simp only [World.size_alloc, World.size_setCell, World.size_drew] at hbs)
        all_goals go_returns; exact ⟨rfl, by (repeat' (first | (with_reducible exact Below.refl _ _) | (with_reducible assumption) | (with_reducible refine Below.alloc ?_ ?_ _) | (with_reducible refine Below.drew ?_) | (with_reducible refine Below.setCell ?_ ?_ _) | (with_reducible refine Below.trans ?_ (Below.mono (by assumption) ?_)) | (with_reducible exact Nat.le_refl _) | omega | (simp only [World.size_alloc, World.size_setCell, World.size_drew]; omega) | (simp; omega) | (simp; done)))⟩

theorem partsOf_i (r g b : Nat) (w : World) :
    Calls Try.prog 136 #[colV r g b] w fun e w' => e = .returned (.agg #[.float .f32 r, .float .f32 g, .float .f32 b]) ∧ Below w.heap.size w w' := by
  unfold colV
  go_enter Try.func136, Try.ntmps136
  go_wp2
  go_returns; exact ⟨rfl, by (repeat' (first | (with_reducible exact Below.refl _ _) | (with_reducible assumption) | (with_reducible refine Below.alloc ?_ ?_ _) | (with_reducible refine Below.drew ?_) | (with_reducible refine Below.setCell ?_ ?_ _) | (with_reducible refine Below.trans ?_ (Below.mono (by assumption) ?_)) | (with_reducible exact Nat.le_refl _) | omega | (simp only [World.size_alloc, World.size_setCell, World.size_drew]; omega) | (simp; omega) | (simp; done)))⟩

theorem colourOf_i (r g b : Nat) (w : World) :
    Calls Try.prog 176 #[.agg #[.float .f32 r, .float .f32 g, .float .f32 b]] w fun e w' => e = .returned (colV r g b) ∧ Below w.heap.size w w' := by
  unfold colV
  go_enter Try.func176, Try.ntmps176
  go_wp2
  go_returns; exact ⟨rfl, by (repeat' (first | (with_reducible exact Below.refl _ _) | (with_reducible assumption) | (with_reducible refine Below.alloc ?_ ?_ _) | (with_reducible refine Below.drew ?_) | (with_reducible refine Below.setCell ?_ ?_ _) | (with_reducible refine Below.trans ?_ (Below.mono (by assumption) ?_)) | (with_reducible exact Nat.le_refl _) | omega | (simp only [World.size_alloc, World.size_setCell, World.size_drew]; omega) | (simp; omega) | (simp; done)))⟩

theorem isColour_i (r g b : Nat) (w : World) :
    Calls Try.prog 95 #[colV r g b] w fun e w' => e = .returned (.bool (colB r g b)) ∧ Below w.heap.size w w' := by
  unfold colV colB
  have he : ∀ (a b c : Bool) (w : World), (binOp .eql 151 (.agg #[.bool a, .bool b, .bool c]) (.agg #[.bool true, .bool true, .bool true])).run Try.prog w = .ok (.bool (a && b && c)) w := fun a b c w => by cases a <;> cases b <;> cases c <;> kernel_rfl
  go_enter Try.func95, Try.ntmps95
  go_wp2_with (first | (go_at_call 136; refine (partsOf_i _ _ _ _).mono ?_; rintro e w1 ⟨rfl, hb⟩; obtain ⟨hc, hf⟩ := bcell hb; have HL := keepL (by (repeat (first | (with_reducible assumption) | (with_reducible apply AllLt.alloc) | (with_reducible apply AllLt.setCell) | (with_reducible apply AllLt.drew) | (with_reducible exact AllLt.nil _)))) hb; have hq := HL; simp only [AllLt, and_true, World.size_alloc, World.size_setCell, World.size_drew] at hq; have hbs := hb.size; try simp only [World.size_alloc, World.size_setCell, World.size_drew] at hbs) | (go_at_call 135; refine (eachShare_i _ _ _ _).mono ?_; rintro e w2 ⟨rfl, hb⟩; obtain ⟨hc, hf⟩ := bcell hb; have HL := keepL (by (repeat (first | (with_reducible assumption) | (with_reducible apply AllLt.alloc) | (with_reducible apply AllLt.setCell) | (with_reducible apply AllLt.drew) | (with_reducible exact AllLt.nil _)))) hb; have hq := HL; simp only [AllLt, and_true, World.size_alloc, World.size_setCell, World.size_drew] at hq; have hbs := hb.size; try simp only [World.size_alloc, World.size_setCell, World.size_drew] at hbs) | simp only [he])
  all_goals (go_returns; exact ⟨rfl, by (repeat' (first | (with_reducible exact Below.refl _ _) | (with_reducible assumption) | (with_reducible refine Below.alloc ?_ ?_ _) | (with_reducible refine Below.drew ?_) | (with_reducible refine Below.setCell ?_ ?_ _) | (with_reducible refine Below.trans ?_ (Below.mono (by assumption) ?_)) | (with_reducible exact Nat.le_refl _) | omega | (simp only [World.size_alloc, World.size_setCell, World.size_drew]; omega) | (simp; omega) | (simp; done)))⟩)
end Go.Proofs.Ytlnikapkheldeaa

/-
  IsPicture of the program.
-/
namespace Go.Proofs.Ytlnikapkheldeaa
open Go.ChangeShapes Go.WideShapes Go.ChangeAt Go.RowKit Go.Joins
set_option linter.unusedSimpArgs false
set_option linter.unusedVariables false
set_option maxRecDepth 100000
attribute [local go_sem] store_f
open Ieee

/-- Is it a colour? -/
def Lit.isB (c : Lit) : Bool := colB c.r c.g c.b
/-- Is it a picture? -/
def picB (n : Int) (l : List Lit) : Bool := sizeB n && decide ((l.length : Int) = n * n) && l.all Lit.isB
structure PicIs (n : Int) (a : Option Addr) (cap : Nat) (l : List Lit) (p : Bool) : Prop where
  call : ∀ w : World, LitsAt w a l → Calls Try.prog 36 #[.agg #[.int .i64 n, .slice a l.length cap]] w fun e w' => e = .returned (.bool p) ∧ Below w.heap.size w w'
structure ColB (c : Lit) (p : Bool) : Prop where
  call : ∀ w : World, Calls Try.prog 95 #[.agg #[.float .f32 c.r, .float .f32 c.g, .float .f32 c.b]] w fun e w' => e = .returned (.bool p) ∧ Below w.heap.size w w'
theorem colB_of (c : Lit) : ColB c c.isB := ⟨fun w => isColour_i c.r c.g c.b w⟩

set_option maxHeartbeats 4000000 in
theorem picIs_size {n : Int} {a : Option Addr} {cap : Nat} {l : List Lit} (h : sizeB n = false) : PicIs n a cap l false := ⟨fun w hrow => by
  have S := fun w => isSize_i n w
  rw [h] at S
  clear hrow h
  go_enter Try.func36, Try.ntmps36
  go_wp2_with (go_at_call 74; (with_reducible refine (S _).mono ?_); rintro e w1 ⟨rfl, rfl⟩)
  go_ret
  exact ⟨rfl, by (repeat' (first | (with_reducible exact Below.refl _ _) | (with_reducible assumption) | (with_reducible refine Below.alloc ?_ ?_ _) | (with_reducible refine Below.drew ?_) | (with_reducible refine Below.setCell ?_ ?_ _) | (with_reducible refine Below.trans ?_ (Below.mono (by assumption) ?_)) | (with_reducible exact Nat.le_refl _) | omega | (simp only [World.size_alloc, World.size_setCell, World.size_drew]; omega) | (simp; omega) | (simp; done)))⟩⟩
set_option maxHeartbeats 4000000 in
theorem picIs_len {n : Int} {a : Option Addr} {cap : Nat} {l : List Lit} (h : sizeB n = true) (hl : (l.length : Int) ≠ n * n) : PicIs n a cap l false := ⟨fun w hrow => by
  unfold sizeB at h
  simp at h
  clear hrow
  rcases (by omega : n = 1 ∨ n = 2 ∨ n = 3 ∨ n = 4 ∨ n = 5 ∨ n = 6 ∨ n = 7 ∨ n = 8) with rfl | rfl | rfl | rfl | rfl | rfl | rfl | rfl
  all_goals
    simp only [Int.reduceMul] at hl
    clear h
    go_enter Try.func36, Try.ntmps36
    go_wp2
    go_ret
    exact ⟨rfl, by (repeat' (first | (with_reducible exact Below.refl _ _) | (with_reducible assumption) | (with_reducible refine Below.alloc ?_ ?_ _) | (with_reducible refine Below.drew ?_) | (with_reducible refine Below.setCell ?_ ?_ _) | (with_reducible refine Below.trans ?_ (Below.mono (by assumption) ?_)) | (with_reducible exact Nat.le_refl _) | omega | (simp only [World.size_alloc, World.size_setCell, World.size_drew]; omega) | (simp; omega) | (simp; done)))⟩⟩
/-- The loop over the cells: all of the first ones are colours. -/
theorem picIs_all {n : Int} {a : Option Addr} {cap : Nat} {l : List Lit} (h : sizeB n = true) (hl : (l.length : Int) = n * n) : PicIs n a cap l (l.all Lit.isB) := ⟨fun w hrow => by
  unfold sizeB at h
  simp at h
  obtain ⟨N, hN⟩ : ∃ N : Nat, N = l.length := ⟨_, rfl⟩
  have hN2 : N ≤ 64 := by
    have h2 : n * n ≤ 8 * 8 := Int.mul_le_mul (by omega) (by omega) (by omega) (by omega)
    omega
  have HNN : Hid (n * n = (N : Int)) := by show n * n = (N : Int); omega
  have HR : Hid (LitsAt w a l) := hrow
  rw [← hN]
  have HN : Hid (N = l.length) := hN
  have HG : Hid (∀ j, j < N → l.all Lit.isB = true → (l.getD j default).isB = true) := fun j hj hh => by
    have h1 : j < l.length := by omega
    have h2 := List.all_eq_true.1 hh l[j] (List.getElem_mem h1)
    simpa [List.getD, h1] using h2
  have HA : Hid ((∀ j, j < N → (l.getD j default).isB = true) → l.all Lit.isB = true) := fun hh => by
    rw [List.all_eq_true]
    intro c hc
    obtain ⟨j, hj, rfl⟩ := List.mem_iff_getElem.1 hc
    have h2 := hh j (by omega)
    simpa [List.getD, hj] using h2
  clear hrow hl hN
  generalize l.all Lit.isB = p at HG HA ⊢
  have S := fun w => isSize_i n w
  have hs : sizeB n = true := by unfold sizeB; simp; omega
  rw [hs] at S
  obtain ⟨h1, h8⟩ := h
  clear hs
  have hNN := HNN.out
  go_enter Try.func36, Try.ntmps36
  go_wp2_with (go_at_call 74; (with_reducible refine (S _).mono ?_); rintro e w1 ⟨rfl, rfl⟩)
  clear S hNN
  go_loopw [23] (fun i wr => ∃ j : Nat, j ≤ N ∧ i = .int .i64 j ∧ (∀ i, i < j → (l.getD i default).isB = true) ∧ Below w.heap.size w wr) (fun i _ => N - (intOf i).toNat)
  case atStart => exact ⟨0, by omega, rfl, fun i hi => absurd hi (by omega), by (repeat' (first | (with_reducible exact Below.refl _ _) | (with_reducible assumption) | (with_reducible refine Below.alloc ?_ ?_ _) | (with_reducible refine Below.drew ?_) | (with_reducible refine Below.setCell ?_ ?_ _) | (with_reducible refine Below.trans ?_ (Below.mono (by assumption) ?_)) | (with_reducible exact Nat.le_refl _) | omega | (simp only [World.size_alloc, World.size_setCell, World.size_drew]; omega) | (simp; omega) | (simp; done)))⟩
  case round =>
    obtain ⟨j, hj, rfl, hall, hbel⟩ := hrel
    have HB : Hid (Below w.heap.size w wr) := hbel
    have HL : Hid (∀ i, i < j → (l.getD i default).isB = true) := hall
    have hbs := hbel.size
    clear hall
    by_cases hlt : j < N
    · have K := colB_of (l.getD j default)
      have HGj := HG.out j hlt
      rcases HR.out with hnil | ⟨b, off, rfl, hRR⟩
      · exfalso
        have := HN.out
        rw [hnil] at this
        simp at this
        omega
      have hrow := (LitRow.below hRR hbel) j (by have := HN.out; omega)
      have HS : Hid ((l.getD j default).isB = true → ∀ i, i < j + 1 → (l.getD i default).isB = true) := fun h i hi => by
        rcases (by omega : i < j ∨ i = j) with h1 | rfl
        · exact HL.out i h1
        · exact h
      generalize (l.getD j default).isB = q at K HS HGj
      have HQ : Hid (p = true → q = true) := HGj
      generalize l.getD j default = c at hrow K
      obtain ⟨d0, d1, d2⟩ := hrow
      clear hbel hRR HGj
      cases q
      · have hp : p = false := by
          cases p
          · rfl
          · exact absurd (HQ.out rfl) (by decide)
        subst hp
        go_wp2_with fail
        refine (K.call _).mono ?_
        rintro e w2 ⟨rfl, hb⟩
        have HB2 : Hid (Below w.heap.size w w2) := (HB.out.alloc (by omega) _).trans (hb.mono (by simp; omega))
        clear hb d0 d1 d2
        go_wp2
        go_ret
        exact ⟨rfl, HB2.out⟩
      · go_wp2_with fail
        refine (K.call _).mono ?_
        rintro e w2 ⟨rfl, hb⟩
        have HB2 : Hid (Below w.heap.size w w2) := (HB.out.alloc (by omega) _).trans (hb.mono (by simp; omega))
        clear hb d0 d1 d2
        go_wp2
        go_roundw
        case rel => exact ⟨j + 1, by omega, by go_num, HS.out (by simp), HB2.out⟩
        case measure => simp [intOf]; omega
    · have hjm : j = N := by omega
      subst hjm
      have hp : p = true := HA.out HL.out
      subst hp
      clear hbel
      go_wp2
      go_ret
      exact ⟨rfl, HB.out⟩⟩
theorem picIs (n : Int) (a : Option Addr) (cap : Nat) (l : List Lit) : PicIs n a cap l (picB n l) := by
  unfold picB
  cases hs : sizeB n
  · exact picIs_size hs
  · by_cases hl : (l.length : Int) = n * n
    · have h := picIs_all (a := a) (cap := cap) hs hl
      simpa [hl] using h
    · have h := picIs_len (a := a) (cap := cap) hs hl
      simpa [hl] using h
end Go.Proofs.Ytlnikapkheldeaa
