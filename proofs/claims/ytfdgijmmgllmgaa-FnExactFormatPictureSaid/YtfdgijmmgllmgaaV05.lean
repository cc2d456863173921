/-
  Texts Ct Cfil CeDigit Cstep Cfmt Cfo Sn, joined.
-/
import Derived.Test.YtfdgijmmgllmgaaV04
import Derived.StillTailTactics
import Derived.Laws.IdiomStrings
import Derived.Test.YtfdgijmmgllmgaaV01
namespace Go.Proofs.Ytfdgijmmgllmgaa
open Go.ChangeShapes Go.WideShapes Go.ChangeAt Go.RowKit Go.Joins
set_option linter.unusedSimpArgs false
set_option linter.unusedVariables false
set_option maxRecDepth 100000
attribute [local go_sem] store_f
theorem sameFloat_zero (w : World) :
    Calls Try.prog 46 #[.float .f64 0, .float .f64 0] w fun e w' => e = .returned (.bool true) ∧ w' = w := by
  have hq := fun t w => run_float_arith (P := Try.prog) w .quo t .f64 4607182418800017408 0 9218868437227405312 (by kernel_rfl)
  have h0 : (FloatKind.f64.format.order 0 0 != some .eq) = false := by kernel_rfl
  have h1 : (FloatKind.f64.format.order 0 0 == some .eq) = true := by kernel_rfl
  go_enter Try.func46, Try.ntmps46
  go_wp2_with (simp only [hq])
  all_goals (go_ret; exact ⟨by simp_all, rfl⟩)
theorem sameFloat_other (y : Nat) (hs : FloatKind.f64.format.order y y = some .eq) (hz : ¬ FloatKind.f64.format.order y 0 = some .eq) (w : World) :
    Calls Try.prog 46 #[.float .f64 y, .float .f64 y] w fun e w' => e = .returned (.bool true) ∧ w' = w := by
  have h1 : (FloatKind.f64.format.order y y == some .eq) = true := by rw [hs]; rfl
  have h0 : (FloatKind.f64.format.order y y != some .eq) = false := by rw [hs]; rfl
  have h2 : (FloatKind.f64.format.order y 0 == some .eq) = false := by simpa using hz
  clear hs hz
  go_enter Try.func46, Try.ntmps46
  go_wp2
  all_goals (go_ret; exact ⟨by simp_all, rfl⟩)
theorem colB_parts {a b c : Nat} (ha : a < 4294967296) (hb : b < 4294967296) (hc : c < 4294967296) (h : colB a b c = true) : Part a ∧ Part b ∧ Part c := by
  unfold colB at h
  simp only [Bool.and_eq_true] at h
  exact ⟨share_part ha h.1.1, share_part hb h.1.2, share_part hc h.2⟩
theorem parts_colB {a b c : Nat} (ha : Part a) (hb : Part b) (hc : Part c) : colB a b c = true := by
  unfold colB; rw [part_share ha, part_share hb, part_share hc]; rfl
end Go.Proofs.Ytfdgijmmgllmgaa
namespace Go.Proofs.Ytfdgijmmgllmgaa
open Go.ChangeShapes Go.WideShapes Go.ChangeAt Go.RowKit Go.Joins
set_option linter.unusedSimpArgs false
set_option linter.unusedVariables false
set_option maxRecDepth 100000
attribute [local go_sem] store_f
structure IsCol (a b c : Nat) (p : Bool) : Prop where
  call : ∀ w : World, Calls Try.prog 76 #[.agg #[.float .f32 a, .float .f32 b, .float .f32 c]] w fun e w' => e = .returned (.bool p) ∧ Below w.heap.size w w'
end Go.Proofs.Ytfdgijmmgllmgaa
namespace Go.Proofs.Ytfdgijmmgllmgaa
open Go.ChangeShapes Go.WideShapes Go.ChangeAt Go.RowKit Go.Joins
set_option linter.unusedSimpArgs false
set_option linter.unusedVariables false
set_option maxRecDepth 100000
attribute [local go_sem] store_f
theorem eachDigit_i (a0 a1 a2 : Nat) (y0 y1 y2 : Int) (w : World)
    (k0 : ∀ w1 : World, Below w.heap.size w w1 → Calls Try.prog 112 #[.float .f32 a0] w1 fun e w' => e = .returned (.int .u8 y0) ∧ Below w1.heap.size w1 w')
    (k1 : ∀ w1 : World, Below w.heap.size w w1 → Calls Try.prog 112 #[.float .f32 a1] w1 fun e w' => e = .returned (.int .u8 y1) ∧ Below w1.heap.size w1 w')
    (k2 : ∀ w1 : World, Below w.heap.size w w1 → Calls Try.prog 112 #[.float .f32 a2] w1 fun e w' => e = .returned (.int .u8 y2) ∧ Below w1.heap.size w1 w')
    : Calls Try.prog 111 #[.agg #[.float .f32 a0, .float .f32 a1, .float .f32 a2], .func (.func 112) #[] #[]] w fun e w' =>
      e = .returned (.agg #[.int .u8 y0, .int .u8 y1, .int .u8 y2]) ∧ Below w.heap.size w w' := by
  have K0 : Hid (∀ w1 : World, Below w.heap.size w w1 → Calls Try.prog 112 #[.float .f32 a0] w1 fun e w' => e = .returned (.int .u8 y0) ∧ Below w1.heap.size w1 w') := k0
  have K1 : Hid (∀ w1 : World, Below w.heap.size w w1 → Calls Try.prog 112 #[.float .f32 a1] w1 fun e w' => e = .returned (.int .u8 y1) ∧ Below w1.heap.size w1 w') := k1
  have K2 : Hid (∀ w1 : World, Below w.heap.size w w1 → Calls Try.prog 112 #[.float .f32 a2] w1 fun e w' => e = .returned (.int .u8 y2) ∧ Below w1.heap.size w1 w') := k2
  clear k0 k1 k2
  have x0 : ∀ w : World, (Instr.index 104 (.agg #[.float .f32 a0, .float .f32 a1, .float .f32 a2]) (.int .i64 0)).run Try.prog w = .ok (.float .f32 a0) w := fun _ => by kernel_rfl
  have x1 : ∀ w : World, (Instr.index 104 (.agg #[.float .f32 a0, .float .f32 a1, .float .f32 a2]) (.int .i64 1)).run Try.prog w = .ok (.float .f32 a1) w := fun _ => by kernel_rfl
  have x2 : ∀ w : World, (Instr.index 104 (.agg #[.float .f32 a0, .float .f32 a1, .float .f32 a2]) (.int .i64 2)).run Try.prog w = .ok (.float .f32 a2) w := fun _ => by kernel_rfl
  go_enter Try.func111, Try.ntmps111
  go_wp2_with fail
  go_loopw [9] (fun i wr => ∃ k : Int, (k = 0 ∨ k = 1 ∨ k = 2 ∨ k = 3) ∧ i = .int .i64 k ∧ Blk wr (w.heap.size + 2) (row3 (.int .u8 y0) (.int .u8 y1) (.int .u8 y2) (.int .u8 0) k) 156 ∧ Blk wr (w.heap.size + 1) #[.int .u8 0, .int .u8 0, .int .u8 0] 156 ∧ Below w.heap.size w wr)
    (fun i _ => 3 - (intOf i).toNat)
  case atStart => exact ⟨0, Or.inl rfl, rfl, Blk.newAt (by simp), (Blk.newAt (by simp)).alloc, by (repeat' (first | (with_reducible exact Below.refl _ _) | (with_reducible assumption) | (with_reducible refine Below.alloc ?_ ?_ _) | (with_reducible refine Below.drew ?_) | (with_reducible refine Below.setCell ?_ ?_ _) | (with_reducible refine Below.trans ?_ (Below.mono (by assumption) ?_)) | (with_reducible exact Nat.le_refl _) | omega | (simp only [World.size_alloc, World.size_setCell, World.size_drew]; omega) | (simp; omega) | (simp; done)))⟩
  case round =>
    obtain ⟨k, hk, rfl, hB2, hB1, hbel⟩ := hrel
    have l2 := hB2.lt
    have l1 := hB1.lt
    have c20 := hB2.cell 0
    have c21 := hB2.cell 1
    have c22 := hB2.cell 2
    have f20 := hB2.free 0
    have f21 := hB2.free 1
    have f22 := hB2.free 2
    have c10 := hB1.cell 0
    have c11 := hB1.cell 1
    have c12 := hB1.cell 2
    have f10 := hB1.free 0
    have f11 := hB1.free 1
    have f12 := hB1.free 2
    have H2 : Hid (Blk wr (w.heap.size + 2) (row3 (.int .u8 y0) (.int .u8 y1) (.int .u8 y2) (.int .u8 0) k) 156) := hB2
    have H1 : Hid (Blk wr (w.heap.size + 1) #[.int .u8 0, .int .u8 0, .int .u8 0] 156) := hB1
    clear hB2 hB1
    rcases hk with rfl | rfl | rfl | rfl
    all_goals simp [row3] at c20 c21 c22 c10 c11 c12
    · go_wp2_with (first | simp only [x0] | (go_at_call 112; refine (K0.out _ (by (repeat' (first | (with_reducible exact Below.refl _ _) | (with_reducible assumption) | (with_reducible refine Below.alloc ?_ ?_ _) | (with_reducible refine Below.drew ?_) | (with_reducible refine Below.setCell ?_ ?_ _) | (with_reducible refine Below.trans ?_ (Below.mono (by assumption) ?_)) | (with_reducible exact Nat.le_refl _) | omega | (simp only [World.size_alloc, World.size_setCell, World.size_drew]; omega) | (simp; omega) | (simp; done))))).mono ?_; rintro e w1 ⟨rfl, hb⟩; obtain ⟨hc, hf⟩ := bcell hb; have HL := keepL (by (repeat (first | (with_reducible assumption) | (with_reducible apply AllLt.alloc) | (with_reducible apply AllLt.setCell) | (with_reducible apply AllLt.drew) | (with_reducible exact AllLt.nil _)))) hb; have hq := HL; simp only [AllLt, and_true, World.size_alloc, World.size_setCell, World.size_drew] at hq; have hbs := hb.size; try simp only [World.size_alloc, World.size_setCell, World.size_drew] at hbs))
      go_roundw
      case rel => exact ⟨1, by omega, rfl, Blk.setAt (cs := row3 (.int .u8 y0) (.int .u8 y1) (.int .u8 y2) (.int .u8 0) 0) (by omega) (by (repeat (first | (with_reducible exact H2.out) | (with_reducible refine Blk.below ?_ (by assumption)) | (with_reducible refine Blk.alloc ?_) | (with_reducible refine Blk.drew ?_) | (with_reducible refine Blk.other ?_ (by dsimp only; omega))))) rfl, by (repeat (first | (with_reducible exact H1.out) | (with_reducible refine Blk.below ?_ (by assumption)) | (with_reducible refine Blk.alloc ?_) | (with_reducible refine Blk.drew ?_) | (with_reducible refine Blk.other ?_ (by dsimp only; omega)))), by (repeat' (first | (with_reducible exact Below.refl _ _) | (with_reducible assumption) | (with_reducible refine Below.alloc ?_ ?_ _) | (with_reducible refine Below.drew ?_) | (with_reducible refine Below.setCell ?_ ?_ _) | (with_reducible refine Below.trans ?_ (Below.mono (by assumption) ?_)) | (with_reducible exact Nat.le_refl _) | omega | (simp only [World.size_alloc, World.size_setCell, World.size_drew]; omega) | (simp; omega) | (simp; done)))⟩
      case measure => simp [intOf]
    · go_wp2_with (first | simp only [x1] | (go_at_call 112; refine (K1.out _ (by (repeat' (first | (with_reducible exact Below.refl _ _) | (with_reducible assumption) | (with_reducible refine Below.alloc ?_ ?_ _) | (with_reducible refine Below.drew ?_) | (with_reducible refine Below.setCell ?_ ?_ _) | (with_reducible refine Below.trans ?_ (Below.mono (by assumption) ?_)) | (with_reducible exact Nat.le_refl _) | omega | (simp only [World.size_alloc, World.size_setCell, World.size_drew]; omega) | (simp; omega) | (simp; done))))).mono ?_; rintro e w1 ⟨rfl, hb⟩; obtain ⟨hc, hf⟩ := bcell hb; have HL := keepL (by (repeat (first | (with_reducible assumption) | (with_reducible apply AllLt.alloc) | (with_reducible apply AllLt.setCell) | (with_reducible apply AllLt.drew) | (with_reducible exact AllLt.nil _)))) hb; have hq := HL; simp only [AllLt, and_true, World.size_alloc, World.size_setCell, World.size_drew] at hq; have hbs := hb.size; try simp only [World.size_alloc, World.size_setCell, World.size_drew] at hbs))
      go_roundw
      case rel => exact ⟨2, by omega, rfl, Blk.setAt (cs := row3 (.int .u8 y0) (.int .u8 y1) (.int .u8 y2) (.int .u8 0) 1) (by omega) (by (repeat (first | (with_reducible exact H2.out) | (with_reducible refine Blk.below ?_ (by assumption)) | (with_reducible refine Blk.alloc ?_) | (with_reducible refine Blk.drew ?_) | (with_reducible refine Blk.other ?_ (by dsimp only; omega))))) rfl, by (repeat (first | (with_reducible exact H1.out) | (with_reducible refine Blk.below ?_ (by assumption)) | (with_reducible refine Blk.alloc ?_) | (with_reducible refine Blk.drew ?_) | (with_reducible refine Blk.other ?_ (by dsimp only; omega)))), by (repeat' (first | (with_reducible exact Below.refl _ _) | (with_reducible assumption) | (with_reducible refine Below.alloc ?_ ?_ _) | (with_reducible refine Below.drew ?_) | (with_reducible refine Below.setCell ?_ ?_ _) | (with_reducible refine Below.trans ?_ (Below.mono (by assumption) ?_)) | (with_reducible exact Nat.le_refl _) | omega | (simp only [World.size_alloc, World.size_setCell, World.size_drew]; omega) | (simp; omega) | (simp; done)))⟩
      case measure => simp [intOf]
    · go_wp2_with (first | simp only [x2] | (go_at_call 112; refine (K2.out _ (by (repeat' (first | (with_reducible exact Below.refl _ _) | (with_reducible assumption) | (with_reducible refine Below.alloc ?_ ?_ _) | (with_reducible refine Below.drew ?_) | (with_reducible refine Below.setCell ?_ ?_ _) | (with_reducible refine Below.trans ?_ (Below.mono (by assumption) ?_)) | (with_reducible exact Nat.le_refl _) | omega | (simp only [World.size_alloc, World.size_setCell, World.size_drew]; omega) | (simp; omega) | (simp; done))))).mono ?_; rintro e w1 ⟨rfl, hb⟩; obtain ⟨hc, hf⟩ := bcell hb; have HL := keepL (by (repeat (first | (with_reducible assumption) | (with_reducible apply AllLt.alloc) | (with_reducible apply AllLt.setCell) | (with_reducible apply AllLt.drew) | (with_reducible exact AllLt.nil _)))) hb; have hq := HL; simp only [AllLt, and_true, World.size_alloc, World.size_setCell, World.size_drew] at hq; have hbs := hb.size; try simp only [World.size_alloc, World.size_setCell, World.size_drew] at hbs))
      go_roundw
      case rel => exact ⟨3, by omega, rfl, Blk.setAt (cs := row3 (.int .u8 y0) (.int .u8 y1) (.int .u8 y2) (.int .u8 0) 2) (by omega) (by (repeat (first | (with_reducible exact H2.out) | (with_reducible refine Blk.below ?_ (by assumption)) | (with_reducible refine Blk.alloc ?_) | (with_reducible refine Blk.drew ?_) | (with_reducible refine Blk.other ?_ (by dsimp only; omega))))) rfl, by (repeat (first | (with_reducible exact H1.out) | (with_reducible refine Blk.below ?_ (by assumption)) | (with_reducible refine Blk.alloc ?_) | (with_reducible refine Blk.drew ?_) | (with_reducible refine Blk.other ?_ (by dsimp only; omega)))), by (repeat' (first | (with_reducible exact Below.refl _ _) | (with_reducible assumption) | (with_reducible refine Below.alloc ?_ ?_ _) | (with_reducible refine Below.drew ?_) | (with_reducible refine Below.setCell ?_ ?_ _) | (with_reducible refine Below.trans ?_ (Below.mono (by assumption) ?_)) | (with_reducible exact Nat.le_refl _) | omega | (simp only [World.size_alloc, World.size_setCell, World.size_drew]; omega) | (simp; omega) | (simp; done)))⟩
      case measure => simp [intOf]
    · have d0 := (H1.out.set (i := 0) (v := .int .u8 y0)).cell 0
      have d1 := ((H1.out.set (i := 0) (v := .int .u8 y0)).set (i := 1) (v := .int .u8 y1)).cell 1
      have d2 := (((H1.out.set (i := 0) (v := .int .u8 y0)).set (i := 1) (v := .int .u8 y1)).set (i := 2) (v := .int .u8 y2)).cell 2
      simp only [List.setIfInBounds_toArray, List.set_cons_zero, List.set_cons_succ, List.getElem?_toArray, List.getElem?_cons_zero, List.getElem?_cons_succ] at d0 d1 d2
      go_wp2
      exact bodyPost_ret (v := .agg #[.int .u8 y0, .int .u8 y1, .int .u8 y2]) (by simp [results, Try.results111, go_sem, d0, d1, d2]) rfl ⟨rfl, by (repeat' (first | (with_reducible exact Below.refl _ _) | (with_reducible assumption) | (with_reducible refine Below.alloc ?_ ?_ _) | (with_reducible refine Below.drew ?_) | (with_reducible refine Below.setCell ?_ ?_ _) | (with_reducible refine Below.trans ?_ (Below.mono (by assumption) ?_)) | (with_reducible exact Nat.le_refl _) | omega | (simp only [World.size_alloc, World.size_setCell, World.size_drew]; omega) | (simp; omega) | (simp; done)))⟩
end Go.Proofs.Ytfdgijmmgllmgaa
namespace Go.Proofs.Ytfdgijmmgllmgaa
open Ieee
theorem cut_down (neg : Bool) (n drop : Nat) : Toward.cut .zero neg n drop = n / 2 ^ drop := by
  unfold Toward.cut
  simp only [Nat.one_shiftLeft]
  by_cases h : drop ≤ n.log2 + 2
  · rw [Nat.min_eq_left h]; simp
  · rw [Nat.min_eq_right (by omega)]
    have h1 : n < 2 ^ (n.log2 + 1) := Nat.lt_log2_self
    have h2 : 2 ^ (n.log2 + 2) = 2 * 2 ^ (n.log2 + 1) := by rw [Nat.pow_succ, Nat.mul_comm]
    have h3 : 2 ^ (n.log2 + 2) ≤ 2 ^ drop := Nat.pow_le_pow_right (by omega) (by omega)
    have e1 : n / 2 ^ (n.log2 + 2) = 0 := Nat.div_eq_of_lt (by omega)
    have e2 : n / 2 ^ drop = 0 := Nat.div_eq_of_lt (by omega)
    rw [e1, e2]; rfl
def wholeOf (r : Nat) : Nat := magOf F32 (rungOf F32 r) / 2 ^ 149
theorem whole_div (s u k : Nat) : (s <<< ((-(k : Int) + (u : Nat)).toNat)) / 2 ^ ((-(-(k : Int) + (u : Nat))).toNat) = s * 2 ^ u / 2 ^ k := by
  rw [Nat.shiftLeft_eq]
  rcases Nat.le_total k u with h | h
  · have e1 : (-(k : Int) + (u : Nat)).toNat = u - k := by omega
    have e2 : (-(-(k : Int) + (u : Nat))).toNat = 0 := by omega
    have e3 : 2 ^ u = 2 ^ (u - k) * 2 ^ k := by rw [← Nat.pow_add, Nat.sub_add_cancel h]
    rw [e1, e2, e3, ← Nat.mul_assoc, Nat.mul_div_cancel _ (Nat.two_pow_pos k), Nat.pow_zero, Nat.div_one]
  · have e1 : (-(k : Int) + (u : Nat)).toNat = 0 := by omega
    have e2 : (-(-(k : Int) + (u : Nat))).toNat = k - u := by omega
    have e3 : 2 ^ k = 2 ^ (k - u) * 2 ^ u := by rw [← Nat.pow_add, Nat.sub_add_cancel h]
    rw [e1, e2, e3, Nat.mul_div_mul_right _ _ (Nat.two_pow_pos u), Nat.pow_zero, Nat.mul_one]
theorem toInt_fin {r : Nat} (h : Fin32 r) (hn : negOf F32 r = true → rungOf F32 r = 0) (hb : wholeOf r ≤ 16) : floatToIntVal .f32 r .i64 = some (wholeOf r : Int) := by
  have e : (FloatKind.f32.decode r).toInt .zero = some (wholeOf r : Int) := by
    show (F32.read r).toInt .zero = _
    rw [read_fin F32 h]
    simp only [Datum.toInt, Datum.integral]
    rw [cut_down, F32_lp, whole_div]
    show some (signed _ (wholeOf r) 0) = _
    congr 1
    cases hs : negOf F32 r
    · simp [signed]
    · have : wholeOf r = 0 := by unfold wholeOf; rw [hn hs, magOf_zero, Nat.zero_div]
      rw [this]; simp [signed]
  unfold floatToIntVal
  rw [e]
  simp only
  rw [if_pos]
  constructor
  · have : IntKind.i64.min = -9223372036854775808 := by decide
    omega
  · have : IntKind.i64.max = 9223372036854775807 := by decide
    omega
theorem mag_16 : magOf F32 1098907648 = 16 * 2 ^ 149 := by decide +kernel
def by16 (x : Nat) : Nat := roundMul F32 149 (negOf F32 x) (16 * 2 ^ 149 * pm x)
theorem mul16 {x : Nat} (h : Part x) : F32.mul 1098907648 x = some (by16 x) ∧ F32.mul x 1098907648 = some (by16 x) ∧ Fin32 (by16 x) ∧ (negOf F32 (by16 x) = true → rungOf F32 (by16 x) = 0) ∧ wholeOf (by16 x) ≤ 16 := by
  have f16 : Fin32 1098907648 := fin_of_lt (by omega)
  have r16 : rungOf F32 1098907648 = 1098907648 := rung_of_lt (by omega)
  have n16 : negOf F32 1098907648 = false := neg_of_lt (by omega)
  have e1 := mul_fin F32 (q := 149) F32_lp f16 h.fin
  have e2 := mul_fin F32 (q := 149) F32_lp h.fin f16
  rw [r16, n16, mag_16] at e1 e2
  have hN : 16 * 2 ^ 149 * pm x ≤ magOf F32 1098907648 * 2 ^ 149 := by rw [mag_16]; exact Nat.mul_le_mul_left _ h.pm_le
  obtain ⟨e3, l3⟩ := roundMul_eq 149 (negOf F32 x) (16 * 2 ^ 149 * pm x) (R := 1098907648) (by omega) hN
  have eb : by16 x = F32.word (negOf F32 x) (rn F32 (16 * 2 ^ 149 * pm x) 149) := e3
  have hr : rungOf F32 (by16 x) = rn F32 (16 * 2 ^ 149 * pm x) 149 := by rw [eb]; exact rungOf_word F32 _ (by rw [F32_sw]; omega)
  refine ⟨?_, ?_, ?_, ?_, ?_⟩
  · rw [e1]; simp only [Bool.false_xor]; rfl
  · rw [e2, Nat.mul_comm]; simp only [Bool.xor_false]; rfl
  · rw [eb]; exact fin_word _ (by omega)
  · intro hn
    have h1 : negOf F32 (by16 x) = negOf F32 x := by rw [eb]; exact negOf_word F32 _ (by rw [F32_sw]; omega)
    rw [h1] at hn
    have h2 : pm x = 0 := by unfold pm; rw [h.neg hn, magOf_zero]
    rw [hr, h2, Nat.mul_zero, rn_zero]
  · unfold wholeOf
    rw [hr]
    have h1 := magOf_le F32 l3
    rw [mag_16] at h1
    exact Nat.div_le_of_le_mul (Nat.le_trans h1 (Nat.le_of_eq (Nat.mul_comm _ _)))
theorem clean_whole {x : Nat} (h : Fin32 x) : wholeOf (cleanB x) = wholeOf x := by
  rw [clean_eq h]
  split
  · rename_i h0
    unfold wholeOf
    rw [h0, rung_of_lt (by omega)]
  · rfl
theorem clean_fin {x : Nat} (h : Fin32 x) : Fin32 (cleanB x) := by
  rw [clean_eq h]
  split
  · exact fin_of_lt (by omega)
  · exact h
theorem clean_neg {x : Nat} (h : Fin32 x) (hn : negOf F32 x = true → rungOf F32 x = 0) : negOf F32 (cleanB x) = true → rungOf F32 (cleanB x) = 0 := by
  rw [clean_eq h]
  split
  · intro _; exact rung_of_lt (by omega)
  · exact hn
def stepN (x : Nat) : Nat := min (wholeOf (by16 x)) 15
theorem stepN_le (x : Nat) : stepN x ≤ 15 := Nat.min_le_right _ _
end Go.Proofs.Ytfdgijmmgllmgaa
namespace Go.Proofs.Ytfdgijmmgllmgaa
open Go.ChangeShapes Go.WideShapes Go.ChangeAt Go.RowKit Go.Joins
set_option linter.unusedSimpArgs false
set_option linter.unusedVariables false
set_option maxRecDepth 100000
attribute [local go_sem] store_f
open Ieee
def dg (n : Nat) : UInt8 := if n < 10 then UInt8.ofNat (48 + n) else UInt8.ofNat (87 + n)
def digS (n : Nat) : ByteArray := ⟨#[dg n]⟩
def dig3 (a b c : Nat) : ByteArray := ⟨#[dg a, dg b, dg c]⟩
theorem dig_app (a b c : Nat) : digS a ++ digS b ++ digS c = dig3 a b c := by
  apply ByteArray.ext
  simp [digS, dig3, ByteArray.data_append]
theorem up16 {q : Nat} (h : q ≤ 16) : q = 0 ∨ q = 1 ∨ q = 2 ∨ q = 3 ∨ q = 4 ∨ q = 5 ∨ q = 6 ∨ q = 7 ∨ q = 8 ∨ q = 9 ∨ q = 10 ∨ q = 11 ∨ q = 12 ∨ q = 13 ∨ q = 14 ∨ q = 15 ∨ q = 16 := by omega
theorem index_digit (n : Nat) (h : n ≤ 15) (w : World) :
    (Instr.index 9 (.string ⟨#[48, 49, 50, 51, 52, 53, 54, 55, 56, 57, 97, 98, 99, 100, 101, 102]⟩) (.int .i64 n)).run Try.prog w = .ok (.int .u8 ((dg n).toNat : Int)) w := by
  rcases up16 (Nat.le_succ_of_le h) with rfl | rfl | rfl | rfl | rfl | rfl | rfl | rfl | rfl | rfl | rfl | rfl | rfl | rfl | rfl | rfl | rfl
  all_goals first | (exfalso; omega) | kernel_rfl
theorem digitOfPart_of {x r q : Nat} (hq : q ≤ 16) (hm : FloatKind.f32.format.mul 1098907648 x = some r) (ht : floatToIntVal .f32 r .i64 = some (q : Int)) (w : World) :
    Calls Try.prog 112 #[.float .f32 x] w fun e w' => e = .returned (.int .u8 ((dg (min q 15)).toNat : Int)) ∧ w' = w := by
  have hop := fun t w => run_float_arith (P := Try.prog) w .mul t .f32 1098907648 x r hm
  have hcv := fun w => run_convert_float_int (P := Try.prog) w 30 3 .f32 .i64 r q (by rw [Try.underlying30]; rfl) Try.underlying3 ht
  clear hm ht
  by_cases h15 : q ≤ 15
  · have e : min q 15 = q := by omega
    rw [e]
    have hix := fun w => index_digit q h15 w
    have hlt : ¬ (15 : Int) < (q : Int) := by omega
    have hmn : min (q : Int) 15 = (q : Int) := by omega
    go_enter Try.func112, Try.ntmps112
    go_wp2_with (first | simp only [hop] | simp only [hcv] | simp only [hix])
    all_goals (go_ret; exact ⟨rfl, rfl⟩)
  · obtain rfl : q = 16 := by omega
    go_enter Try.func112, Try.ntmps112
    go_wp2_with (first | simp only [hop] | simp only [hcv])
    all_goals (go_ret; exact ⟨by first | rfl | decide, rfl⟩)
theorem digitOfPart_i {x : Nat} (h : Part x) (w : World) :
    Calls Try.prog 112 #[.float .f32 x] w fun e w' => e = .returned (.int .u8 ((dg (stepN x)).toNat : Int)) ∧ Below w.heap.size w w' := by
  obtain ⟨e1, _, hf, hn, hb⟩ := mul16 h
  refine (digitOfPart_of hb e1 (toInt_fin hf hn hb) w).mono ?_
  rintro e w1 ⟨rfl, rfl⟩
  exact ⟨rfl, Below.refl _ _⟩
structure TimC (x c : Nat) : Prop where
  call : ∀ w : World, Calls Try.prog 114 #[.float .f32 x, .float .f32 1098907648] w fun e w' => e = .returned (.float .f32 c) ∧ w' = w
theorem l2Step_of {x c q : Nat} (hq : q ≤ 16) (T : TimC x c) (ht : floatToIntVal .f32 c .i64 = some (q : Int)) (w : World) :
    Calls Try.prog 78 #[.float .f32 x] w fun e w' => e = .returned (.int .i64 (min q 15 : Nat)) ∧ w' = w := by
  have hcv := fun w => run_convert_float_int (P := Try.prog) w 30 3 .f32 .i64 c q (by rw [Try.underlying30]; rfl) Try.underlying3 ht
  clear ht
  by_cases h15 : q ≤ 15
  · have e : min q 15 = q := by omega
    rw [e]
    have hlt : ¬ (15 : Int) < (q : Int) := by omega
    go_enter Try.func78, Try.ntmps78
    go_wp2_with (first | simp only [hcv] | (go_at_call 114; refine (T.call _).mono ?_; rintro e w1 ⟨rfl, rfl⟩))
    all_goals (go_ret; exact ⟨rfl, rfl⟩)
  · obtain rfl : q = 16 := by omega
    go_enter Try.func78, Try.ntmps78
    go_wp2_with (first | simp only [hcv] | (go_at_call 114; refine (T.call _).mono ?_; rintro e w1 ⟨rfl, rfl⟩))
    all_goals (go_ret; exact ⟨by first | rfl | decide, rfl⟩)
theorem l2Step_s {x : Nat} (h : Part x) (w : World) :
    Calls Try.prog 78 #[.float .f32 x] w fun e w' => e = .returned (.int .i64 (stepN x : Nat)) ∧ w' = w := by
  obtain ⟨_, e2, hf, hn, hb⟩ := mul16 h
  have hb2 : wholeOf (cleanB (by16 x)) ≤ 16 := by rw [clean_whole hf]; exact hb
  have ht := toInt_fin (clean_fin hf) (clean_neg hf hn) hb2
  rw [clean_whole hf] at ht
  exact l2Step_of hb ⟨fun w => l1Times_s _ _ _ w e2 (sub_self hf)⟩ ht w
theorem l2Digit_s (n : Nat) (h : n ≤ 15) (w : World) :
    Calls Try.prog 77 #[.int .i64 n] w fun e w' => e = .returned (.string (digS n)) ∧ w' = w := by
  rcases up16 (Nat.le_succ_of_le h) with rfl | rfl | rfl | rfl | rfl | rfl | rfl | rfl | rfl | rfl | rfl | rfl | rfl | rfl | rfl | rfl | rfl
  all_goals first
    | (exfalso; omega)
    | (go_enter Try.func77, Try.ntmps77
       go_wp2
       go_ret
       exact ⟨by first | rfl | (simp [digS, dg]; done) | decide, rfl⟩)
theorem three_back (a b c : UInt8) (w1 : World) :
    (convert 22 9 (.slice (some ⟨w1.heap.size, 0, Option.none⟩) 3 3)).run Try.prog (w1.alloc (.cells #[.int .u8 a.toNat, .int .u8 b.toNat, .int .u8 c.toNat] 156)) = .ok (.string ⟨#[a, b, c]⟩) (w1.alloc (.cells #[.int .u8 a.toNat, .int .u8 b.toNat, .int .u8 c.toNat] 156)) := by
  exact run_convert_bytes_back (P := Try.prog) (w1.alloc (.cells #[.int .u8 a.toNat, .int .u8 b.toNat, .int .u8 c.toNat] 156)) 22 9 5 ⟨w1.heap.size, 0, Option.none⟩ 3 [a, b, c] Try.underlying22 Try.underlying5 Try.underlying9 (by
    intro j hj
    have hj3 : j < 3 := by simpa using hj
    rcases (by omega : j = 0 ∨ j = 1 ∨ j = 2) with rfl | rfl | rfl
    all_goals simp [Addr.add])
end Go.Proofs.Ytfdgijmmgllmgaa
namespace Go.Proofs.Ytfdgijmmgllmgaa
open Go.ChangeShapes Go.WideShapes Go.ChangeAt Go.RowKit Go.Joins
set_option linter.unusedSimpArgs false
set_option linter.unusedVariables false
set_option maxRecDepth 100000
attribute [local go_sem] store_f
open Ieee
theorem format_i_yes (a b c : Nat) (ha : Part a) (hb : Part b) (hc : Part c) (w : World) :
    Calls Try.prog 74 #[colV a b c] w fun e w' => e = .returned (.string (dig3 (stepN a) (stepN b) (stepN c))) ∧ Below w.heap.size w w' := by
  have K : Hid (∀ w : World, Calls Try.prog 63 #[colV a b c] w fun e w' => e = .returned (.bool true) ∧ Below w.heap.size w w') := fun w => parts_colB ha hb hc ▸ isColour_i a b c w
  have E : Hid (∀ w : World, Calls Try.prog 111 #[.agg #[.float .f32 a, .float .f32 b, .float .f32 c], .func (.func 112) #[] #[]] w fun e w' =>
      e = .returned (.agg #[.int .u8 ((dg (stepN a)).toNat : Int), .int .u8 ((dg (stepN b)).toNat : Int), .int .u8 ((dg (stepN c)).toNat : Int)]) ∧ Below w.heap.size w w') := fun w => eachDigit_i _ _ _ _ _ _ w (fun w1 _ => digitOfPart_i ha w1) (fun w1 _ => digitOfPart_i hb w1) (fun w1 _ => digitOfPart_i hc w1)
  clear ha hb hc
  unfold dig3
  generalize dg (stepN a) = x at E ⊢
  generalize dg (stepN b) = y at E ⊢
  generalize dg (stepN c) = z at E ⊢
  have P : Hid (∀ w : World, Calls Try.prog 97 #[colV a b c] w fun e w' => e = .returned (.agg #[.float .f32 a, .float .f32 b, .float .f32 c]) ∧ Below w.heap.size w w') := fun w => partsOf_i a b c w
  have k3 := fun (w1 : World) => three_back x y z w1
  unfold colV at K P ⊢
  go_enter Try.func74, Try.ntmps74
  go_wp2_with (first | simp only [k3] | (go_at_call 63; refine (K.out _).mono ?_; rintro e w1 ⟨rfl, hb⟩; obtain ⟨hc, hf⟩ := bcell hb; have HL := keepL (by (repeat (first | (with_reducible assumption) | (with_reducible apply AllLt.alloc) | (with_reducible apply AllLt.setCell) | (with_reducible apply AllLt.drew) | (with_reducible exact AllLt.nil _)))) hb; have hq := HL; simp only [AllLt, and_true, World.size_alloc, World.size_setCell, World.size_drew] at hq; have hbs := hb.size; try simp only [World.size_alloc, World.size_setCell, World.size_drew] at hbs) | (go_at_call 97; refine (P.out _).mono ?_; rintro e w2 ⟨rfl, hb⟩; obtain ⟨hc, hf⟩ := bcell hb; have HL := keepL (by (repeat (first | (with_reducible assumption) | (with_reducible apply AllLt.alloc) | (with_reducible apply AllLt.setCell) | (with_reducible apply AllLt.drew) | (with_reducible exact AllLt.nil _)))) hb; have hq := HL; simp only [AllLt, and_true, World.size_alloc, World.size_setCell, World.size_drew] at hq; have hbs := hb.size; try simp only [World.size_alloc, World.size_setCell, World.size_drew] at hbs) | (go_at_call 111; refine (E.out _).mono ?_; rintro e w3 ⟨rfl, hb⟩; obtain ⟨hc, hf⟩ := bcell hb; have HL := keepL (by (repeat (first | (with_reducible assumption) | (with_reducible apply AllLt.alloc) | (with_reducible apply AllLt.setCell) | (with_reducible apply AllLt.drew) | (with_reducible exact AllLt.nil _)))) hb; have hq := HL; simp only [AllLt, and_true, World.size_alloc, World.size_setCell, World.size_drew] at hq; have hbs := hb.size; try simp only [World.size_alloc, World.size_setCell, World.size_drew] at hbs))
  all_goals (go_returns; exact ⟨rfl, by (repeat' (first | (with_reducible exact Below.refl _ _) | (with_reducible assumption) | (with_reducible refine Below.alloc ?_ ?_ _) | (with_reducible refine Below.drew ?_) | (with_reducible refine Below.setCell ?_ ?_ _) | (with_reducible refine Below.trans ?_ (Below.mono (by assumption) ?_)) | (with_reducible exact Nat.le_refl _) | omega | (simp only [World.size_alloc, World.size_setCell, World.size_drew]; omega) | (simp; omega) | (simp; done)))⟩)
structure StepC (x n : Nat) : Prop where
  call : ∀ w : World, Calls Try.prog 78 #[.float .f32 x] w fun e w' => e = .returned (.int .i64 n) ∧ w' = w
structure DigC (n : Nat) : Prop where
  call : ∀ w : World, Calls Try.prog 77 #[.int .i64 n] w fun e w' => e = .returned (.string (digS n)) ∧ w' = w
theorem format_s_of (a b c i j k : Nat) (K : IsCol a b c true) (A : StepC a i) (B : StepC b j) (C : StepC c k) (I : DigC i) (J : DigC j) (L : DigC k) (w : World) :
    Calls Try.prog 39 #[colV a b c] w fun e w' => e = .returned (.string (digS i ++ digS j ++ digS k)) ∧ Below w.heap.size w w' := by
  unfold colV
  go_enter Try.func39, Try.ntmps39
  go_wp2_with (go_at_call 76; refine (K.call _).mono ?_; rintro e w2 ⟨rfl, hb2⟩; have hb := hb2; obtain ⟨hc, hf⟩ := bcell hb; have HL := keepL (by (repeat (first | (with_reducible assumption) | (with_reducible apply AllLt.alloc) | (with_reducible apply AllLt.setCell) | (with_reducible apply AllLt.drew) | (with_reducible exact AllLt.nil _)))) hb; have hq := HL; simp only [AllLt, and_true, World.size_alloc, World.size_setCell, World.size_drew] at hq; have hbs := hb.size; try simp only [World.size_alloc, World.size_setCell, World.size_drew] at hbs)
  have hb0 : Below w.heap.size w w2 := by (repeat' (first | (with_reducible exact Below.refl _ _) | (with_reducible assumption) | (with_reducible refine Below.alloc ?_ ?_ _) | (with_reducible refine Below.drew ?_) | (with_reducible refine Below.setCell ?_ ?_ _) | (with_reducible refine Below.trans ?_ (Below.mono (by assumption) ?_)) | (with_reducible exact Nat.le_refl _) | omega | (simp only [World.size_alloc, World.size_setCell, World.size_drew]; omega) | (simp; omega) | (simp; done)))
  have z1 : (digS i).size = 1 := rfl
  have z2 : (digS j).size = 1 := rfl
  have z3 : (digS k).size = 1 := rfl
  have z12 : (digS i ++ digS j).size = 2 := by rw [ByteArray.size_append, z1, z2]
  refine wp_region_still_lit (by kernel_rfl) (by kernel_rfl) ?_
  repeat still_step
  still_call (A.call _)
  repeat still_step
  still_call (I.call _)
  repeat still_step
  still_call (B.call _)
  repeat still_step
  still_call (J.call _)
  repeat still_step
  still_call (C.call _)
  repeat still_step
  still_call (L.call _)
  repeat still_step
  refine wpStill_nil ?_
  go_wp2
  all_goals (go_returns; exact ⟨rfl, hb0.drew⟩)
theorem format_s_yes (a b c : Nat) (ha : Part a) (hb : Part b) (hc : Part c) (w : World) :
    Calls Try.prog 39 #[colV a b c] w fun e w' => e = .returned (.string (dig3 (stepN a) (stepN b) (stepN c))) ∧ Below w.heap.size w w' := by
  rw [← dig_app]
  exact format_s_of a b c _ _ _ ⟨fun w => parts_colB ha hb hc ▸ isColour_s a b c ha.lt hb.lt hc.lt w⟩ ⟨fun w => l2Step_s ha w⟩ ⟨fun w => l2Step_s hb w⟩ ⟨fun w => l2Step_s hc w⟩
    ⟨fun w => l2Digit_s _ (stepN_le a) w⟩ ⟨fun w => l2Digit_s _ (stepN_le b) w⟩ ⟨fun w => l2Digit_s _ (stepN_le c) w⟩ w
end Go.Proofs.Ytfdgijmmgllmgaa
namespace Go.Proofs.Ytfdgijmmgllmgaa
open Go.ChangeShapes Go.WideShapes Go.ChangeAt Go.RowKit Go.Joins
set_option linter.unusedSimpArgs false
set_option linter.unusedVariables false
set_option maxRecDepth 100000
attribute [local go_sem] store_f
open Go.Shelf Ieee
attribute [local go_sem] Oper.semAt_some
def txt (c : Lit) : ByteArray := dig3 (stepN c.r) (stepN c.g) (stepN c.b)
structure Lit.Wide (c : Lit) : Prop where
  r : c.r < 4294967296
  g : c.g < 4294967296
  b : c.b < 4294967296
theorem fmt_of {c : Lit} (h : c.isB = true) (w : c.Wide) : FmtM c (txt c) := by
  obtain ⟨pa, pb, pc⟩ := colB_parts w.r w.g w.b h
  exact ⟨fun W => format_i_yes c.r c.g c.b pa pb pc W⟩
def rowOf (l : List Lit) (m x : Nat) : List Lit := (l.drop (x * m)).take m
def lineAt (l : List Lit) (m x : Nat) : ByteArray := lineOf (fun k => txt ((rowOf l m x).getD k default)) m
theorem keeps_below {W W' : World} (hb : Below W.heap.size W W') : KeepsOthers W W' := ⟨hb.size, fun k o hk _ => (hb.block k (Array.getElem?_eq_some_iff.1 hk).1).trans hk⟩
def lines (l : List Lit) (m : Nat) (xs : List (Fin m)) : List Value := xs.map fun x => .string (lineAt l m x.1)
structure Lined (w w' : World) (e : Ending) (l : List Lit) (m : Nat) : Prop where
  row : ∃ v, e = .returned v ∧ w'.ownsRow w.heap.size 9 1 v m (texts (lineAt l m) m) ∧ v ≠ .slice Option.none 0 0
  below : Below w.heap.size w w'
theorem lines_snoc (l : List Lit) (m : Nat) (xs : List (Fin m)) (x : Fin m) : lines l m (xs ++ [x]) = lines l m xs ++ [.string (lineAt l m x.1)] := by simp [lines]
theorem lines_all (l : List Lit) (m : Nat) (h : 1 ≤ m) : lines l m (rowsTo m h m) = texts (lineAt l m) m := by
  unfold lines rowsTo texts
  rw [List.map_map]
  apply List.map_congr_left
  intro j hj
  simp only [List.mem_range] at hj
  simp [rowNo, Nat.mod_eq_of_lt hj]
theorem two_own {β : Type} (B p q : Nat) (t t' : TypeId) (u u' : Value) : OwnFrom B (fun (_ : β) W => Boxed W p t u ∧ Boxed W q t' u') := fun s A C row hs hg hr =>
  ⟨hs.1.kept hg (fun e => by obtain ⟨_, o, ho, hc⟩ := hr _ e.symm; rw [show A.heap[p]? = _ from hs.1] at ho; cases ho; cases hc), hs.2.kept hg (fun e => by obtain ⟨_, o, ho, hc⟩ := hr _ e.symm; rw [show A.heap[q]? = _ from hs.2] at ho; cases ho; cases hc)⟩
attribute [-go_sem] Builtin.append_
set_option maxHeartbeats 16000000 in
theorem formatPic {m : Nat} {b o cap : Nat} {l : List Lit} (h1 : 1 ≤ m) (h8 : m ≤ 8) (hl : l.length = m * m) (hcap : l.length ≤ cap) (P : PicIs m (some ⟨b, o, Option.none⟩) cap l true)
    (hrow : ∀ x, x < m → ∀ (W : World), LitRow W b o l → b < W.heap.size → Calls Try.prog 36 #[.slice (some ⟨b, o + x * m * 3, Option.none⟩) m m] W fun e W' => e = .returned (.string (lineAt l m x)) ∧ Below W.heap.size W W')
    (w : World) (hr : LitRow w b o l) (hbw : b < w.heap.size) :
    Calls Try.prog 11 #[.agg #[.int .i64 m, .slice (some ⟨b, o, Option.none⟩) l.length cap]] w fun e w' => Lined w w' e l m := by
  have PH := Lib.hid P.call
  have HR := Lib.hid hr
  have RH := Lib.hid hrow
  have HL := Lib.hid hl
  clear hr hrow P hl
  obtain ⟨i0, hi, hz0, hz1, hz2⟩ := info_parts infoStr
  refine (callsIn_wide (n := 3)).1 ?_
  refine callsIn_of_wp_marks Try.func11 rfl trivial ?_ rfl
  simp only [Try.ntmps11, List.size_toArray, List.length_cons, List.length_nil, Nat.reduceAdd, Nat.reduceSub, Array.replicate_succ, Array.replicate_zero, List.push_toArray, List.append_toArray, List.nil_append, List.cons_append]
  gi_wp2_with fail
  obtain ⟨X, hX⟩ : ∃ X, ((w.alloc (.cells #[.int .i64 m, .slice (some ⟨b, o, Option.none⟩) l.length cap] 26)).alloc (.cells #[] 9)).alloc (.cells #[.slice (some ⟨w.heap.size + 1, 0, Option.none⟩) 0 0] 34) = X := ⟨_, rfl⟩
  rw [hX]
  have M0 : Hid (Blk X w.heap.size #[.int .i64 m, .slice (some ⟨b, o, Option.none⟩) l.length cap] 26) := by rw [← hX]; exact ((Blk.new _ _ _).alloc).alloc
  have N0 : Hid (Blk X (w.heap.size + 1 + 1) #[.slice (some ⟨w.heap.size + 1, 0, Option.none⟩) 0 0] 34) := by rw [← hX]; exact Blk.newAt (by simp)
  have O0 : Hid (X.ownsRow w.heap.size 9 1 (.slice (some ⟨w.heap.size + 1, 0, Option.none⟩) 0 0) 0 []) := by
    rw [← hX]
    refine World.ownsRow.alloc ?_ _
    have h := World.ownsRow_lit (base := w.heap.size) (e := 9) (size := 1) (w.alloc (.cells #[.int .i64 m, .slice (some ⟨b, o, Option.none⟩) l.length cap] 26)) #[] 0 (by simp) (by unfold maxLen; omega) (by simp)
    simpa using h
  have G0 : Hid (Below w.heap.size w X) := by rw [← hX]; show Below w.heap.size w _; (repeat' (first | (with_reducible exact Below.refl _ _) | (with_reducible assumption) | (with_reducible refine Below.alloc ?_ ?_ _) | (with_reducible refine Below.drew ?_) | (with_reducible refine Below.setCell ?_ ?_ _) | (with_reducible refine Below.trans ?_ (Below.mono (by assumption) ?_)) | (with_reducible exact Nat.le_refl _) | omega | (simp only [World.size_alloc, World.size_setCell, World.size_drew]; omega) | (simp; omega) | (simp; done)))
  have hs : w.heap.size + 3 ≤ X.heap.size := by rw [← hX]; simp
  clear hX
  refine ⟨trivial, ?_⟩
  refine (callsIn_wide.2 (PH.out X (.inr ⟨b, o, rfl, HR.out.below G0.out⟩))).mono ?_
  rintro e w1 ⟨rfl, hb⟩
  have M1 := M0.out.below hb
  have N1 := N0.out.below hb
  have O1 := ownsBelow hb O0.out
  have G1 := G0.out.trans (hb.mono (by omega))
  have hs1 := hb.size
  have m0 := Blk.cellAt (i := 0) M1 rfl
  have m1 := Blk.cellAt (i := 1) M1 rfl
  simp only [List.getElem_toArray, List.getElem_cons_zero, List.getElem_cons_succ] at m0 m1
  have MH := Lib.hid M1
  have NH := Lib.hid N1
  have OH := Lib.hid O1
  have GH := Lib.hid G1
  clear hb M0 N0 O0 G0 PH M1 N1 O1 G1
  gi_wp2_with (refine ⟨trivial, ?_⟩; gi_at_call 35; refine (callsIn_wide.2 (chunk_i _ _ _ m h1 h8 _)).mono ?_; rintro e w2 ⟨rfl, rfl⟩)
  obtain ⟨W2, hW2⟩ : ∃ W2, (w1.alloc (.cells #[.slice (some ⟨b, o, Option.none⟩) l.length cap] 24)).alloc (.cells #[.int .i64 m] 3) = W2 := ⟨_, rfl⟩
  rw [hW2]
  have e1 : W2.cell? ⟨w1.heap.size, 0, Option.none⟩ = some (.slice (some ⟨b, o, Option.none⟩) l.length cap) := by rw [← hW2]; simp
  have e2 : W2.cell? ⟨w1.heap.size + 1, 0, Option.none⟩ = some (.int .i64 m) := by rw [← hW2]; simp
  have hs2 : w1.heap.size + 2 ≤ W2.heap.size := by rw [← hW2]; simp
  have bN : Boxed W2 (w.heap.size + 1 + 1) 34 (.slice (some ⟨w.heap.size + 1, 0, Option.none⟩) 0 0) := by rw [← hW2]; exact Boxed.alloc (Boxed.alloc NH.out _) _
  have b1 : Boxed W2 (w1.heap.size) 24 (.slice (some ⟨b, o, Option.none⟩) l.length cap) := by rw [← hW2]; exact Boxed.alloc (Boxed.new _ _ _) _
  have b2 : Boxed W2 (w1.heap.size + 1) 3 (.int .i64 m) := by
    rw [← hW2]
    have h := Boxed.new (w1.alloc (.cells #[.slice (some ⟨b, o, Option.none⟩) l.length cap] 24)) 3 (.int .i64 m)
    rwa [World.size_alloc] at h
  have hO : W2.ownsRow w.heap.size 9 1 (.slice (some ⟨w.heap.size + 1, 0, Option.none⟩) 0 0) 0 [] := by rw [← hW2]; exact (OH.out.alloc _).alloc _
  have hG : Below w.heap.size w W2 := by rw [← hW2]; exact (GH.out.alloc (by omega) _).alloc (by simp; omega) _
  clear hW2 MH NH OH GH m0 m1
  refine wpIn_rangeFunc_ownF rfl (by omega) (gf := 71) (lb := #[.pointer (some ⟨w1.heap.size, 0, Option.none⟩), .pointer (some ⟨w1.heap.size + 1, 0, Option.none⟩)]) rfl trivial (enters_of Try.func71 (by kernel_rfl) rfl)
    (chunk_stops Fence.wide 2 trivial rfl (by omega) w1.heap.size (w1.heap.size + 1) b o m l.length cap h1 h8 HL.out hcap W2 (by omega) (by omega) e1 e2)
    (fun h k => h.trans k) (fun W q u u' hq h ha hw => ⟨(belowK_b (w := W2) (Nat.le_refl _) W q u u' hq h ha hw).block _ (by omega), (belowK_b (w := W2) (Nat.le_refl _) W q u u' hq h ha hw).block _ (by omega)⟩) (Below.refl _ _) (fun _ => rfl)
    (fun pre W => (∃ v, Boxed W (w.heap.size + 1 + 1) 34 v ∧ W.ownsRow w.heap.size 9 1 v pre.length (lines l m pre) ∧ v ≠ .slice Option.none 0 0) ∧ Below w.heap.size w W ∧ Boxed W (w1.heap.size) 24 (.slice (some ⟨b, o, Option.none⟩) l.length cap) ∧ Boxed W (w1.heap.size + 1) 3 (.int .i64 m))
    (fun _ _ _ => False)
    (OwnFrom.and (Own.from (holdsRow_own w.heap.size (w.heap.size + 1 + 1) 34 9 1 (fun pre : List (Fin m) => pre.length) (fun pre => lines l m pre) (fun _ v => v ≠ .slice Option.none 0 0)) _) (OwnFrom.and (ownFrom_below (Nat.le_refl _) (by omega)) (two_own _ _ _ _ _ _ _)))
    (fun _ _ _ _ _ hs _ _ => hs)
    ⟨⟨_, bN, by simpa [lines] using hO, by simp⟩, hG, b1, b2⟩
    (fun x => { tmps := #[.agg #[.int .i64 m, .slice (some ⟨b, o, Option.none⟩) l.length cap], .pointer (some ⟨w.heap.size, 0, Option.none⟩), .slice Option.none 0 0, .pointer (some ⟨w.heap.size + 1 + 1, 0, Option.none⟩), .slice (some ⟨b, o + x.1 * m * 3, Option.none⟩) m m, .slice (some ⟨w.heap.size + 1, 0, Option.none⟩) 0 0, .agg #[.int .i64 m, .slice (some ⟨b, o, Option.none⟩) l.length cap], .bool true, .bool false, undef, .pointer (some ⟨w.heap.size, 1, Option.none⟩), .slice (some ⟨b, o, Option.none⟩) l.length cap, .pointer (some ⟨w.heap.size, 0, Option.none⟩), .int .i64 m, .func (.func 71) #[] #[.pointer (some ⟨w1.heap.size, 0, Option.none⟩), .pointer (some ⟨w1.heap.size + 1, 0, Option.none⟩)], .slice (some ⟨b, o + x.1 * m * 3, Option.none⟩) m m, undef, undef, undef, undef, undef, undef], defers := [] }) ?assign ?body ?done ?stop
  case assign =>
    intro q x W K hK
    simp only [rowEnc]
    gi_wp2
    exact hK
  case body =>
    rintro q pre x W ⟨⟨v, hv, hrw, hnn⟩, hB, x1, x2⟩ hlt
    have hmx : Try.prog.follows .mixedOrders = true := by kernel_rfl
    have hc := hv.cell
    have hf := hv.frozen
    have hS := hB.size
    gi_wp2
    gi_region_with_o (first | (refine ⟨trivial, ?_⟩; gi_at_call 36; refine (CallsIn.inRound q (callsIn_wide.2 (RH.out x.1 x.2 _ (HR.out.below (by first | exact hB | exact hB.drew)) (by first | exact Nat.lt_of_lt_of_le hbw hS)))).mono ?_; rintro e w3 ⟨rfl, hb3⟩; have hrw3 := ownsBelow hb3 hrw.drew; have hv3 : Boxed w3 (w.heap.size + 1 + 1) 34 v := (hb3.block _ hv.lt).trans hv; have hc3 := hv3.cell; have hl3 := hv3.lt; have hf3 := hv3.frozen; have hs3 : W.heap.size ≤ w3.heap.size := hb3.size; obtain ⟨v', w4, hrun, hown', hgrow, _⟩ := run_append_own (P := Try.prog) (w3.alloc (.cells #[.string (lineAt l m x.1)] 9)) w.heap.size 34 34 9 i0 (.string ⟨#[]⟩) 1 16 Try.underlying34 hi hz0 hz1 hz2 rfl (by decide) v pre.length (lines l m pre) (hrw3.alloc _) ⟨w3.heap.size, 0, Option.none⟩ 1 1 [.string (lineAt l m x.1)] rfl (cell_one_new _ _ _) (by simp [Value.oneCell']) (by unfold maxLen; omega) (by omega) (by simp; omega); obtain ⟨g', cap', rfl⟩ := ownsRow_succ hown'; obtain ⟨hv1, hv2, hr2, hk2, hb2⟩ := hv3.appended (by decide) hrw3 (by omega) (by omega) hown' hgrow; have hc1 := hv1.cell; have hf1 := hv1.frozen))
    all_goals
      gi_wp2
      have y1 : Boxed w3 (w1.heap.size) 24 (.slice (some ⟨b, o, Option.none⟩) l.length cap) := (hb3.block _ x1.lt).trans x1
      have y2 : Boxed w3 (w1.heap.size + 1) 3 (.int .i64 m) := (hb3.block _ x2.lt).trans x2
      have z1 := ((y1.alloc _).kept hgrow (y1.not_row (by decide) hrw3)).other (B' := w.heap.size + 1 + 1) (by omega) (.slice (some ⟨g', 0, Option.none⟩) (pre.length + 1) cap')
      have z2 := ((y2.alloc _).kept hgrow (y2.not_row (by decide) hrw3)).other (B' := w.heap.size + 1 + 1) (by omega) (.slice (some ⟨g', 0, Option.none⟩) (pre.length + 1) cap')
      have hbW : Below w.heap.size W w3 := ((Below.refl w.heap.size W).drew).trans (hb3.mono hS)
      exact ⟨((KeepsOthers.drew _).trans (keeps_below hb3)).trans hk2, ⟨z1.trans x1.symm, z2.trans x2.symm⟩, ⟨_, hv2, by rw [lines_snoc]; simpa using hr2, by simp⟩, (hB.trans hbW).trans hb2, z1, z2⟩
  case done =>
    rintro D ys W hD rfl ⟨⟨v, hv, hrw, hnn⟩, hB, _⟩ hK
    have hc := hv.cell
    gi_wp2
    refine ⟨by simp, .inl ⟨_, _, rfl, run_takeDeferred hK, ?_⟩⟩
    refine ⟨_, results_tmp rfl _ _ _, ⟨v, rfl, ?_, hnn⟩, hB.trans (belowK_b (w := w) (Nat.le_refl _) W D _ _ (by omega) hK rfl rfl)⟩
    rw [lines_all] at hrw
    rw [rowsTo_len] at hrw
    exact ownsRow_putObj hrw _ hK rfl
  case stop =>
    rintro D c pre W _ _ h _
    exact h.elim
end Go.Proofs.Ytfdgijmmgllmgaa
