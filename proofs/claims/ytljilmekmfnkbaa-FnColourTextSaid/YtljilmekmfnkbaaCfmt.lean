/-
  Digits of parts, and FormatColour of both.
-/
import Derived.Test.YtljilmekmfnkbaaCfil
import Derived.Test.YtljilmekmfnkbaaCeDigit
import Derived.Test.YtljilmekmfnkbaaCstep
import Derived.Laws.IdiomStrings
namespace Go.Proofs.Ytljilmekmfnkbaa
open Go.ChangeShapes Go.WideShapes Go.ChangeAt Go.RowKit Go.Joins
set_option linter.unusedSimpArgs false
set_option linter.unusedVariables false
set_option maxRecDepth 100000
attribute [local go_sem] store_f
open Ieee

/-- A digit of base sixteen. -/
def dg (n : Nat) : UInt8 := if n < 10 then UInt8.ofNat (48 + n) else UInt8.ofNat (87 + n)
def digS (n : Nat) : ByteArray := ⟨#[dg n]⟩
def dig3 (a b c : Nat) : ByteArray := ⟨#[dg a, dg b, dg c]⟩

theorem dig_app (a b c : Nat) : digS a ++ digS b ++ digS c = dig3 a b c := by
  apply ByteArray.ext
  simp [digS, dig3, ByteArray.data_append]

theorem up16 {q : Nat} (h : q ≤ 16) : q = 0 ∨ q = 1 ∨ q = 2 ∨ q = 3 ∨ q = 4 ∨ q = 5 ∨ q = 6 ∨ q = 7 ∨ q = 8 ∨ q = 9 ∨ q = 10 ∨ q = 11 ∨ q = 12 ∨ q = 13 ∨ q = 14 ∨ q = 15 ∨ q = 16 := by omega

theorem index_digit (n : Nat) (h : n ≤ 15) (w : World) :
    (Instr.index 9 (.string ⟨#[48, 49, 50, 51, 52, 53, 54, 55, 56, 57, 97, 98, 99, 100, 101, 102]⟩) (.int .i64 n)).run Try.prog w = .ok (.int .u8 ((dg n).toNat : Int)) w := by
  rcases up16 (Nat.le_succ_of_le h) with rfl | rfl | rfl | rfl | rfl | rfl | rfl | rfl | rfl | rfl | rfl | rfl | rfl | rfl | rfl | rfl | rfl
  all_goals first | (exfalso; omega) | kernel_rfl

theorem digitOfPart_of {x r q : Nat} (hq : q ≤ 16) (hm : FloatKind.f32.format.mul 1098907648 x = some r) (ht : floatToIntVal .f32 r .i64 = some (q : Int)) (w : World) :
    Calls Try.prog 70 #[.float .f32 x] w fun e w' => e = .returned (.int .u8 ((dg (min q 15)).toNat : Int)) ∧ w' = w := by
  have hop := fun t w => run_float_arith (P := Try.prog) w .mul t .f32 1098907648 x r hm
  have hcv := fun w => run_convert_float_int (P := Try.prog) w 24 3 .f32 .i64 r q (by rw [Try.underlying24]; rfl) Try.underlying3 ht
  clear hm ht
  by_cases h15 : q ≤ 15
  · have e : min q 15 = q := by omega
    rw [e]
    have hix := fun w => index_digit q h15 w
    have hlt : ¬ (15 : Int) < (q : Int) := by omega
    go_enter Try.func70, Try.ntmps70
    go_wp2_with (first | simp only [hop] | simp only [hcv] | simp only [hix])
    all_goals (go_ret; exact ⟨rfl, rfl⟩)
  · obtain rfl : q = 16 := by omega
    go_enter Try.func70, Try.ntmps70
    go_wp2_with (first | simp only [hop] | simp only [hcv])
    all_goals (go_ret; exact ⟨by first | rfl | decide, rfl⟩)

theorem digitOfPart_i {x : Nat} (h : Part x) (w : World) :
    Calls Try.prog 70 #[.float .f32 x] w fun e w' => e = .returned (.int .u8 ((dg (stepN x)).toNat : Int)) ∧ Below w.heap.size w w' := by
  obtain ⟨e1, _, hf, hn, hb⟩ := mul16 h
  refine (digitOfPart_of hb e1 (toInt_fin hf hn hb) w).mono ?_
  rintro e w1 ⟨rfl, rfl⟩
  exact ⟨rfl, Below.refl _ _⟩

structure TimC (x c : Nat) : Prop where
  call : ∀ w : World, Calls Try.prog 73 #[.float .f32 x, .float .f32 1098907648] w fun e w' => e = .returned (.float .f32 c) ∧ w' = w

theorem l2Step_of {x c q : Nat} (hq : q ≤ 16) (T : TimC x c) (ht : floatToIntVal .f32 c .i64 = some (q : Int)) (w : World) :
    Calls Try.prog 77 #[.float .f32 x] w fun e w' => e = .returned (.int .i64 (min q 15 : Nat)) ∧ w' = w := by
  have hcv := fun w => run_convert_float_int (P := Try.prog) w 24 3 .f32 .i64 c q (by rw [Try.underlying24]; rfl) Try.underlying3 ht
  clear ht
  by_cases h15 : q ≤ 15
  · have e : min q 15 = q := by omega
    rw [e]
    have hlt : ¬ (15 : Int) < (q : Int) := by omega
    go_enter Try.func77, Try.ntmps77
    go_wp2_with (first | simp only [hcv] | (go_at_call 73; refine (T.call _).mono ?_; rintro e w1 ⟨rfl, rfl⟩))
    all_goals (go_ret; exact ⟨rfl, rfl⟩)
  · obtain rfl : q = 16 := by omega
    go_enter Try.func77, Try.ntmps77
    go_wp2_with (first | simp only [hcv] | (go_at_call 73; refine (T.call _).mono ?_; rintro e w1 ⟨rfl, rfl⟩))
    all_goals (go_ret; exact ⟨by first | rfl | decide, rfl⟩)

theorem l2Step_s {x : Nat} (h : Part x) (w : World) :
    Calls Try.prog 77 #[.float .f32 x] w fun e w' => e = .returned (.int .i64 (stepN x : Nat)) ∧ w' = w := by
  obtain ⟨_, e2, hf, hn, hb⟩ := mul16 h
  have hb2 : wholeOf (cleanB (by16 x)) ≤ 16 := by rw [clean_whole hf]; exact hb
  have ht := toInt_fin (clean_fin hf) (clean_neg hf hn) hb2
  rw [clean_whole hf] at ht
  exact l2Step_of hb ⟨fun w => l1Times_s _ _ _ w e2 (sub_self hf)⟩ ht w

theorem l2Digit_s (n : Nat) (h : n ≤ 15) (w : World) :
    Calls Try.prog 62 #[.int .i64 n] w fun e w' => e = .returned (.string (digS n)) ∧ w' = w := by
  rcases up16 (Nat.le_succ_of_le h) with rfl | rfl | rfl | rfl | rfl | rfl | rfl | rfl | rfl | rfl | rfl | rfl | rfl | rfl | rfl | rfl | rfl
  all_goals first
    | (exfalso; omega)
    | (go_enter Try.func62, Try.ntmps62
       go_wp2
       go_ret
       exact ⟨by first | rfl | (simp [digS, dg]; done) | decide, rfl⟩)

theorem three_back (a b c : UInt8) (w1 : World) :
    (convert 22 9 (.slice (some ⟨w1.heap.size, 0, Option.none⟩) 3 3)).run Try.prog (w1.alloc (.cells #[.int .u8 a.toNat, .int .u8 b.toNat, .int .u8 c.toNat] 76)) = .ok (.string ⟨#[a, b, c]⟩) (w1.alloc (.cells #[.int .u8 a.toNat, .int .u8 b.toNat, .int .u8 c.toNat] 76)) := by
  exact run_convert_bytes_back (P := Try.prog) (w1.alloc (.cells #[.int .u8 a.toNat, .int .u8 b.toNat, .int .u8 c.toNat] 76)) 22 9 5 ⟨w1.heap.size, 0, Option.none⟩ 3 [a, b, c] Try.underlying22 Try.underlying5 Try.underlying9 (by
    intro j hj
    have hj3 : j < 3 := by simpa using hj
    rcases (by omega : j = 0 ∨ j = 1 ∨ j = 2) with rfl | rfl | rfl
    all_goals simp [Addr.add])
end Go.Proofs.Ytljilmekmfnkbaa
