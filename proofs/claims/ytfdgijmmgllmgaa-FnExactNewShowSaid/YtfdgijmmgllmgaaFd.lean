/-
  The drawn singles: whole numbers from -640 to 640 over one of six divisors; each is a finite single in reach.
-/
import Derived.Test.YtfdgijmmgllmgaaAp
namespace Go.Proofs.Ytfdgijmmgllmgaa
open Go.ChangeShapes Go.WideShapes Go.ChangeAt Go.RowKit Go.Joins
set_option linter.unusedSimpArgs false
set_option linter.unusedVariables false
set_option maxRecDepth 100000
attribute [local go_sem] store_f
open Ieee

/-- The divisors of the draw: 1, 2, 16, 64, 100, 3. -/
def divsB : Nat → Nat
  | 0 => 1065353216
  | 1 => 1073741824
  | 2 => 1098907648
  | 3 => 1115684864
  | 4 => 1120403456
  | _ => 1077936128

/-- A single that the draw may give: finite, of 32 bits, no greater than 640. -/
def okB (x : Nat) : Bool := decide (x < 4294967296) && decide (x % 2147483648 ≤ 1166016512)
def fineB (m k : Nat) : Option Nat := F32.div (floatOfInt .f32 ((m : Int) - 640)) (divsB k)
def fineOk (m k : Nat) : Bool := match fineB m k with | some r => okB r | none => false
def chkTo (p : Nat → Bool) : Nat → Bool
  | 0 => true
  | n + 1 => p n && chkTo p n
theorem chkTo_at {p : Nat → Bool} : ∀ {n : Nat}, chkTo p n = true → ∀ k, k < n → p k = true
  | 0, _, k, hk => by omega
  | n + 1, h, k, hk => by
    simp only [chkTo, Bool.and_eq_true] at h
    rcases (by omega : k = n ∨ k < n) with rfl | h'
    · exact h.1
    · exact chkTo_at h.2 k h'

set_option maxRecDepth 1000000
theorem fine_0 : chkTo (fun m => chkTo (fineOk (0 + m)) 6) 100 = true := by decide +kernel
theorem fine_1 : chkTo (fun m => chkTo (fineOk (100 + m)) 6) 100 = true := by decide +kernel
theorem fine_2 : chkTo (fun m => chkTo (fineOk (200 + m)) 6) 100 = true := by decide +kernel
theorem fine_3 : chkTo (fun m => chkTo (fineOk (300 + m)) 6) 100 = true := by decide +kernel
theorem fine_4 : chkTo (fun m => chkTo (fineOk (400 + m)) 6) 100 = true := by decide +kernel
theorem fine_5 : chkTo (fun m => chkTo (fineOk (500 + m)) 6) 100 = true := by decide +kernel
theorem fine_6 : chkTo (fun m => chkTo (fineOk (600 + m)) 6) 100 = true := by decide +kernel
theorem fine_7 : chkTo (fun m => chkTo (fineOk (700 + m)) 6) 100 = true := by decide +kernel
theorem fine_8 : chkTo (fun m => chkTo (fineOk (800 + m)) 6) 100 = true := by decide +kernel
theorem fine_9 : chkTo (fun m => chkTo (fineOk (900 + m)) 6) 100 = true := by decide +kernel
theorem fine_10 : chkTo (fun m => chkTo (fineOk (1000 + m)) 6) 100 = true := by decide +kernel
theorem fine_11 : chkTo (fun m => chkTo (fineOk (1100 + m)) 6) 100 = true := by decide +kernel
theorem fine_12 : chkTo (fun m => chkTo (fineOk (1200 + m)) 6) 81 = true := by decide +kernel

theorem fine_ok (m k : Nat) (hm : m < 1281) (hk : k < 6) : ∃ r, fineB m k = some r ∧ okB r = true := by
  have key : fineOk m k = true := by
    rcases (by omega : (0 ≤ m ∧ m < 100) ∨ (100 ≤ m ∧ m < 200) ∨ (200 ≤ m ∧ m < 300) ∨ (300 ≤ m ∧ m < 400) ∨ (400 ≤ m ∧ m < 500) ∨ (500 ≤ m ∧ m < 600) ∨ (600 ≤ m ∧ m < 700) ∨ (700 ≤ m ∧ m < 800) ∨ (800 ≤ m ∧ m < 900) ∨ (900 ≤ m ∧ m < 1000) ∨ (1000 ≤ m ∧ m < 1100) ∨ (1100 ≤ m ∧ m < 1200) ∨ (1200 ≤ m ∧ m < 1281)) with h | h | h | h | h | h | h | h | h | h | h | h | h
    · have h1 := chkTo_at (chkTo_at fine_0 (m - 0) (by omega)) k hk
      rwa [show 0 + (m - 0) = m by omega] at h1
    · have h1 := chkTo_at (chkTo_at fine_1 (m - 100) (by omega)) k hk
      rwa [show 100 + (m - 100) = m by omega] at h1
    · have h1 := chkTo_at (chkTo_at fine_2 (m - 200) (by omega)) k hk
      rwa [show 200 + (m - 200) = m by omega] at h1
    · have h1 := chkTo_at (chkTo_at fine_3 (m - 300) (by omega)) k hk
      rwa [show 300 + (m - 300) = m by omega] at h1
    · have h1 := chkTo_at (chkTo_at fine_4 (m - 400) (by omega)) k hk
      rwa [show 400 + (m - 400) = m by omega] at h1
    · have h1 := chkTo_at (chkTo_at fine_5 (m - 500) (by omega)) k hk
      rwa [show 500 + (m - 500) = m by omega] at h1
    · have h1 := chkTo_at (chkTo_at fine_6 (m - 600) (by omega)) k hk
      rwa [show 600 + (m - 600) = m by omega] at h1
    · have h1 := chkTo_at (chkTo_at fine_7 (m - 700) (by omega)) k hk
      rwa [show 700 + (m - 700) = m by omega] at h1
    · have h1 := chkTo_at (chkTo_at fine_8 (m - 800) (by omega)) k hk
      rwa [show 800 + (m - 800) = m by omega] at h1
    · have h1 := chkTo_at (chkTo_at fine_9 (m - 900) (by omega)) k hk
      rwa [show 900 + (m - 900) = m by omega] at h1
    · have h1 := chkTo_at (chkTo_at fine_10 (m - 1000) (by omega)) k hk
      rwa [show 1000 + (m - 1000) = m by omega] at h1
    · have h1 := chkTo_at (chkTo_at fine_11 (m - 1100) (by omega)) k hk
      rwa [show 1100 + (m - 1100) = m by omega] at h1
    · have h1 := chkTo_at (chkTo_at fine_12 (m - 1200) (by omega)) k hk
      rwa [show 1200 + (m - 1200) = m by omega] at h1
  unfold fineOk at key
  cases h : fineB m k with
  | none => rw [h] at key; cases key
  | some r => rw [h] at key; exact ⟨r, rfl, key⟩

theorem ok_lt {x : Nat} (h : okB x = true) : x < 4294967296 := by simp [okB] at h; exact h.1
theorem ok_rung {x : Nat} (h : okB x = true) : rungOf F32 x ≤ 1166016512 := by
  simp [okB] at h
  unfold rungOf; rw [F32_sw]; exact h.2
theorem ok_fin {x : Nat} (h : okB x = true) : Fin32 x := by
  have := ok_rung h
  unfold Fin32; rw [F32_inf]; omega
theorem ok_in {x : Nat} (h : okB x = true) : inB x = true := by
  have h1 := ok_rung h
  have hf := ok_fin h
  have h3 := magOf_le F32 (r := rungOf F32 x) (s := 1166016512) (by omega)
  have e1 : rungOf F32 3313500160 = 1166016512 := by unfold rungOf; rw [F32_sw]
  have e2 : negOf F32 3313500160 = true := by unfold negOf; rw [F32_sw]; rfl
  have f1 : Fin32 3313500160 := by unfold Fin32; rw [e1, F32_inf]; decide
  have f2 : Fin32 1166016512 := fin_of_lt (by omega)
  have v1 : valOf F32 3313500160 = -(magOf F32 1166016512 : Int) := by unfold valOf; rw [e1, e2]; rfl
  have v2 := val_of_lt (x := 1166016512) (by omega)
  have hm : -(magOf F32 1166016512 : Int) ≤ valOf F32 x ∧ valOf F32 x ≤ (magOf F32 1166016512 : Int) := by
    unfold valOf
    split <;> omega
  unfold inB
  rw [order_fin F32 hf f1, order_fin F32 hf f2, v1, v2]
  simp only [cmp_eq, cmp_lt, cmp_gt]
  simp only [Bool.and_eq_true, Bool.or_eq_true, decide_eq_true_eq]
  omega
theorem ok_zero : okB 0 = true := by decide
end Go.Proofs.Ytfdgijmmgllmgaa
