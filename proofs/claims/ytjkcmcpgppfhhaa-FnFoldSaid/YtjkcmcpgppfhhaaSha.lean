/-
  Is a symmetry in a list?
-/
import Derived.Test.YtjkcmcpgppfhhaaSro
import Derived.Deep.QuietTactic
import Derived.BigQuiet
namespace Go.Proofs.Ytjkcmcpgppfhhaa
open Go.ChangeShapes Go.WideShapes Go.ChangeAt Go.RowKit Go.Joins 
set_option linter.unusedSimpArgs false
set_option linter.unusedVariables false
set_option maxHeartbeats 4000000 in
set_option maxRecDepth 1000000 in
theorem has_yes (l : List (Int × Bool)) (g n cap : Nat) (t : Int) (f : Bool) (w : World) (hn : l.length = n) (hsm : n ≤ 1000000) (hl : SymRow w g l) (hmem : (t, f) ∈ l) :
    Calls Try.prog 14 #[.slice (some ⟨g, 0, Option.none⟩) n cap, .agg #[.int .i64 t, .bool f]] w fun e w' => e = .returned (.bool true) ∧ Below w.heap.size w w' := by
  have HR : Hid (SymRow w g l) := hl
  have HL : Hid (l.length = n) := hn
  have HM : Hid ((t, f) ∈ l) := hmem
  clear hl hn hmem
  go_enter Try.func14, Try.ntmps14
  go_wp2
  go_loopw [5] (fun i wr => ∃ k : Nat, k ≤ n ∧ i = .int .i64 k ∧ (t, f) ∈ l.drop k ∧ Below w.heap.size w wr ∧ Blk wr w.heap.size #[.int .i64 t, .bool f] 25) (fun i _ => n - (intOf i).toNat)
  case atStart => exact ⟨0, by omega, rfl, HM.out, by (repeat' (first | (with_reducible exact Below.refl _ _) | (with_reducible assumption) | (with_reducible refine Below.alloc ?_ ?_ _) | (with_reducible refine Below.drew ?_) | (with_reducible refine Below.setCell ?_ ?_ _) | (with_reducible refine Below.trans ?_ (Below.mono (by assumption) ?_)) | (with_reducible exact Nat.le_refl _) | omega | (simp only [World.size_alloc, World.size_setCell, World.size_drew]; omega) | (simp; omega) | (simp; done))), Blk.new _ _ _⟩
  case round =>
    obtain ⟨k, hk, rfl, hin, hbel, hblk⟩ := hrel
    have HIN : Hid ((t, f) ∈ l.drop k) := hin
    have hlt : k < n := by
      have h1 := List.length_pos_of_mem hin
      have h2 := HL.out
      simp at h1
      omega
    clear hin
    have b0 : wr.cell? ⟨w.heap.size, 0, Option.none⟩ = some (.int .i64 t) := hblk.cell 0
    have b1 : wr.cell? ⟨w.heap.size, 1, Option.none⟩ = some (.bool f) := hblk.cell 1
    have HBK : Hid (Blk wr w.heap.size #[.int .i64 t, .bool f] 25) := hblk
    clear hblk
    have hA := (HR.out).below hbel k (by have := HL.out; omega)
    have hd : l.drop k = l.getD k (0, false) :: l.drop (k + 1) := by
      have h2 := HL.out
      rw [List.drop_eq_getElem_cons (by omega)]
      simp [List.getD, show k < l.length by omega]
    generalize l.getD k (0, false) = p at hA hd
    obtain ⟨t2, f2⟩ := p
    obtain ⟨a0, a1⟩ := hA
    simp only [] at a0 a1
    have HD : Hid (l.drop k = (t2, f2) :: l.drop (k + 1)) := hd
    clear hd
    by_cases ht : t2 = t
    · subst ht
      by_cases hf : f2 = f
      · subst hf
        go_wp2_with fail
        go_quiet (fail)
        go_wp2
        go_ret
        exact ⟨rfl, hbel.trans (below_draws _ _ _)⟩
      · have hf2 : (f2 == f) = false := by simpa using hf
        go_wp2_with fail
        go_quiet (fail)
        go_wp2
        have hds := hbel.size
        go_roundw
        case rel =>
          refine ⟨k + 1, by omega, by go_num, ?_, hbel.trans (below_draws _ _ _), HBK.out⟩
          have h3 := HIN.out
          rw [HD.out] at h3
          rcases List.mem_cons.1 h3 with e | h3
          · exact absurd (Prod.mk.inj e).2.symm hf
          · exact h3
        case measure => simp [intOf]; omega
    · have ht2 : (t2 == t) = false := by simpa using ht
      go_wp2_with fail
      go_quiet (fail)
      go_wp2
      have hds := hbel.size
      go_roundw
      case rel =>
        refine ⟨k + 1, by omega, by go_num, ?_, hbel.trans (below_draws _ _ _), HBK.out⟩
        have h3 := HIN.out
        rw [HD.out] at h3
        rcases List.mem_cons.1 h3 with e | h3
        · exact absurd (Prod.mk.inj e).1.symm ht
        · exact h3
      case measure => simp [intOf]; omega

theorem syms_back (kind : Int) (h0 : 0 ≤ kind) (h3 : kind ≤ 3) : ∀ p ∈ symsTo kind 8, (backT p.1 p.2, backF p.1 p.2) ∈ symsTo kind 8 := by
  rcases (by omega : kind = 0 ∨ kind = 1 ∨ kind = 2 ∨ kind = 3) with rfl | rfl | rfl | rfl <;> decide
theorem syms_range (kind : Int) (h0 : 0 ≤ kind) (h3 : kind ≤ 3) : ∀ p ∈ symsTo kind 8, isSymB p.1 = true := by
  rcases (by omega : kind = 0 ∨ kind = 1 ∨ kind = 2 ∨ kind = 3) with rfl | rfl | rfl | rfl <;> decide
theorem syms_count (kind : Int) (h0 : 0 ≤ kind) (h3 : kind ≤ 3) : (symsTo kind 8).length = [1, 2, 4, 8].getD kind.toNat 0 := by
  rcases (by omega : kind = 0 ∨ kind = 1 ∨ kind = 2 ∨ kind = 3) with rfl | rfl | rfl | rfl <;> decide
end Go.Proofs.Ytjkcmcpgppfhhaa
