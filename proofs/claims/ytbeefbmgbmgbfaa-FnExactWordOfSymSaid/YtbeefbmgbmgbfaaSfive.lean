/-
  Two lists of symmetries compared, marked, and held against the marks.
-/
import Derived.Test.YtbeefbmgbmgbfaaSfour
import Derived.StillTailTactics
namespace Go.Proofs.Ytbeefbmgbmgbfaa
open Go.ChangeShapes Go.WideShapes Go.ChangeAt Go.RowKit Go.Joins 
set_option linter.unusedSimpArgs false
set_option linter.unusedVariables false
/-- The cells of a list of symmetries, from a block's head on. -/
def SymRow (W : World) (g : Nat) (l : List (Int × Bool)) : Prop :=
  ∀ k, k < l.length → W.cell? ⟨g, k * 2, Option.none⟩ = some (.int .i64 (l.getD k (0, false)).1) ∧ W.cell? ⟨g, k * 2 + 1, Option.none⟩ = some (.bool (l.getD k (0, false)).2)

theorem symCells_get : ∀ (l : List (Int × Bool)) (k : Nat), k < l.length → (symCells l)[k * 2]? = some (.int .i64 (l.getD k (0, false)).1) ∧ (symCells l)[k * 2 + 1]? = some (.bool (l.getD k (0, false)).2)
  | p :: l, 0, _ => ⟨rfl, rfl⟩
  | p :: l, k + 1, h => by
    have ih := symCells_get l k (by simpa using h)
    have e : symCells (p :: l) = .int .i64 p.1 :: .bool p.2 :: symCells l := rfl
    rw [e, show (k + 1) * 2 = k * 2 + 1 + 1 by omega]
    simpa using ih

theorem symRow_of {W : World} {base g n cap : Nat} {l : List (Int × Bool)} (h : W.ownsRow base 25 2 (.slice (some ⟨g, 0, Option.none⟩) n cap) n (symCells l)) (hn : l.length = n) : SymRow W g l := fun k hk => by
  have hg := symCells_get l k hk
  rw [h.cellAt _ (by omega), h.cellAt _ (by omega)]
  exact hg

theorem SymRow.below {W w1 : World} {g : Nat} {l : List (Int × Bool)} (h : SymRow W g l) (hb : Below W.heap.size W w1) : SymRow w1 g l :=
  fun k hk => ⟨cBelow hb (h k hk).1, cBelow hb (h k hk).2⟩

set_option maxHeartbeats 1600000 in
set_option maxRecDepth 1000000 in
theorem eqSymS_same (l : List (Int × Bool)) (ga gb n ca cb : Nat) (w : World) (hn : l.length = n) (hsm : n ≤ 1000000) (ha : SymRow w ga l) (hbr : SymRow w gb l) :
    Calls Try.prog 36 #[.slice (some ⟨ga, 0, Option.none⟩) n ca, .slice (some ⟨gb, 0, Option.none⟩) n cb] w fun e w' => e = .returned (.bool true) ∧ Below w.heap.size w w' := by
  have HA : Hid (SymRow w ga l) := ha
  have HB : Hid (SymRow w gb l) := hbr
  clear ha hbr
  go_enter Try.func36, Try.ntmps36
  go_wp2
  go_loopw [5] (fun i wr => ∃ k : Nat, k ≤ n ∧ i = .int .i64 k ∧ Below w.heap.size w wr) (fun i _ => n - (intOf i).toNat)
  case atStart => exact ⟨0, by omega, rfl, Below.refl _ _⟩
  case round =>
    obtain ⟨k, hk, rfl, hbel⟩ := hrel
    by_cases hlt : k < n
    · have hA := (HA.out).below hbel k (by omega)
      have hB := (HB.out).below hbel k (by omega)
      obtain ⟨a0, a1⟩ := hA
      obtain ⟨b0, b1⟩ := hB
      go_wp2_with fail
      go_still_tail 8, (by kernel_rfl)
      change wpList _ _ _ _ _ wr.drew
      have hd : Below w.heap.size w wr.drew := hbel.drew
      have hds := hd.size
      generalize wr.drew = wx at hd hds ⊢
      go_wp2_with ((go_at_call 33; refine (eqSym_same _ _ _).mono ?_; rintro e w1 ⟨rfl, hb⟩; obtain ⟨hc, hf⟩ := bcell hb; have HL := keepL (by (repeat (first | (with_reducible assumption) | (with_reducible apply AllLt.alloc) | (with_reducible apply AllLt.setCell) | (with_reducible apply AllLt.drew) | (with_reducible exact AllLt.nil _)))) hb; have hq := HL; simp only [AllLt, and_true, World.size_alloc, World.size_setCell, World.size_drew] at hq; have hbs := hb.size; try simp only [World.size_alloc, World.size_setCell, World.size_drew] at hbs))
      go_roundw
      case rel => exact ⟨k + 1, by omega, by go_num, by (repeat' (first | (with_reducible exact Below.refl _ _) | (with_reducible assumption) | (with_reducible refine Below.alloc ?_ ?_ _) | (with_reducible refine Below.drew ?_) | (with_reducible refine Below.setCell ?_ ?_ _) | (with_reducible refine Below.trans ?_ (Below.mono (by assumption) ?_)) | (with_reducible exact Nat.le_refl _) | omega | (simp only [World.size_alloc, World.size_setCell, World.size_drew]; omega) | (simp; omega) | (simp; done)))⟩
      case measure => simp [intOf]; omega
    · have hkn : k = n := by omega
      subst hkn
      go_wp2
      go_returns; exact ⟨rfl, by (repeat' (first | (with_reducible exact Below.refl _ _) | (with_reducible assumption) | (with_reducible refine Below.alloc ?_ ?_ _) | (with_reducible refine Below.drew ?_) | (with_reducible refine Below.setCell ?_ ?_ _) | (with_reducible refine Below.trans ?_ (Below.mono (by assumption) ?_)) | (with_reducible exact Nat.le_refl _) | omega | (simp only [World.size_alloc, World.size_setCell, World.size_drew]; omega) | (simp; omega) | (simp; done)))⟩

/-- What a marked list of n symmetries holds, the marks counted from m. -/
def SymMarks (W : World) (g n : Nat) (m : Int) : Prop :=
  ∀ k : Nat, k < n → W.cell? ⟨g, k * 2, Option.none⟩ = some (.int .i64 (m + 2 * (k : Int))) ∧ W.cell? ⟨g, k * 2 + 1, Option.none⟩ = some (.bool ((m + 2 * (k : Int) + 1) % 3 == 0))
theorem SymMarks.below {W w1 : World} {g n : Nat} {m : Int} (h : SymMarks W g n m) (hb : Below W.heap.size W w1) : SymMarks w1 g n m :=
  fun k hk => ⟨cBelow hb (h k hk).1, cBelow hb (h k hk).2⟩

/-- A block of cells, not frozen, with room for n symmetries, of which the first k are marked. -/
def SymPart (W : World) (g n k : Nat) (m : Int) : Prop :=
  ∃ cur, W.heap[g]? = some (.cells cur 25 (0, 0)) ∧ n * 2 ≤ cur.size ∧
    ∀ j : Nat, j < k → cur[j * 2]? = some (.int .i64 (m + 2 * (j : Int))) ∧ cur[j * 2 + 1]? = some (.bool ((m + 2 * (j : Int) + 1) % 3 == 0))

theorem grownBy_refl (w : World) (g : Nat) : w.grownBy w (some g) := ⟨rfl, rfl, rfl, Nat.le_refl _, fun _ _ _ => rfl⟩
theorem grownBy_set {w w1 : World} {g o : Nat} {v : Value} (h : w.grownBy w1 (some g)) : w.grownBy (w1.setCell ⟨g, o, Option.none⟩ v) (some g) := by
  refine ⟨h.os, h.tape, h.output, by simpa using h.size, fun k hk hne => ?_⟩
  rw [Below.heap_setCell _ _ _ _ (fun e => hne (by rw [e]))]
  exact h.block k hk hne

theorem SymPart.step {W : World} {g n k : Nat} {m : Int} (h : SymPart W g n k m) (hk : k < n) :
    SymPart ((W.setCell ⟨g, k * 2, Option.none⟩ (.int .i64 (m + 2 * (k : Int)))).setCell ⟨g, k * 2 + 1, Option.none⟩ (.bool ((m + 2 * (k : Int) + 1) % 3 == 0))) g n (k + 1) m := by
  obtain ⟨cur, hb, hs, hm⟩ := h
  refine ⟨_, block_setCell (block_setCell hb _) _, by simpa using hs, fun j hj => ?_⟩
  simp only [Array.getElem?_setIfInBounds, Array.size_setIfInBounds]
  by_cases e : j = k
  · subst e
    simp
    omega
  · obtain ⟨h1, h2⟩ := hm j (by omega)
    have e1 : ¬ k * 2 + 1 = j * 2 := by omega
    have e2 : ¬ k * 2 = j * 2 := by omega
    have e3 : ¬ k * 2 + 1 = j * 2 + 1 := by omega
    have e4 : ¬ k * 2 = j * 2 + 1 := by omega
    simp only [e1, e2, e3, e4, if_false, ite_false]
    exact ⟨h1, h2⟩

set_option maxHeartbeats 1600000 in
set_option maxRecDepth 1000000 in
theorem markSymS_any (g n c : Nat) (m : Int) (w : World) (hsm : n ≤ 1000000) (hm0 : 0 ≤ m) (hm1 : m ≤ 1000000) (hp : SymPart w g n 0 m) :
    Calls Try.prog 37 #[.slice (some ⟨g, 0, Option.none⟩) n c, .int .i64 m] w fun e w' => e = .returned (.int .i64 (m + 2 * (n : Int))) ∧ SymPart w' g n n m ∧ w.grownBy w' (some g) := by
  go_enter Try.func37, Try.ntmps37
  go_wp2
  go_loopw [1, 5] (fun q i wr => ∃ k : Nat, k ≤ n ∧ i = .int .i64 k ∧ q = .int .i64 (m + 2 * (k : Int)) ∧ SymPart wr g n k m ∧ w.grownBy wr (some g)) (fun _ i _ => n - (intOf i).toNat)
  case atStart => exact ⟨0, by omega, rfl, by simp, hp, grownBy_refl _ _⟩
  case round =>
    obtain ⟨k, hk, rfl, rfl, hpart, hgr⟩ := hrel
    by_cases hlt : k < n
    · have hst := hpart.step hlt
      obtain ⟨cur, hb, hs, hm⟩ := hpart
      have hx0 : ∃ x0, wr.cell? ⟨g, k * 2, Option.none⟩ = some x0 := by rw [cell_of_block hb]; exact ⟨_, Array.getElem?_eq_getElem (by omega)⟩
      have hx1 : ∃ x1, wr.cell? ⟨g, k * 2 + 1, Option.none⟩ = some x1 := by rw [cell_of_block hb]; exact ⟨_, Array.getElem?_eq_getElem (by omega)⟩
      obtain ⟨x0, hx0⟩ := hx0
      obtain ⟨x1, hx1⟩ := hx1
      have hf0 := unfrozen_of_block hb (k * 2)
      have hf1 := unfrozen_of_block hb (k * 2 + 1)
      have HG : Hid (w.grownBy wr (some g)) := hgr
      have HS : Hid (SymPart ((wr.setCell ⟨g, k * 2, Option.none⟩ (.int .i64 (m + 2 * (k : Int)))).setCell ⟨g, k * 2 + 1, Option.none⟩ (.bool ((m + 2 * (k : Int) + 1) % 3 == 0))) g n (k + 1) m) := hst
      clear hb hm hs hgr hst
      go_wp2
      go_roundw
      case rel => exact ⟨k + 1, by omega, by go_num, by first | (go_num; done) | (simp; omega), HS.out, grownBy_set (grownBy_set HG.out)⟩
      case measure => simp [intOf]; omega
    · have hkn : k = n := by omega
      subst hkn
      go_wp2
      go_ret
      exact ⟨rfl, hpart, hgr⟩

theorem SymPart.marks {W : World} {g n : Nat} {m : Int} (h : SymPart W g n n m) : SymMarks W g n m := by
  obtain ⟨cur, hb, hs, hm⟩ := h
  intro k hk
  rw [cell_of_block hb, cell_of_block hb]
  exact hm k hk

set_option maxHeartbeats 1600000 in
set_option maxRecDepth 1000000 in
theorem heldSymS_any (g n c : Nat) (m : Int) (w : World) (hsm : n ≤ 1000000) (hm0 : 0 ≤ m) (hm1 : m ≤ 1000000) (hp : SymMarks w g n m) :
    Calls Try.prog 38 #[.slice (some ⟨g, 0, Option.none⟩) n c, .int .i64 m] w fun e w' => e = .returned (.int .i64 (m + 2 * (n : Int))) ∧ Below w.heap.size w w' := by
  have HP : Hid (SymMarks w g n m) := hp
  clear hp
  go_enter Try.func38, Try.ntmps38
  go_wp2
  go_loop [1, 5] (fun q i => ∃ k : Nat, k ≤ n ∧ i = .int .i64 k ∧ q = .int .i64 (m + 2 * (k : Int))) (fun _ i => n - (intOf i).toNat)
  case atStart => exact ⟨0, by omega, rfl, by simp⟩
  case round =>
    obtain ⟨k, hk, rfl, rfl⟩ := hrel
    by_cases hlt : k < n
    · obtain ⟨h0, h1⟩ := HP.out k hlt
      go_wp2
      go_round
      case rel => exact ⟨k + 1, by omega, by go_num, by first | (go_num; done) | (simp; omega)⟩
      case measure => simp [intOf]; omega
    · have hkn : k = n := by omega
      subst hkn
      go_wp2
      go_returns; exact ⟨rfl, by (repeat' (first | (with_reducible exact Below.refl _ _) | (with_reducible assumption) | (with_reducible refine Below.alloc ?_ ?_ _) | (with_reducible refine Below.drew ?_) | (with_reducible refine Below.setCell ?_ ?_ _) | (with_reducible refine Below.trans ?_ (Below.mono (by assumption) ?_)) | (with_reducible exact Nat.le_refl _) | omega | (simp only [World.size_alloc, World.size_setCell, World.size_drew]; omega) | (simp; omega) | (simp; done)))⟩
end Go.Proofs.Ytbeefbmgbmgbfaa
