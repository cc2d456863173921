/-
  WordOfSym of the program answers in every case; slices of integers marked, and held against the marks.
-/
import Derived.Test.YtbeefbmgbmgbfaaPtwo
namespace Go.Proofs.Ytbeefbmgbmgbfaa
open Go.ChangeShapes Go.WideShapes Go.ChangeAt Go.RowKit Go.Joins 
set_option linter.unusedSimpArgs false
set_option linter.unusedVariables false
theorem wordOfSym_i (kind t : Int) (f : Bool) (w : World) (R : Option (List Int)) (hR : wdsFind kind (t, f) = R) :
    Calls Try.prog 29 #[.int .i64 kind, .agg #[.int .i64 t, .bool f]] w (WordAns w (R.getD []) R.isSome) := by
  obtain ⟨e0, e1⟩ := wdsFind_eq kind t f
  by_cases ho : ofB kind t f = true
  · obtain ⟨N, hN, hy, hno, hin⟩ := word_found kind t f ho
    rw [e1 N hN hy hno ho] at hR
    subst hR
    exact wordOfSym_yes kind t f N w ho hN hy hno hin
  · have ho2 : ofB kind t f = false := by simpa using ho
    rw [e0 ho2] at hR
    subst hR
    clear e0 e1 ho
    go_enter Try.func29, Try.ntmps29
    go_wp2_with fail
    refine (isSymOf_i _ _ _ _).mono ?_
    rintro e w1 ⟨rfl, hb1⟩
    have b1 : Below w.heap.size w w1 := by (repeat' (first | (with_reducible exact Below.refl _ _) | (with_reducible assumption) | (with_reducible refine Below.alloc ?_ ?_ _) | (with_reducible refine Below.drew ?_) | (with_reducible refine Below.setCell ?_ ?_ _) | (with_reducible refine Below.trans ?_ (Below.mono (by assumption) ?_)) | (with_reducible exact Nat.le_refl _) | omega | (simp only [World.size_alloc, World.size_setCell, World.size_drew]; omega) | (simp; omega) | (simp; done)))
    have s1 := b1.size
    go_wp2
    go_ret2
    exact ⟨w1.heap.size, 0, rfl, ⟨#[], Blk.new _ _ _, by simp, fun k hk => by simp at hk⟩, s1, by simp, b1.alloc s1 _⟩

/-- The marks of n integers, counted from m. -/
def mks (n : Nat) (m : Int) : List Int := (List.range n).map fun j => m + ((j : Nat) : Int)
theorem mks_get (n : Nat) (m : Int) (k : Nat) (h : k < n) : (mks n m).getD k 0 = m + (k : Int) := by simp [mks, List.getD, h]
/-- A block with room for n integers, of which the first k are marked. -/
def IntMkd (W : World) (g n k : Nat) (m : Int) : Prop :=
  ∃ cur, Blk W g cur 3 ∧ n ≤ cur.size ∧ ∀ j : Nat, j < k → cur[j]? = some (.int .i64 (m + (j : Int)))
theorem IntMkd.step {W : World} {g n k : Nat} {m : Int} (h : IntMkd W g n k m) (hk : k < n) : IntMkd (W.setCell ⟨g, k, Option.none⟩ (.int .i64 (m + (k : Int)))) g n (k + 1) m := by
  obtain ⟨cur, hb, hs, hm⟩ := h
  refine ⟨_, hb.set, by simpa using hs, fun j hj => ?_⟩
  rw [Array.getElem?_setIfInBounds]
  by_cases e : k = j
  · subst e
    rw [if_pos rfl, if_pos (by omega)]
  · rw [if_neg e]
    exact hm j (by omega)
/-- What marked integers read as. -/
def IntMks (W : World) (g n : Nat) (m : Int) : Prop := ∀ k : Nat, k < n → W.cell? ⟨g, k, Option.none⟩ = some (.int .i64 (m + (k : Int)))
theorem IntMkd.marks {W : World} {g n : Nat} {m : Int} (h : IntMkd W g n n m) : IntMks W g n m := by
  obtain ⟨cur, hb, _, hm⟩ := h
  exact fun k hk => (hb.cell k).trans (hm k hk)
theorem IntMks.below {W w1 : World} {g n : Nat} {m : Int} (h : IntMks W g n m) (hb : Below W.heap.size W w1) : IntMks w1 g n m := fun k hk => cBelow hb (h k hk)

set_option maxHeartbeats 1600000 in
set_option maxRecDepth 1000000 in
theorem markIntS_any (g n c : Nat) (m : Int) (w : World) (hsm : n ≤ 1000000) (hm0 : 0 ≤ m) (hm1 : m ≤ 1000000) (hp : IntMkd w g n 0 m) :
    Calls Try.prog 43 #[.slice (some ⟨g, 0, Option.none⟩) n c, .int .i64 m] w fun e w' => e = .returned (.int .i64 (m + (n : Int))) ∧ IntMkd w' g n n m ∧ w.grownBy w' (some g) := by
  go_enter Try.func43, Try.ntmps43
  go_wp2
  go_loopw [1, 5] (fun q i wr => ∃ k : Nat, k ≤ n ∧ i = .int .i64 k ∧ q = .int .i64 (m + (k : Int)) ∧ IntMkd wr g n k m ∧ w.grownBy wr (some g)) (fun _ i _ => n - (intOf i).toNat)
  case atStart => exact ⟨0, by omega, rfl, by simp, hp, grownBy_refl _ _⟩
  case round =>
    obtain ⟨k, hk, rfl, rfl, hpart, hgr⟩ := hrel
    by_cases hlt : k < n
    · have HS : Hid (IntMkd (wr.setCell ⟨g, k, Option.none⟩ (.int .i64 (m + (k : Int)))) g n (k + 1) m) := hpart.step hlt
      obtain ⟨cur, hb, hs, hm⟩ := hpart
      have hx0 : ∃ x0, wr.cell? ⟨g, k, Option.none⟩ = some x0 := by rw [hb.cell]; exact ⟨_, Array.getElem?_eq_getElem (by omega)⟩
      obtain ⟨x0, hx0⟩ := hx0
      have hf0 := hb.free k
      have HG : Hid (w.grownBy wr (some g)) := hgr
      clear hb hm hs hgr
      go_wp2
      go_roundw
      case rel => exact ⟨k + 1, by omega, by go_num, by first | (go_num; done) | (simp; omega), HS.out, grownBy_set HG.out⟩
      case measure => simp [intOf]; omega
    · have hkn : k = n := by omega
      subst hkn
      go_wp2
      go_ret
      exact ⟨rfl, hpart, hgr⟩

set_option maxHeartbeats 1600000 in
set_option maxRecDepth 1000000 in
theorem heldIntS_any (g n c : Nat) (m : Int) (w : World) (hsm : n ≤ 1000000) (hm0 : 0 ≤ m) (hm1 : m ≤ 1000000) (hp : IntMks w g n m) :
    Calls Try.prog 44 #[.slice (some ⟨g, 0, Option.none⟩) n c, .int .i64 m] w fun e w' => e = .returned (.int .i64 (m + (n : Int))) ∧ Below w.heap.size w w' := by
  have HP : Hid (IntMks w g n m) := hp
  clear hp
  go_enter Try.func44, Try.ntmps44
  go_wp2
  go_loop [1, 5] (fun q i => ∃ k : Nat, k ≤ n ∧ i = .int .i64 k ∧ q = .int .i64 (m + (k : Int))) (fun _ i => n - (intOf i).toNat)
  case atStart => exact ⟨0, by omega, rfl, by simp⟩
  case round =>
    obtain ⟨k, hk, rfl, rfl⟩ := hrel
    by_cases hlt : k < n
    · have h0 := HP.out k hlt
      go_wp2
      go_round
      case rel => exact ⟨k + 1, by omega, by go_num, by first | (go_num; done) | (simp; omega)⟩
      case measure => simp [intOf]; omega
    · have hkn : k = n := by omega
      subst hkn
      go_wp2
      go_returns; exact ⟨rfl, by (repeat' (first | (with_reducible exact Below.refl _ _) | (with_reducible assumption) | (with_reducible refine Below.alloc ?_ ?_ _) | (with_reducible refine Below.drew ?_) | (with_reducible refine Below.setCell ?_ ?_ _) | (with_reducible refine Below.trans ?_ (Below.mono (by assumption) ?_)) | (with_reducible exact Nat.le_refl _) | omega | (simp only [World.size_alloc, World.size_setCell, World.size_drew]; omega) | (simp; omega) | (simp; done)))⟩
end Go.Proofs.Ytbeefbmgbmgbfaa
