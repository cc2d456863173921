/-
  Slices of integers: copied, compared.
-/
import Derived.Test.YtbeefbmgbmgbfaaWone
import Derived.Deep.OwnRows
import Derived.Deep.QuietTactic
import Derived.BigQuiet
namespace Go.Proofs.Ytbeefbmgbmgbfaa
open Go.ChangeShapes Go.WideShapes Go.ChangeAt Go.RowKit Go.Joins 
set_option linter.unusedSimpArgs false
set_option linter.unusedVariables false
theorem infoInt : (Try.prog.info? 3).map (fun i => (i.zero, i.size, i.bytes)) = some (some (.int .i64 0), 1, 8) := by kernel_rfl
/-- What the walk is told of a slice of integers that came in: its numbers. -/
def SrcRow (w : World) (a : Option Addr) (n : Nat) (z : List Int) : Prop :=
  z.length = n ∧ (n = 0 ∨ ∃ b off, a = some ⟨b, off, Option.none⟩ ∧ ∀ k, k < n → w.cell? ⟨b, off + k, Option.none⟩ = some (.int .i64 (z.getD k 0)))
theorem SrcRow.below {w w1 : World} {a : Option Addr} {n : Nat} {z : List Int} (h : SrcRow w a n z) (hb : Below w.heap.size w w1) : SrcRow w1 a n z := by
  obtain ⟨h1, h2⟩ := h
  refine ⟨h1, ?_⟩
  rcases h2 with h2 | ⟨b, off, e, h3⟩
  · exact .inl h2
  · exact .inr ⟨b, off, e, fun k hk => cBelow hb (h3 k hk)⟩

/-- A block of n integers, the first k of which are those of z. -/
def IntPart (W : World) (g n k : Nat) (z : List Int) : Prop :=
  ∃ cur, Blk W g cur 3 ∧ cur.size = n ∧ ∀ j : Nat, j < k → cur[j]? = some (.int .i64 (z.getD j 0))
theorem IntPart.step {W : World} {g n k : Nat} {z : List Int} (h : IntPart W g n k z) (hk : k < n) : IntPart (W.setCell ⟨g, k, Option.none⟩ (.int .i64 (z.getD k 0))) g n (k + 1) z := by
  obtain ⟨cur, hb, hs, hm⟩ := h
  refine ⟨_, hb.set, by simpa using hs, fun j hj => ?_⟩
  rw [Array.getElem?_setIfInBounds]
  by_cases e : k = j
  · subst e
    rw [if_pos rfl, if_pos (by omega)]
  · rw [if_neg e]
    exact hm j (by omega)
theorem IntPart.row {W : World} {g : Nat} {z : List Int} (h : IntPart W g z.length z.length z) : IntRow W g z := by
  obtain ⟨cur, hb, hs, hm⟩ := h
  exact fun k hk => (hb.cell k).trans (hm k hk)

set_option maxHeartbeats 4000000 in
set_option maxRecDepth 1000000 in
theorem toIntS_any (a : Option Addr) (n cap : Nat) (z : List Int) (w : World) (hz : SrcRow w a n z) (hn : n ≤ 1048576) :
    Calls Try.prog 40 #[.slice a n cap] w fun e w' => e = .returned (.slice (some ⟨w.heap.size, 0, Option.none⟩) n n) ∧ IntRow w' w.heap.size z ∧ w.heap.size < w'.heap.size ∧ Below w.heap.size w w' := by
  obtain ⟨hlen, hrow⟩ := hz
  have hmk := run_make_row' (P := Try.prog) 34 3 (.int .i64 0) 8 Try.underlying34 infoInt rfl .i64 .i64 n (by omega) (by omega)
  rcases hrow with h0 | ⟨b, off, rfl, hrow⟩
  · subst h0
    have hz0 : z = [] := List.eq_nil_of_length_eq_zero hlen
    subst hz0
    clear hlen
    have hmk0 : ∀ W, (Instr.makeSlice 34 (.int .i64 0) (.int .i64 0)).run Try.prog W = .ok (.slice (some ⟨W.heap.size, 0, Option.none⟩) 0 0) (W.alloc (.cells (madeCells #[.int .i64 0] 0) 3)) := fun W => hmk W
    clear hmk
    go_enter Try.func40, Try.ntmps40
    go_wp2
    go_rounds 1
    go_ret
    exact ⟨rfl, fun k hk => by simp at hk, by simp, by (repeat' (first | (with_reducible exact Below.refl _ _) | (with_reducible assumption) | (with_reducible refine Below.alloc ?_ ?_ _) | (with_reducible refine Below.drew ?_) | (with_reducible refine Below.setCell ?_ ?_ _) | (with_reducible refine Below.trans ?_ (Below.mono (by assumption) ?_)) | (with_reducible exact Nat.le_refl _) | omega | (simp only [World.size_alloc, World.size_setCell, World.size_drew]; omega) | (simp; omega) | (simp; done)))⟩
  · have HR : Hid (∀ k, k < n → w.cell? ⟨b, off + k, Option.none⟩ = some (.int .i64 (z.getD k 0))) := hrow
    have HL : Hid (z.length = n) := hlen
    clear hrow hlen
    go_enter Try.func40, Try.ntmps40
    go_wp2
    go_loopw [4] (fun i wr => ∃ k : Nat, k ≤ n ∧ i = .int .i64 k ∧ IntPart wr w.heap.size n k z ∧ Below w.heap.size w wr) (fun i _ => n - (intOf i).toNat)
    case atStart => exact ⟨0, by omega, rfl, ⟨_, Blk.new _ _ _, size_madeCells _ _, fun j hj => by omega⟩, by (repeat' (first | (with_reducible exact Below.refl _ _) | (with_reducible assumption) | (with_reducible refine Below.alloc ?_ ?_ _) | (with_reducible refine Below.drew ?_) | (with_reducible refine Below.setCell ?_ ?_ _) | (with_reducible refine Below.trans ?_ (Below.mono (by assumption) ?_)) | (with_reducible exact Nat.le_refl _) | omega | (simp only [World.size_alloc, World.size_setCell, World.size_drew]; omega) | (simp; omega) | (simp; done)))⟩
    case round =>
      obtain ⟨k, hk, rfl, hp, hbel⟩ := hrel
      by_cases hlt : k < n
      · have HS : Hid (IntPart (wr.setCell ⟨w.heap.size, k, Option.none⟩ (.int .i64 (z.getD k 0))) w.heap.size n (k + 1) z) := hp.step hlt
        obtain ⟨cur, hb, hs, hm⟩ := hp
        have hx : wr.cell? ⟨b, off + k, Option.none⟩ = some (.int .i64 (z.getD k 0)) := (hbel.cell (cell_lt (HR.out k hlt))).trans (HR.out k hlt)
        generalize z.getD k 0 = x at hx HS
        have hx1 : ∃ x1, wr.cell? ⟨w.heap.size, k, Option.none⟩ = some x1 := by rw [hb.cell]; exact ⟨_, Array.getElem?_eq_getElem (by omega)⟩
        obtain ⟨x1, hx1⟩ := hx1
        have hf1 := hb.free k
        clear hb hs hm
        go_wp2
        go_roundw
        case rel => exact ⟨k + 1, by omega, by go_num, HS.out, by (repeat' (first | (with_reducible exact Below.refl _ _) | (with_reducible assumption) | (with_reducible refine Below.alloc ?_ ?_ _) | (with_reducible refine Below.drew ?_) | (with_reducible refine Below.setCell ?_ ?_ _) | (with_reducible refine Below.trans ?_ (Below.mono (by assumption) ?_)) | (with_reducible exact Nat.le_refl _) | omega | (simp only [World.size_alloc, World.size_setCell, World.size_drew]; omega) | (simp; omega) | (simp; done)))⟩
        case measure => simp [intOf]; omega
      · have hkn : k = n := by omega
        subst hkn
        have hl : w.heap.size < wr.heap.size := by
          obtain ⟨cur, hb, _⟩ := hp
          exact hb.lt
        have e := HL.out
        subst e
        have HP : Hid (IntRow wr w.heap.size z) := hp.row
        clear hp
        go_wp2
        go_ret
        exact ⟨rfl, HP.out, hl, hbel⟩

set_option maxHeartbeats 4000000 in
set_option maxRecDepth 1000000 in
theorem eqIntS_same (z : List Int) (ga gb ca cb n : Nat) (w : World) (hl : z.length = n) (hn : n ≤ 1048576) (ha : IntRow w ga z) (hbr : IntRow w gb z) :
    Calls Try.prog 41 #[.slice (some ⟨ga, 0, Option.none⟩) n ca, .slice (some ⟨gb, 0, Option.none⟩) n cb] w fun e w' => e = .returned (.bool true) ∧ Below w.heap.size w w' := by
  have HA : Hid (IntRow w ga z) := ha
  have HB : Hid (IntRow w gb z) := hbr
  have HL : Hid (z.length = n) := hl
  clear ha hbr hl
  go_enter Try.func41, Try.ntmps41
  go_wp2
  go_loopw [5] (fun i wr => ∃ k : Nat, k ≤ n ∧ i = .int .i64 k ∧ Below w.heap.size w wr) (fun i _ => n - (intOf i).toNat)
  case atStart => exact ⟨0, by omega, rfl, Below.refl _ _⟩
  case round =>
    obtain ⟨k, hk, rfl, hbel⟩ := hrel
    by_cases hlt : k < n
    · have hA := (HA.out).below hbel k (by have := HL.out; omega)
      have hB := (HB.out).below hbel k (by have := HL.out; omega)
      generalize z.getD k 0 = x at hA hB
      go_wp2_with fail
      go_quiet (fail)
      go_wp2
      have hd := hbel.size
      go_roundw
      case rel => exact ⟨k + 1, by omega, by go_num, hbel.trans (below_draws _ _ _)⟩
      case measure => simp [intOf]; omega
    · have hkn : k = n := by omega
      subst hkn
      go_wp2
      go_returns; exact ⟨rfl, by (repeat' (first | (with_reducible exact Below.refl _ _) | (with_reducible assumption) | (with_reducible refine Below.alloc ?_ ?_ _) | (with_reducible refine Below.drew ?_) | (with_reducible refine Below.setCell ?_ ?_ _) | (with_reducible refine Below.trans ?_ (Below.mono (by assumption) ?_)) | (with_reducible exact Nat.le_refl _) | omega | (simp only [World.size_alloc, World.size_setCell, World.size_drew]; omega) | (simp; omega) | (simp; done)))⟩

set_option maxRecDepth 100000 in
theorem open_introw {H : Type} {enc : TypeId × Value → H} {W : World} {base : Nat} {spare : Nat → Bool} {held : Bool} {v : Value} {d : DataW H} {p : List MemPlace}
    (hok : Value.okWide Try.prog W .any base 34 v) (h : DataW.Trod enc Try.prog W 0 spare held 34 v d p) :
    ∃ (a : Option Addr) (len cap : Nat) (z : List Int), v = .slice a len cap ∧ SrcRow W a len z := by
  obtain ⟨a, len, cap, rfl⟩ := okWide_slice Try.underlying34 hok
  obtain ⟨fuel, hf⟩ := h
  rcases open_ints Try.underlying34 Try.underlying3 (by kernel_rfl) hf with ⟨hcs, _⟩ | ⟨x, l, c, zs, hcs, _, hl, hm, hz, _, hcell, _⟩
  · simp [Value.cells] at hcs
    obtain ⟨rfl, rfl, rfl⟩ := hcs
    exact ⟨_, _, _, [], rfl, rfl, .inl rfl⟩
  · simp [Value.cells] at hcs
    obtain ⟨rfl, rfl, rfl⟩ := hcs
    have hz' : len ≤ zs.length := by
      try simp only [] at hz
      rw [hz]
      split <;> omega
    refine ⟨_, _, _, zs.take len, rfl, by simp; omega, ?_⟩
    by_cases h0 : len = 0
    · exact .inl h0
    · obtain ⟨b, off, rfl, hc⟩ := ints_at hcell (by omega)
      refine .inr ⟨b, off, rfl, fun k hk => ?_⟩
      rw [show (zs.take len).getD k 0 = zs.getD k 0 by simp [List.getD, List.getElem?_take, hk]]
      exact hc k (by omega)
end Go.Proofs.Ytbeefbmgbmgbfaa
