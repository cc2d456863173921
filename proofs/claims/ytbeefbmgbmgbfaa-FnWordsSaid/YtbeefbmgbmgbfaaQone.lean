/-
  A slice of integers copied into memory of its own: slices.Clone, and the model's own copy.
-/
import Derived.Test.YtbeefbmgbmgbfaaWfour
import Derived.Maps.AppendAt
import Derived.WalkSpells
namespace Go.Proofs.Ytbeefbmgbmgbfaa
open Go.ChangeShapes Go.WideShapes Go.ChangeAt Go.RowKit Go.Joins 
set_option linter.unusedSimpArgs false
set_option linter.unusedVariables false
/-- A block of the call's own that begins with these integers. -/
def IntBlk (W : World) (g : Nat) (z : List Int) : Prop := ∃ cur, Blk W g cur 3 ∧ z.length ≤ cur.size ∧ ∀ k, k < z.length → cur[k]? = some (.int .i64 (z.getD k 0))
theorem IntBlk.row {W : World} {g : Nat} {z : List Int} (h : IntBlk W g z) : IntRow W g z := by
  obtain ⟨cur, hb, _, hc⟩ := h
  exact fun k hk => (hb.cell k).trans (hc k hk)
theorem IntBlk.below {W w1 : World} {g : Nat} {z : List Int} (h : IntBlk W g z) (hb : Below W.heap.size W w1) : IntBlk w1 g z := by
  obtain ⟨cur, h1, h2⟩ := h
  exact ⟨cur, h1.below hb, h2⟩
theorem IntBlk.alloc {W : World} {g : Nat} {z : List Int} {o : Obj} (h : IntBlk W g z) : IntBlk (W.alloc o) g z := by
  obtain ⟨cur, h1, h2⟩ := h
  exact ⟨cur, h1.alloc, h2⟩
theorem IntBlk.other {W w1 : World} {g : Nat} {z : List Int} {r : Option Nat} (h : IntBlk W g z) (hg : W.grownBy w1 r) (hne : r ≠ some g) : IntBlk w1 g z := by
  obtain ⟨cur, h1, h2⟩ := h
  exact ⟨cur, (hg.block g h1.lt (fun q => hne q.symm)).trans h1, h2⟩
theorem IntBlk.lt {W : World} {g : Nat} {z : List Int} (h : IntBlk W g z) : g < W.heap.size := by
  obtain ⟨cur, h1, _⟩ := h
  exact h1.lt
theorem IntBlk.own {W : World} {B g n c : Nat} {z : List Int} (h : W.ownsRow B 3 1 (.slice (some ⟨g, 0, Option.none⟩) n c) n (z.map (Value.int .i64))) (hn : z.length = n) : IntBlk W g z := by
  have hcell := fun k (hk : k < z.length) => h.cellAt k (by omega)
  obtain ⟨_, h2⟩ := h
  rcases h2 with ⟨e, _⟩ | ⟨g', cap', cur, e, _, hb, hle, _, hs, _⟩
  · simp at e
  · simp only [Value.slice.injEq, Option.some.injEq, Addr.mk.injEq] at e
    obtain ⟨⟨rfl, _⟩, _, rfl⟩ := e
    have hb2 : Blk W g cur 3 := hb
    refine ⟨cur, hb2, by omega, fun k hk => ?_⟩
    rw [← hb2.cell k, hcell k hk]
    simp [List.getD, hk]

/-- What a copy gives: a row of the call's own. -/
def Copied (w : World) (z : List Int) (e : Ending) (w' : World) : Prop :=
  ∃ g c, e = .returned (.slice (some ⟨g, 0, Option.none⟩) z.length c) ∧ w'.ownsRow w.heap.size 3 1 (.slice (some ⟨g, 0, Option.none⟩) z.length c) z.length (z.map (Value.int .i64)) ∧ Below w.heap.size w w'

theorem copied_mk {w w1 w2 : World} {z : List Int} {v' : Value} (hown : w2.ownsRow w.heap.size 3 1 v' z.length (z.map (Value.int .i64))) (hn : v' ≠ .slice Option.none 0 0) (hb : Below w.heap.size w w2) : Copied w z (.returned v') w2 := by
  rcases ownsRow_forms hown with ⟨e, _⟩ | ⟨g, c, rfl⟩
  · exact absurd e hn
  · exact ⟨g, c, rfl, hown, hb⟩

set_option maxHeartbeats 4000000 in
set_option maxRecDepth 1000000 in
theorem l1Ints_s (g n cap : Nat) (z : List Int) (w : World) (hl : z.length = n) (hn : n ≤ 1000) (hz : IntRow w g z) :
    Calls Try.prog 66 #[.slice (some ⟨g, 0, Option.none⟩) n cap] w (Copied w z) := by
  obtain ⟨i0, hi, hz0, hz1, hz2⟩ := info_parts infoInt
  have HZ : Hid (IntRow w g z) := hz
  have HL : Hid (z.length = n) := hl
  clear hz hl
  go_enter Try.func66, Try.ntmps66
  go_wp2_with (at_builtin; go_loud (refine wpList_append_own _ rfl _ _ 34 rfl w.heap.size 3 i0 (.int .i64 0) 1 8 Try.underlying34 hi hz0 hz1 hz2 rfl (by decide) _ 0 [] rfl ?_ ⟨g, 0, Option.none⟩ n cap (z.map (Value.int .i64)) rfl ?_ ?_ ?_ ?_ ?_ ?_ ?_))
  · exact World.ownsRow_lit _ #[] 0 (by simp) (by unfold maxLen; omega) rfl
  · have := HL.out; simp; omega
  · intro j u hj
    have hjl : j < z.length := by
      have := (List.getElem?_eq_some_iff.1 hj).1
      simpa using this
    have hc := cAlloc (o := .cells #[] 3) (HZ.out j hjl)
    have e : (z.map (Value.int .i64))[j]? = some (.int .i64 (z.getD j 0)) := by simp [List.getD, hjl]
    rw [e] at hj
    cases hj
    rw [Go.WideShapes.add_plain, Nat.zero_add]
    exact hc
  · intro u hu
    obtain ⟨x, _, rfl⟩ := List.mem_map.1 hu
    rfl
  · unfold maxLen; omega
  · omega
  · first | omega | (simp only [World.size_alloc, World.size_setCell, World.size_drew]; omega)
  intro v' w2 hown' hgrow hvn
  have HC : Hid (Copied w z (.returned v') w2) := copied_mk (w1 := w) (by have := HL.out; rw [this]; exact hown') hvn (Below.grown (by (repeat' (first | (with_reducible exact Below.refl _ _) | (with_reducible assumption) | (with_reducible refine Below.alloc ?_ ?_ _) | (with_reducible refine Below.drew ?_) | (with_reducible refine Below.setCell ?_ ?_ _) | (with_reducible refine Below.trans ?_ (Below.mono (by assumption) ?_)) | (with_reducible exact Nat.le_refl _) | omega | (simp only [World.size_alloc, World.size_setCell, World.size_drew]; omega) | (simp; omega) | (simp; done)))) hgrow (by simp) (fun q hq => by cases hq; simp))
  clear hown' hgrow hvn
  go_wp2
  go_ret
  exact HC.out

set_option maxHeartbeats 4000000 in
set_option maxRecDepth 1000000 in
theorem clone_i (g n cap : Nat) (z : List Int) (w : World) (hl : z.length = n) (hn : n ≤ 1000) (hz : IntRow w g z) :
    Calls Try.prog 61 #[.slice (some ⟨g, 0, Option.none⟩) n cap] w (Copied w z) := by
  obtain ⟨i0, hi, hz0, hz1, hz2⟩ := info_parts infoInt
  have HZ : Hid (IntRow w g z) := hz
  have HL : Hid (z.length = n) := hl
  clear hz hl
  have hnil := fun (W : World) => Lib.run_eql_slice_nil (P := Try.prog) W 34 3 (some ⟨g, 0, Option.none⟩) n cap 0 0 Try.underlying34
  go_enter Try.func61, Try.ntmps61
  go_wp2_with (at_builtin; go_loud (refine wpList_append_own _ rfl _ _ 34 rfl w.heap.size 3 i0 (.int .i64 0) 1 8 Try.underlying34 hi hz0 hz1 hz2 rfl (by decide) _ 0 [] rfl ?_ ⟨g, 0, Option.none⟩ n cap (z.map (Value.int .i64)) rfl ?_ ?_ ?_ ?_ ?_ ?_ ?_))
  · exact World.ownsRow_lit _ #[] 0 (by simp) (by unfold maxLen; omega) rfl
  · have := HL.out; simp; omega
  · intro j u hj
    have hjl : j < z.length := by
      have := (List.getElem?_eq_some_iff.1 hj).1
      simpa using this
    have hc := cAlloc (o := .cells #[] 3) (HZ.out j hjl)
    have e : (z.map (Value.int .i64))[j]? = some (.int .i64 (z.getD j 0)) := by simp [List.getD, hjl]
    rw [e] at hj
    cases hj
    rw [Go.WideShapes.add_plain, Nat.zero_add]
    exact hc
  · intro u hu
    obtain ⟨x, _, rfl⟩ := List.mem_map.1 hu
    rfl
  · unfold maxLen; omega
  · omega
  · first | omega | (simp only [World.size_alloc, World.size_setCell, World.size_drew]; omega)
  intro v' w2 hown' hgrow hvn
  have HC : Hid (Copied w z (.returned v') w2) := copied_mk (w1 := w) (by have := HL.out; rw [this]; exact hown') hvn (Below.grown (by (repeat' (first | (with_reducible exact Below.refl _ _) | (with_reducible assumption) | (with_reducible refine Below.alloc ?_ ?_ _) | (with_reducible refine Below.drew ?_) | (with_reducible refine Below.setCell ?_ ?_ _) | (with_reducible refine Below.trans ?_ (Below.mono (by assumption) ?_)) | (with_reducible exact Nat.le_refl _) | omega | (simp only [World.size_alloc, World.size_setCell, World.size_drew]; omega) | (simp; omega) | (simp; done)))) hgrow (by simp) (fun q hq => by cases hq; simp))
  clear hown' hgrow hvn
  go_wp2
  go_ret
  exact HC.out
end Go.Proofs.Ytbeefbmgbmgbfaa
