/-
  Small lemmas on worlds: what was there is there still.
-/
import Derived.Test.YtfdgijmmgllmgaaLift
namespace Go.Proofs.Ytfdgijmmgllmgaa
open Go.ChangeShapes Go.WideShapes Go.ChangeAt Go.RowKit Go.Joins 
set_option linter.unusedSimpArgs false
set_option linter.unusedVariables false

theorem bcell {B : Nat} {W w1 : World} (hb : Below B W w1) : (∀ b o, b < B → w1.cell? ⟨b, o, Option.none⟩ = W.cell? ⟨b, o, Option.none⟩) ∧ (∀ b o, b < B → w1.frozen? ⟨b, o, Option.none⟩ = W.frozen? ⟨b, o, Option.none⟩) :=
  ⟨fun b o h => hb.cell (p := ⟨b, o, Option.none⟩) h, fun b o h => hb.frozen (p := ⟨b, o, Option.none⟩) h⟩

/-- Block numbers that lie in a world: what the walk is told of the blocks of a call's own. -/
def AllLt : List Nat → World → Prop
  | [], _ => True
  | x :: l, W => x < W.heap.size ∧ AllLt l W
theorem AllLt.nil (W : World) : AllLt [] W := trivial
theorem AllLt.grow : ∀ {l : List Nat} {W w1 : World}, AllLt l W → W.heap.size ≤ w1.heap.size → AllLt l w1
  | [], _, _, _, _ => trivial
  | _ :: _, _, _, h, hs => ⟨Nat.lt_of_lt_of_le h.1 hs, AllLt.grow h.2 hs⟩
theorem AllLt.alloc {l : List Nat} {W : World} {o : Obj} (h : AllLt l W) : AllLt (W.heap.size :: l) (W.alloc o) := by
  refine ⟨?_, h.grow ?_⟩ <;> simp
theorem AllLt.setCell {l : List Nat} {W : World} {a : Addr} {v : Value} (h : AllLt l W) : AllLt l (W.setCell a v) := h.grow (by simp)
theorem AllLt.drew {l : List Nat} {W : World} (h : AllLt l W) : AllLt l W.drew := h.grow (Nat.le_refl _)
theorem keepL {l : List Nat} {B : Nat} {W w1 : World} (h : AllLt l W) (hb : Below B W w1) : AllLt l w1 := h.grow hb.size

theorem cell_lt {w : World} {b i : Nat} {v : Value} (h : w.cell? ⟨b, i, Option.none⟩ = some v) : b < w.heap.size := by
  unfold World.cell? at h
  dsimp only at h
  cases hb : w.heap[b]? with
  | none => simp [hb] at h
  | some o => exact (Array.getElem?_eq_some_iff.1 hb).1

/-! A cell that holds something holds it still. -/
theorem cAlloc {w : World} {b i : Nat} {v : Value} {o : Obj} (h : w.cell? ⟨b, i, Option.none⟩ = some v) : (w.alloc o).cell? ⟨b, i, Option.none⟩ = some v := by
  rw [World.cell?_alloc_lt (h := cell_lt h)]
  exact h
theorem cDrew {w : World} {b i : Nat} {v : Value} (h : w.cell? ⟨b, i, Option.none⟩ = some v) : w.drew.cell? ⟨b, i, Option.none⟩ = some v := h
theorem cBelow {W w1 : World} {b i : Nat} {v : Value} (hb : Below W.heap.size W w1) (h : W.cell? ⟨b, i, Option.none⟩ = some v) : w1.cell? ⟨b, i, Option.none⟩ = some v := by
  rw [hb.cell (cell_lt h)]
  exact h
theorem cSet {w : World} {b i : Nat} {v u : Value} {p : Addr} (hn : b ≠ p.block) (h : w.cell? ⟨b, i, Option.none⟩ = some v) : (w.setCell p u).cell? ⟨b, i, Option.none⟩ = some v := by
  rw [World.cell?_setCell_other (h := fun e => hn (by rw [e]))]
  exact h

theorem cSetOff {w : World} {b i : Nat} {v u : Value} {p : Addr} (hn : i ≠ p.off) (h : w.cell? ⟨b, i, Option.none⟩ = some v) : (w.setCell p u).cell? ⟨b, i, Option.none⟩ = some v := by
  rw [World.cell?_setCell_other (h := fun e => hn (by rw [e]))]
  exact h
theorem some_lt {w : World} {b i : Nat} (h : (w.cell? ⟨b, i, Option.none⟩).isSome = true) : b < w.heap.size := by
  obtain ⟨u, h⟩ := Option.isSome_iff_exists.1 h
  exact cell_lt h
theorem sAlloc {w : World} {b i : Nat} {o : Obj} (h : (w.cell? ⟨b, i, Option.none⟩).isSome = true) : ((w.alloc o).cell? ⟨b, i, Option.none⟩).isSome = true := by
  rw [World.cell?_alloc_lt (h := some_lt h)]
  exact h
theorem sDrew {w : World} {b i : Nat} (h : (w.cell? ⟨b, i, Option.none⟩).isSome = true) : (w.drew.cell? ⟨b, i, Option.none⟩).isSome = true := h
theorem sBelow {W w1 : World} {b i : Nat} (hb : Below W.heap.size W w1) (h : (W.cell? ⟨b, i, Option.none⟩).isSome = true) : (w1.cell? ⟨b, i, Option.none⟩).isSome = true := by
  rw [hb.cell (some_lt h)]
  exact h
theorem sSet {w : World} {b i : Nat} {u : Value} {p : Addr} (hn : ¬ (b = p.block ∧ i = p.off)) (h : (w.cell? ⟨b, i, Option.none⟩).isSome = true) : ((w.setCell p u).cell? ⟨b, i, Option.none⟩).isSome = true := by
  rw [World.cell?_setCell_other (h := fun e => hn (by rw [e]; exact ⟨rfl, rfl⟩))]
  exact h
theorem cNewAt {w : World} {n i : Nat} {c : Array Value} {t : TypeId} {v : Value} (hn : n = w.heap.size) (h : c[i]? = some v) : (w.alloc (.cells c t)).cell? ⟨n, i, Option.none⟩ = some v := by
  rw [World.cell?_alloc_at (hn := hn)]
  exact h
theorem sNewAt {w : World} {n i : Nat} {c : Array Value} {t : TypeId} (hn : n = w.heap.size) (h : c[i]?.isSome = true) : ((w.alloc (.cells c t)).cell? ⟨n, i, Option.none⟩).isSome = true := by
  rw [World.cell?_alloc_at (hn := hn)]
  exact h
theorem cSame {w : World} {b i : Nat} {v : Value} (h : (w.cell? ⟨b, i, Option.none⟩).isSome = true) : (w.setCell ⟨b, i, Option.none⟩ v).cell? ⟨b, i, Option.none⟩ = some v := by
  obtain ⟨u, h⟩ := Option.isSome_iff_exists.1 h
  exact World.cell?_setCell_same w _ v h
/-- A row that the call owns is owned still. -/
theorem ownsBelow {W w1 : World} {base : Nat} {e : TypeId} {size : Nat} {v : Value} {n : Nat} {xs : List Value} (hb : Below W.heap.size W w1) (h : W.ownsRow base e size v n xs) : w1.ownsRow base e size v n xs := by
  obtain ⟨h1, h2⟩ := h
  refine ⟨h1, ?_⟩
  rcases h2 with h2 | ⟨g, cap, cur, e1, e2, e3, e4⟩
  · exact .inl h2
  · exact .inr ⟨g, cap, cur, e1, e2, by rw [hb.block g (Array.getElem?_eq_some_iff.1 e3).1]; exact e3, e4⟩
end Go.Proofs.Ytfdgijmmgllmgaa
