/-
  A block whose cells are all known.
-/
import Derived.Test.YtfdgijmmgllmgaaKit
namespace Go.Proofs.Ytfdgijmmgllmgaa
open Go.ChangeShapes Go.WideShapes Go.ChangeAt Go.RowKit Go.Joins 
set_option linter.unusedSimpArgs false
set_option linter.unusedVariables false
/-- A block whose cells are all known. -/
def Blk (W : World) (b : Nat) (cs : Array Value) (t : TypeId) : Prop := W.heap[b]? = some (.cells cs t (0, 0))
theorem Blk.lt {W : World} {b : Nat} {cs : Array Value} {t : TypeId} (h : Blk W b cs t) : b < W.heap.size := (Array.getElem?_eq_some_iff.1 h).1
theorem Blk.below {W w1 : World} {b : Nat} {cs : Array Value} {t : TypeId} (h : Blk W b cs t) (hb : Below W.heap.size W w1) : Blk w1 b cs t := (hb.block b h.lt).trans h
theorem Blk.drew {W : World} {b : Nat} {cs : Array Value} {t : TypeId} (h : Blk W b cs t) : Blk W.drew b cs t := h
theorem Blk.alloc {W : World} {b : Nat} {cs : Array Value} {t : TypeId} {o : Obj} (h : Blk W b cs t) : Blk (W.alloc o) b cs t := (Below.heap_alloc _ _ _ h.lt).trans h
theorem Blk.new (W : World) (cs : Array Value) (t : TypeId) : Blk (W.alloc (.cells cs t)) W.heap.size cs t := by
  show (W.heap.push _)[W.heap.size]? = _
  simp
theorem Blk.set {W : World} {b i : Nat} {cs : Array Value} {t : TypeId} {v : Value} (h : Blk W b cs t) : Blk (W.setCell ⟨b, i, Option.none⟩ v) b (cs.setIfInBounds i v) t := block_setCell h v
theorem Blk.other {W : World} {b : Nat} {a : Addr} {cs : Array Value} {t : TypeId} {v : Value} (h : Blk W b cs t) (hne : b ≠ a.block) : Blk (W.setCell a v) b cs t := (Below.heap_setCell _ _ _ _ hne).trans h
theorem Blk.cell {W : World} {b : Nat} {cs : Array Value} {t : TypeId} (h : Blk W b cs t) (i : Nat) : W.cell? ⟨b, i, Option.none⟩ = cs[i]? := cell_of_block h i
theorem Blk.free {W : World} {b : Nat} {cs : Array Value} {t : TypeId} (h : Blk W b cs t) (i : Nat) : W.frozen? ⟨b, i, Option.none⟩ = false := unfrozen_of_block h i
theorem Blk.newAt {W : World} {cs : Array Value} {t : TypeId} {b : Nat} (h : b = W.heap.size) : Blk (W.alloc (.cells cs t)) b cs t := by subst h; exact Blk.new _ _ _
theorem Blk.cellAt {W : World} {b i : Nat} {cs : Array Value} {t : TypeId} {v : Value} (h : Blk W b cs t) (hv : cs[i]? = some v) : W.cell? ⟨b, i, Option.none⟩ = some v := (h.cell i).trans hv
theorem Blk.freeAt {W : World} {b i : Nat} {cs : Array Value} {t : TypeId} (h : Blk W b cs t) : W.frozen? ⟨b, i, Option.none⟩ = false := h.free i
theorem Blk.belowAt {W w1 : World} {b : Nat} {cs : Array Value} {t : TypeId} (hb : Below W.heap.size W w1) (h : Blk W b cs t) : Blk w1 b cs t := h.below hb
theorem Blk.setAt {W : World} {b b' i : Nat} {cs cs' : Array Value} {t : TypeId} {v : Value} (hb : b' = b) (h : Blk W b cs t) (hc : cs' = cs.setIfInBounds i v) : Blk (W.setCell ⟨b', i, Option.none⟩ v) b cs' t := by
  subst hb hc; exact h.set
theorem Blk.grown {W w1 : World} {b q : Nat} {cs : Array Value} {t : TypeId} (h : Blk W b cs t) (hg : W.grownBy w1 (some q)) (hne : b ≠ q) : Blk w1 b cs t :=
  (hg.block b h.lt (fun e => hne (Option.some.inj e))).trans h
end Go.Proofs.Ytfdgijmmgllmgaa
