/-
  A cursor through what a walk does beside it.
-/
import Derived.Test.YtfdgijmmgllmgaaDone
namespace Go.Proofs.Ytfdgijmmgllmgaa
open Go.ChangeShapes Go.WideShapes Go.ChangeAt Go.RowKit Go.Joins 
set_option linter.unusedSimpArgs false
set_option linter.unusedVariables false
set_option maxRecDepth 100000

theorem grown_alloc {w w1 : World} {r : Option Nat} (h : w.grownBy w1 r) (o : Obj) : w.grownBy (w1.alloc o) r :=
  ⟨h.os, h.tape, h.output, Nat.le_trans h.size (by simp), fun i hi hne => (Below.heap_alloc w1 o i (Nat.lt_of_lt_of_le hi h.size)).trans (h.block i hi hne)⟩
theorem grown_setNew {w w1 : World} {r : Option Nat} (h : w.grownBy w1 r) {p : Addr} (hp : w.heap.size ≤ p.block) (v : Value) : w.grownBy (w1.setCell p v) r :=
  ⟨h.os, h.tape, h.output, Nat.le_trans h.size (by simp), fun i hi hne => (Below.heap_setCell w1 p v i (by omega)).trans (h.block i hi hne)⟩
theorem Cur.alloc {B q : Nat} {W : World} {o : Obj} (h : Cur B W q) : Cur B (W.alloc o) q := h.below (by (repeat' (first | (with_reducible exact Below.refl _ _) | (with_reducible assumption) | (with_reducible refine Below.alloc ?_ ?_ _) | (with_reducible refine Below.drew ?_) | (with_reducible refine Below.setCell ?_ ?_ _) | (with_reducible refine Below.trans ?_ (Below.mono (by assumption) ?_)) | (with_reducible exact Nat.le_refl _) | omega | (simp only [World.size_alloc, World.size_setCell, World.size_drew]; omega) | (simp; omega) | (simp; done))))
theorem Cur.lt {B q : Nat} {W : World} (h : Cur B W q) : q < W.heap.size := by
  obtain ⟨_, _, _, _, _, _, h1, _⟩ := h
  exact h1.lt
theorem Cur.ge {B q : Nat} {W : World} (h : Cur B W q) : B ≤ q := by
  obtain ⟨_, _, _, _, _, _, _, _, _, _, h5⟩ := h
  exact h5

theorem ByteRow.mono {W : World} {B B' : Nat} {a : Option Addr} {len : Nat} {bs : List Int} (h : ByteRow W B a len bs) (hB : B ≤ B') : ByteRow W B' a len bs := by
  rcases h with h | ⟨b, off, e, hlt, h⟩
  · exact .inl h
  · exact .inr ⟨b, off, e, by omega, h⟩

theorem Cur.set {B q : Nat} {W : World} {a : Addr} {v : Value} (h : Cur B W q) (ha : q < a.block) : Cur B (W.setCell a v) q := by
  obtain ⟨s, len, cap, bs, i, hh, h1, h2, h3, h4, h5⟩ := h
  exact ⟨s, len, cap, bs, i, hh, h1.other (by omega), h2, h3, h4.of (by refine Below.setCell (Below.refl _ _) ?_ _; omega), h5⟩

end Go.Proofs.Ytfdgijmmgllmgaa
