/-
  Draws that every chapter makes: does it happen; a text of a list.
-/
import Derived.Test.YticknelhfeeejaaDoorDone
namespace Go.Proofs.YticknelhfeeejaaDoor
open Go.ChangeShapes Go.WideShapes Go.ChangeAt Go.RowKit Go.Joins 
set_option linter.unusedSimpArgs false
set_option linter.unusedVariables false
set_option maxRecDepth 100000

theorem grown_alloc {w w1 : World} {r : Option Nat} (h : w.grownBy w1 r) (o : Obj) : w.grownBy (w1.alloc o) r :=
  ⟨h.os, h.tape, h.output, Nat.le_trans h.size (by simp), fun i hi hne => (Below.heap_alloc w1 o i (Nat.lt_of_lt_of_le hi h.size)).trans (h.block i hi hne)⟩
theorem grown_setNew {w w1 : World} {r : Option Nat} (h : w.grownBy w1 r) {p : Addr} (hp : w.heap.size ≤ p.block) (v : Value) : w.grownBy (w1.setCell p v) r :=
  ⟨h.os, h.tape, h.output, Nat.le_trans h.size (by simp), fun i hi hne => (Below.heap_setCell w1 p v i (by omega)).trans (h.block i hi hne)⟩
theorem Cur.alloc {B q : Nat} {W : World} {o : Obj} (h : Cur B W q) : Cur B (W.alloc o) q := h.below (by (repeat' (first | (with_reducible exact Below.refl _ _) | (with_reducible assumption) | (with_reducible refine Below.alloc ?_ ?_ _) | (with_reducible refine Below.drew ?_) | (with_reducible refine Below.setCell ?_ ?_ _) | (with_reducible refine Below.trans ?_ (Below.mono (by assumption) ?_)) | (with_reducible exact Nat.le_refl _) | omega | (simp only [World.size_alloc, World.size_setCell, World.size_drew]; omega) | (simp; omega) | (simp; done))))
theorem Cur.lt {B q : Nat} {W : World} (h : Cur B W q) : q < W.heap.size := by
  obtain ⟨_, _, _, _, _, _, h1, _⟩ := h
  exact h1.lt
theorem Cur.ge {B q : Nat} {W : World} (h : Cur B W q) : B ≤ q := by
  obtain ⟨_, _, _, _, _, _, _, _, _, _, h5⟩ := h
  exact h5

/-- What is drawn of a cursor, behind a name: so that no walk looks into it. -/
structure OnceDrawn (B q : Nat) (w : World) (e : Ending) (w' : World) (t : Bool) : Prop where
  ret : e = .returned (.bool t)
  cur : Cur B w' q
  grown : w.grownBy w' (some q)
theorem l1Once_s (B q : Nat) (n : Int) (w : World) (hcur : Cur B w q) (h1 : 1 ≤ n) (h2 : n ≤ 256) :
    Calls Tryd.prog 19 #[.pointer (some ⟨q, 0, Option.none⟩), .int .i64 n] w fun e w' => ∃ t : Bool, OnceDrawn B q w e w' t := by
  have HC : Hid (Cur B w q) := hcur
  clear hcur
  go_enter Tryd.func19, Tryd.ntmps19
  go_wp2_with fail
  refine (l1Below_s B q n _ HC.out h1 h2).mono ?_
  rintro e w1 ⟨x, rfl, hx0, hx1, hc1, hg1⟩
  have HC1 : Hid (Cur B w1 q) := hc1
  have HG1 : Hid (w.grownBy w1 (some q)) := hg1
  clear hc1 hg1
  go_wp2
  go_ret
  exact ⟨_, rfl, HC1.out, HG1.out⟩

theorem ByteRow.mono {W : World} {B B' : Nat} {a : Option Addr} {len : Nat} {bs : List Int} (h : ByteRow W B a len bs) (hB : B ≤ B') : ByteRow W B' a len bs := by
  rcases h with h | ⟨b, off, e, hlt, h⟩
  · exact .inl h
  · exact .inr ⟨b, off, e, by omega, h⟩

end Go.Proofs.YticknelhfeeejaaDoor
