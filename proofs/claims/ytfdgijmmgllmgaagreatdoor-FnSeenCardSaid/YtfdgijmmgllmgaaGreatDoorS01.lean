/-
  Texts Lift Kit Bone Grow Done Dcur Fa, joined.
-/
import Derived.Test.YtfdgijmmgllmgaaGreatDoorRows
import Derived.WalkKit
import Derived.ProofKit
import Derived.OpenShut
import Derived.ShutString
import Derived.ChangeOld
import Derived.Below
import Derived.Carry
import Derived.Lib.SmallJoins
import Derived.Handy
import Derived.Deep.QuietTactic
import Derived.BigQuiet
import Derived.WalkLawsBesides
namespace Go.Proofs.YtfdgijmmgllmgaaGreatDoor
open Go.ChangeShapes Go.WideShapes Go.ChangeAt Go.RowKit
theorem own : ownKnob Tryz.prog.godebug = Option.none := by kernel_rfl
theorem laidOut : laidOutB Tryz.prog = true := by kernel_rfl
section
variable {H : Type} {enc : TypeId × Value → H} {P : Program}
theorem trodAll_below (hl : laidOutB P = true) {W W' : World} (hb : Below W.heap.size W W') :
    ∀ (ts : List TypeId) {vs : List Value} {ds : List (DataW H)} {ps : List MemPlace}, (∀ t ∈ ts, P.readableRec t = true ∧ t < P.types.size) →
      DataW.TrodAll enc P W 0 (fun _ => true) true ts vs ds ps → (∀ x ∈ ps, x.block < W.heap.size) → DataW.TrodAll enc P W' 0 (fun b => decide (b < W.heap.size)) true ts vs ds ps
  | [], _, _, _, _, h, _ => by
    obtain ⟨rfl, rfl, rfl⟩ := trodAll_nil h
    exact trodAll_mk0
  | t :: ts, _, _, _, hr, h, hlt => by
    obtain ⟨v, vs', d, ds', p, q, rfl, rfl, rfl, h0, h1⟩ := trodAll_cons h
    exact trodAll_cons_mk (Below.trod hl (hr t (by simp)).1 (hr t (by simp)).2 h0 hb (fun x hx => hlt x (by simp [hx])))
      (trodAll_below hl hb ts (fun t ht => hr t (by simp [ht])) h1 (fun x hx => hlt x (by simp [hx])))
theorem trodAll_len : ∀ {ts : List TypeId} {W : World} {base : Nat} {spare : Nat → Bool} {held : Bool} {vs : List Value} {ds : List (DataW H)} {ps : List MemPlace}, DataW.TrodAll enc P W base spare held ts vs ds ps → ds.length = ts.length
  | [], _, _, _, _, _, _, _, h => by
    obtain ⟨_, rfl, _⟩ := trodAll_nil h
    rfl
  | t :: ts, _, _, _, _, _, _, _, h => by
    obtain ⟨v, vs', d, ds', p, q, rfl, rfl, rfl, h0, h1⟩ := trodAll_cons h
    simp [trodAll_len h1]
end
end Go.Proofs.YtfdgijmmgllmgaaGreatDoor
namespace Go.Proofs.YtfdgijmmgllmgaaGreatDoor
open Go.ChangeShapes Go.WideShapes Go.ChangeAt Go.RowKit Go.Joins 
set_option linter.unusedSimpArgs false
set_option linter.unusedVariables false
theorem bcell {B : Nat} {W w1 : World} (hb : Below B W w1) : (∀ b o, b < B → w1.cell? ⟨b, o, Option.none⟩ = W.cell? ⟨b, o, Option.none⟩) ∧ (∀ b o, b < B → w1.frozen? ⟨b, o, Option.none⟩ = W.frozen? ⟨b, o, Option.none⟩) :=
  ⟨fun b o h => hb.cell (p := ⟨b, o, Option.none⟩) h, fun b o h => hb.frozen (p := ⟨b, o, Option.none⟩) h⟩
def AllLt : List Nat → World → Prop
  | [], _ => True
  | x :: l, W => x < W.heap.size ∧ AllLt l W
theorem AllLt.nil (W : World) : AllLt [] W := trivial
theorem AllLt.grow : ∀ {l : List Nat} {W w1 : World}, AllLt l W → W.heap.size ≤ w1.heap.size → AllLt l w1
  | [], _, _, _, _ => trivial
  | _ :: _, _, _, h, hs => ⟨Nat.lt_of_lt_of_le h.1 hs, AllLt.grow h.2 hs⟩
theorem AllLt.alloc {l : List Nat} {W : World} {o : Obj} (h : AllLt l W) : AllLt (W.heap.size :: l) (W.alloc o) := by
  refine ⟨?_, h.grow ?_⟩ <;> simp
theorem AllLt.setCell {l : List Nat} {W : World} {a : Addr} {v : Value} (h : AllLt l W) : AllLt l (W.setCell a v) := h.grow (by simp)
theorem AllLt.drew {l : List Nat} {W : World} (h : AllLt l W) : AllLt l W.drew := h.grow (Nat.le_refl _)
theorem keepL {l : List Nat} {B : Nat} {W w1 : World} (h : AllLt l W) (hb : Below B W w1) : AllLt l w1 := h.grow hb.size
theorem cell_lt {w : World} {b i : Nat} {v : Value} (h : w.cell? ⟨b, i, Option.none⟩ = some v) : b < w.heap.size := by
  unfold World.cell? at h
  dsimp only at h
  cases hb : w.heap[b]? with
  | none => simp [hb] at h
  | some o => exact (Array.getElem?_eq_some_iff.1 hb).1
theorem cAlloc {w : World} {b i : Nat} {v : Value} {o : Obj} (h : w.cell? ⟨b, i, Option.none⟩ = some v) : (w.alloc o).cell? ⟨b, i, Option.none⟩ = some v := by
  rw [World.cell?_alloc_lt (h := cell_lt h)]
  exact h
theorem cDrew {w : World} {b i : Nat} {v : Value} (h : w.cell? ⟨b, i, Option.none⟩ = some v) : w.drew.cell? ⟨b, i, Option.none⟩ = some v := h
theorem cBelow {W w1 : World} {b i : Nat} {v : Value} (hb : Below W.heap.size W w1) (h : W.cell? ⟨b, i, Option.none⟩ = some v) : w1.cell? ⟨b, i, Option.none⟩ = some v := by
  rw [hb.cell (cell_lt h)]
  exact h
theorem cSet {w : World} {b i : Nat} {v u : Value} {p : Addr} (hn : b ≠ p.block) (h : w.cell? ⟨b, i, Option.none⟩ = some v) : (w.setCell p u).cell? ⟨b, i, Option.none⟩ = some v := by
  rw [World.cell?_setCell_other (h := fun e => hn (by rw [e]))]
  exact h
theorem cSetOff {w : World} {b i : Nat} {v u : Value} {p : Addr} (hn : i ≠ p.off) (h : w.cell? ⟨b, i, Option.none⟩ = some v) : (w.setCell p u).cell? ⟨b, i, Option.none⟩ = some v := by
  rw [World.cell?_setCell_other (h := fun e => hn (by rw [e]))]
  exact h
theorem some_lt {w : World} {b i : Nat} (h : (w.cell? ⟨b, i, Option.none⟩).isSome = true) : b < w.heap.size := by
  obtain ⟨u, h⟩ := Option.isSome_iff_exists.1 h
  exact cell_lt h
theorem sAlloc {w : World} {b i : Nat} {o : Obj} (h : (w.cell? ⟨b, i, Option.none⟩).isSome = true) : ((w.alloc o).cell? ⟨b, i, Option.none⟩).isSome = true := by
  rw [World.cell?_alloc_lt (h := some_lt h)]
  exact h
theorem sDrew {w : World} {b i : Nat} (h : (w.cell? ⟨b, i, Option.none⟩).isSome = true) : (w.drew.cell? ⟨b, i, Option.none⟩).isSome = true := h
theorem sBelow {W w1 : World} {b i : Nat} (hb : Below W.heap.size W w1) (h : (W.cell? ⟨b, i, Option.none⟩).isSome = true) : (w1.cell? ⟨b, i, Option.none⟩).isSome = true := by
  rw [hb.cell (some_lt h)]
  exact h
theorem sSet {w : World} {b i : Nat} {u : Value} {p : Addr} (hn : ¬ (b = p.block ∧ i = p.off)) (h : (w.cell? ⟨b, i, Option.none⟩).isSome = true) : ((w.setCell p u).cell? ⟨b, i, Option.none⟩).isSome = true := by
  rw [World.cell?_setCell_other (h := fun e => hn (by rw [e]; exact ⟨rfl, rfl⟩))]
  exact h
theorem cNewAt {w : World} {n i : Nat} {c : Array Value} {t : TypeId} {v : Value} (hn : n = w.heap.size) (h : c[i]? = some v) : (w.alloc (.cells c t)).cell? ⟨n, i, Option.none⟩ = some v := by
  rw [World.cell?_alloc_at (hn := hn)]
  exact h
theorem sNewAt {w : World} {n i : Nat} {c : Array Value} {t : TypeId} (hn : n = w.heap.size) (h : c[i]?.isSome = true) : ((w.alloc (.cells c t)).cell? ⟨n, i, Option.none⟩).isSome = true := by
  rw [World.cell?_alloc_at (hn := hn)]
  exact h
theorem cSame {w : World} {b i : Nat} {v : Value} (h : (w.cell? ⟨b, i, Option.none⟩).isSome = true) : (w.setCell ⟨b, i, Option.none⟩ v).cell? ⟨b, i, Option.none⟩ = some v := by
  obtain ⟨u, h⟩ := Option.isSome_iff_exists.1 h
  exact World.cell?_setCell_same w _ v h
theorem ownsBelow {W w1 : World} {base : Nat} {e : TypeId} {size : Nat} {v : Value} {n : Nat} {xs : List Value} (hb : Below W.heap.size W w1) (h : W.ownsRow base e size v n xs) : w1.ownsRow base e size v n xs := by
  obtain ⟨h1, h2⟩ := h
  refine ⟨h1, ?_⟩
  rcases h2 with h2 | ⟨g, cap, cur, e1, e2, e3, e4⟩
  · exact .inl h2
  · exact .inr ⟨g, cap, cur, e1, e2, by rw [hb.block g (Array.getElem?_eq_some_iff.1 e3).1]; exact e3, e4⟩
end Go.Proofs.YtfdgijmmgllmgaaGreatDoor
namespace Go.Proofs.YtfdgijmmgllmgaaGreatDoor
open Go.ChangeShapes Go.WideShapes Go.ChangeAt Go.RowKit Go.Joins 
set_option linter.unusedSimpArgs false
set_option linter.unusedVariables false
def Blk (W : World) (b : Nat) (cs : Array Value) (t : TypeId) : Prop := W.heap[b]? = some (.cells cs t (0, 0))
theorem Blk.lt {W : World} {b : Nat} {cs : Array Value} {t : TypeId} (h : Blk W b cs t) : b < W.heap.size := (Array.getElem?_eq_some_iff.1 h).1
theorem Blk.below {W w1 : World} {b : Nat} {cs : Array Value} {t : TypeId} (h : Blk W b cs t) (hb : Below W.heap.size W w1) : Blk w1 b cs t := (hb.block b h.lt).trans h
theorem Blk.drew {W : World} {b : Nat} {cs : Array Value} {t : TypeId} (h : Blk W b cs t) : Blk W.drew b cs t := h
theorem Blk.alloc {W : World} {b : Nat} {cs : Array Value} {t : TypeId} {o : Obj} (h : Blk W b cs t) : Blk (W.alloc o) b cs t := (Below.heap_alloc _ _ _ h.lt).trans h
theorem Blk.new (W : World) (cs : Array Value) (t : TypeId) : Blk (W.alloc (.cells cs t)) W.heap.size cs t := by
  show (W.heap.push _)[W.heap.size]? = _
  simp
theorem Blk.set {W : World} {b i : Nat} {cs : Array Value} {t : TypeId} {v : Value} (h : Blk W b cs t) : Blk (W.setCell ⟨b, i, Option.none⟩ v) b (cs.setIfInBounds i v) t := block_setCell h v
theorem Blk.other {W : World} {b : Nat} {a : Addr} {cs : Array Value} {t : TypeId} {v : Value} (h : Blk W b cs t) (hne : b ≠ a.block) : Blk (W.setCell a v) b cs t := (Below.heap_setCell _ _ _ _ hne).trans h
theorem Blk.cell {W : World} {b : Nat} {cs : Array Value} {t : TypeId} (h : Blk W b cs t) (i : Nat) : W.cell? ⟨b, i, Option.none⟩ = cs[i]? := cell_of_block h i
theorem Blk.free {W : World} {b : Nat} {cs : Array Value} {t : TypeId} (h : Blk W b cs t) (i : Nat) : W.frozen? ⟨b, i, Option.none⟩ = false := unfrozen_of_block h i
theorem Blk.newAt {W : World} {cs : Array Value} {t : TypeId} {b : Nat} (h : b = W.heap.size) : Blk (W.alloc (.cells cs t)) b cs t := by subst h; exact Blk.new _ _ _
theorem Blk.cellAt {W : World} {b i : Nat} {cs : Array Value} {t : TypeId} {v : Value} (h : Blk W b cs t) (hv : cs[i]? = some v) : W.cell? ⟨b, i, Option.none⟩ = some v := (h.cell i).trans hv
theorem Blk.freeAt {W : World} {b i : Nat} {cs : Array Value} {t : TypeId} (h : Blk W b cs t) : W.frozen? ⟨b, i, Option.none⟩ = false := h.free i
theorem Blk.belowAt {W w1 : World} {b : Nat} {cs : Array Value} {t : TypeId} (hb : Below W.heap.size W w1) (h : Blk W b cs t) : Blk w1 b cs t := h.below hb
theorem Blk.setAt {W : World} {b b' i : Nat} {cs cs' : Array Value} {t : TypeId} {v : Value} (hb : b' = b) (h : Blk W b cs t) (hc : cs' = cs.setIfInBounds i v) : Blk (W.setCell ⟨b', i, Option.none⟩ v) b cs' t := by
  subst hb hc; exact h.set
theorem Blk.grown {W w1 : World} {b q : Nat} {cs : Array Value} {t : TypeId} (h : Blk W b cs t) (hg : W.grownBy w1 (some q)) (hne : b ≠ q) : Blk w1 b cs t :=
  (hg.block b h.lt (fun e => hne (Option.some.inj e))).trans h
theorem blk4 {W : World} {P : Nat} {T : TypeId} {v0 v1 v2 v3 : Value} (h : Blk W P #[v0, v1, v2, v3] T) : W.cell? ⟨P, 0, Option.none⟩ = some v0 ∧ W.cell? ⟨P, 1, Option.none⟩ = some v1 ∧ W.cell? ⟨P, 2, Option.none⟩ = some v2 ∧ W.cell? ⟨P, 3, Option.none⟩ = some v3 :=
  ⟨Blk.cellAt (i := 0) h rfl, Blk.cellAt (i := 1) h rfl, Blk.cellAt (i := 2) h rfl, Blk.cellAt (i := 3) h rfl⟩
theorem blk7 {W : World} {P : Nat} {T : TypeId} {v0 v1 v2 v3 v4 v5 v6 : Value} (h : Blk W P #[v0, v1, v2, v3, v4, v5, v6] T) : W.cell? ⟨P, 0, Option.none⟩ = some v0 ∧ W.cell? ⟨P, 1, Option.none⟩ = some v1 ∧ W.cell? ⟨P, 2, Option.none⟩ = some v2 ∧ W.cell? ⟨P, 3, Option.none⟩ = some v3 ∧ W.cell? ⟨P, 4, Option.none⟩ = some v4 ∧ W.cell? ⟨P, 5, Option.none⟩ = some v5 ∧ W.cell? ⟨P, 6, Option.none⟩ = some v6 :=
  ⟨Blk.cellAt (i := 0) h rfl, Blk.cellAt (i := 1) h rfl, Blk.cellAt (i := 2) h rfl, Blk.cellAt (i := 3) h rfl, Blk.cellAt (i := 4) h rfl, Blk.cellAt (i := 5) h rfl, Blk.cellAt (i := 6) h rfl⟩
theorem blk12 {W : World} {P : Nat} {T : TypeId} {v0 v1 v2 v3 v4 v5 v6 v7 v8 v9 v10 v11 : Value} (h : Blk W P #[v0, v1, v2, v3, v4, v5, v6, v7, v8, v9, v10, v11] T) : W.cell? ⟨P, 0, Option.none⟩ = some v0 ∧ W.cell? ⟨P, 1, Option.none⟩ = some v1 ∧ W.cell? ⟨P, 2, Option.none⟩ = some v2 ∧ W.cell? ⟨P, 3, Option.none⟩ = some v3 ∧ W.cell? ⟨P, 4, Option.none⟩ = some v4 ∧ W.cell? ⟨P, 5, Option.none⟩ = some v5 ∧ W.cell? ⟨P, 6, Option.none⟩ = some v6 ∧ W.cell? ⟨P, 7, Option.none⟩ = some v7 ∧ W.cell? ⟨P, 8, Option.none⟩ = some v8 ∧ W.cell? ⟨P, 9, Option.none⟩ = some v9 ∧ W.cell? ⟨P, 10, Option.none⟩ = some v10 ∧ W.cell? ⟨P, 11, Option.none⟩ = some v11 :=
  ⟨Blk.cellAt (i := 0) h rfl, Blk.cellAt (i := 1) h rfl, Blk.cellAt (i := 2) h rfl, Blk.cellAt (i := 3) h rfl, Blk.cellAt (i := 4) h rfl, Blk.cellAt (i := 5) h rfl, Blk.cellAt (i := 6) h rfl, Blk.cellAt (i := 7) h rfl, Blk.cellAt (i := 8) h rfl, Blk.cellAt (i := 9) h rfl, Blk.cellAt (i := 10) h rfl, Blk.cellAt (i := 11) h rfl⟩
theorem blk13 {W : World} {P : Nat} {T : TypeId} {v0 v1 v2 v3 v4 v5 v6 v7 v8 v9 v10 v11 v12 : Value} (h : Blk W P #[v0, v1, v2, v3, v4, v5, v6, v7, v8, v9, v10, v11, v12] T) : W.cell? ⟨P, 0, Option.none⟩ = some v0 ∧ W.cell? ⟨P, 1, Option.none⟩ = some v1 ∧ W.cell? ⟨P, 2, Option.none⟩ = some v2 ∧ W.cell? ⟨P, 3, Option.none⟩ = some v3 ∧ W.cell? ⟨P, 4, Option.none⟩ = some v4 ∧ W.cell? ⟨P, 5, Option.none⟩ = some v5 ∧ W.cell? ⟨P, 6, Option.none⟩ = some v6 ∧ W.cell? ⟨P, 7, Option.none⟩ = some v7 ∧ W.cell? ⟨P, 8, Option.none⟩ = some v8 ∧ W.cell? ⟨P, 9, Option.none⟩ = some v9 ∧ W.cell? ⟨P, 10, Option.none⟩ = some v10 ∧ W.cell? ⟨P, 11, Option.none⟩ = some v11 ∧ W.cell? ⟨P, 12, Option.none⟩ = some v12 :=
  ⟨Blk.cellAt (i := 0) h rfl, Blk.cellAt (i := 1) h rfl, Blk.cellAt (i := 2) h rfl, Blk.cellAt (i := 3) h rfl, Blk.cellAt (i := 4) h rfl, Blk.cellAt (i := 5) h rfl, Blk.cellAt (i := 6) h rfl, Blk.cellAt (i := 7) h rfl, Blk.cellAt (i := 8) h rfl, Blk.cellAt (i := 9) h rfl, Blk.cellAt (i := 10) h rfl, Blk.cellAt (i := 11) h rfl, Blk.cellAt (i := 12) h rfl⟩
end Go.Proofs.YtfdgijmmgllmgaaGreatDoor
namespace Go.Proofs.YtfdgijmmgllmgaaGreatDoor
open Go.ChangeShapes Go.WideShapes Go.ChangeAt Go.RowKit Go.Joins 
set_option linter.unusedSimpArgs false
set_option linter.unusedVariables false
theorem grownBy_refl (w : World) (g : Nat) : w.grownBy w (some g) := ⟨rfl, rfl, rfl, Nat.le_refl _, fun _ _ _ => rfl⟩
theorem grownBy_set {w w1 : World} {g o : Nat} {v : Value} (h : w.grownBy w1 (some g)) : w.grownBy (w1.setCell ⟨g, o, Option.none⟩ v) (some g) := by
  refine ⟨h.os, h.tape, h.output, by simpa using h.size, fun k hk hne => ?_⟩
  rw [Below.heap_setCell _ _ _ _ (fun e => hne (by rw [e]))]
  exact h.block k hk hne
end Go.Proofs.YtfdgijmmgllmgaaGreatDoor
namespace Go.Proofs.YtfdgijmmgllmgaaGreatDoor
open Go.ChangeShapes Go.WideShapes Go.ChangeAt Go.RowKit Go.Joins 
set_option linter.unusedSimpArgs false
set_option linter.unusedVariables false
theorem and255 (x : Int) : 0 ≤ bits .and .i64 x 255 ∧ bits .and .i64 x 255 ≤ 255 := by
  unfold bits
  have h : (BitVec.ofInt IntKind.i64.bits x &&& BitVec.ofInt IntKind.i64.bits 255).toNat ≤ 255 := by
    rw [BitVec.toNat_and]
    have e : (BitVec.ofInt IntKind.i64.bits 255).toNat = 255 := by decide
    rw [e]
    exact Nat.and_le_right
  simp only []
  generalize (BitVec.ofInt IntKind.i64.bits x &&& BitVec.ofInt IntKind.i64.bits 255).toNat = n at h
  rw [IntWalk.i64_in _ (by omega)]
  omega
def ByteRow (W : World) (B : Nat) (a : Option Addr) (len : Nat) (bs : List Int) : Prop :=
  len = 0 ∨ ∃ b off, a = some ⟨b, off, Option.none⟩ ∧ b < B ∧ ∀ k, k < len → W.cell? ⟨b, off + k, Option.none⟩ = some (.int .u8 (bs.getD k 0)) ∧ 0 ≤ bs.getD k 0 ∧ bs.getD k 0 ≤ 255
def Cur (B : Nat) (W : World) (q : Nat) : Prop :=
  ∃ (a : Option Addr) (len cap : Nat) (bs : List Int) (i : Nat) (h : Int), Blk W q #[.slice a len cap, .int .i64 i, .int .i64 h] 79 ∧ i ≤ len ∧ len ≤ 4096 ∧ ByteRow W B a len bs ∧ B ≤ q
theorem ByteRow.of {W w1 : World} {B : Nat} {a : Option Addr} {len : Nat} {bs : List Int} (h : ByteRow W B a len bs) (hb : Below B W w1) : ByteRow w1 B a len bs := by
  rcases h with h | ⟨b, off, e, hlt, h⟩
  · exact .inl h
  · exact .inr ⟨b, off, e, hlt, fun k hk => ⟨(hb.cell (p := ⟨b, off + k, Option.none⟩) hlt).trans (h k hk).1, (h k hk).2⟩⟩
theorem Cur.below {W w1 : World} {B q : Nat} (h : Cur B W q) (hb : Below W.heap.size W w1) : Cur B w1 q := by
  obtain ⟨a, len, cap, bs, i, h, h1, h2, h3, h4, h5⟩ := h
  have := h1.lt
  exact ⟨a, len, cap, bs, i, h, h1.below hb, h2, h3, h4.of (hb.mono (by omega)), h5⟩
theorem grownBy_draws {w w1 : World} {r : Option Nat} {n : Nat} (h : w.grownBy w1 r) : w.grownBy (w1.drewN n) r := ⟨h.os, h.tape, h.output, h.size, h.block⟩
theorem grownBy_trans {w w1 w2 : World} {r : Nat} (h : w.grownBy w1 (some r)) (k : w1.grownBy w2 (some r)) : w.grownBy w2 (some r) :=
  ⟨k.os.trans h.os, k.tape.trans h.tape, k.output.trans h.output, Nat.le_trans h.size k.size, fun i hi hne => (k.block i (Nat.lt_of_lt_of_le hi h.size) hne).trans (h.block i hi hne)⟩
theorem below_of_grown {B : Nat} {w w1 : World} {r : Nat} (h : w.grownBy w1 (some r)) (hr : B ≤ r) (hB : B ≤ w.heap.size) : Below B w w1 :=
  (Below.refl B w).grown h hB (fun k hk => by cases hk; exact hr)
set_option maxHeartbeats 4000000 in
set_option maxRecDepth 1000000 in
theorem l1Byte_s (B q : Nat) (w : World) (hcur : Cur B w q) :
    Calls Tryz.prog 66 #[.pointer (some ⟨q, 0, Option.none⟩)] w fun e w' => ∃ x : Int, e = .returned (.int .i64 x) ∧ 0 ≤ x ∧ x ≤ 255 ∧ Cur B w' q ∧ w.grownBy w' (some q) := by
  obtain ⟨a, len, cap, bs, i, h, hblk, hil, hlen, hrow, hBq⟩ := hcur
  have c0 : w.cell? ⟨q, 0, Option.none⟩ = some (.slice a len cap) := hblk.cell 0
  have c1 : w.cell? ⟨q, 1, Option.none⟩ = some (.int .i64 i) := hblk.cell 1
  have c2 : w.cell? ⟨q, 2, Option.none⟩ = some (.int .i64 h) := hblk.cell 2
  have f0 := hblk.free 0
  have f1 := hblk.free 1
  have f2 := hblk.free 2
  have HB : Hid (Blk w q #[.slice a len cap, .int .i64 i, .int .i64 h] 79) := hblk
  have HBlt : Hid (q < w.heap.size) := hblk.lt
  clear hblk
  by_cases hi : i < len
  · rcases hrow with h0 | ⟨b, off, rfl, hbB, hrow⟩
    · omega
    have hx := (hrow i hi).1
    have hx0 := (hrow i hi).2.1
    have hx1 := (hrow i hi).2.2
    have HR : Hid (∀ k, k < len → w.cell? ⟨b, off + k, Option.none⟩ = some (.int .u8 (bs.getD k 0)) ∧ 0 ≤ bs.getD k 0 ∧ bs.getD k 0 ≤ 255) := hrow
    clear hrow
    generalize bs.getD i 0 = x at hx hx0 hx1
    go_enter Tryz.func66, Tryz.ntmps66
    go_wp2_with fail
    generalize wrap64 (wrap64 (h * 6364136223846793005) + 1442695040888963407) = h2
    have HB2 : Hid (Blk (w.setCell ⟨q, 2, Option.none⟩ (.int .i64 h2)) q #[.slice (some ⟨b, off, Option.none⟩) len cap, .int .i64 i, .int .i64 h2] 79) := HB.out.set
    have g2 : w.grownBy (w.setCell ⟨q, 2, Option.none⟩ (.int .i64 h2)) (some q) := grownBy_set (grownBy_refl _ _)
    have hx2 : (w.setCell ⟨q, 2, Option.none⟩ (.int .i64 h2)).cell? ⟨b, off + i, Option.none⟩ = some (.int .u8 x) := cSet (by dsimp only; omega) hx
    clear hx
    clear c0 c1 c2 f0 f1 f2 HB
    generalize w.setCell ⟨q, 2, Option.none⟩ (.int .i64 h2) = wx at *
    have c0 : wx.cell? ⟨q, 0, Option.none⟩ = some (.slice (some ⟨b, off, Option.none⟩) len cap) := HB2.out.cell 0
    have c1 : wx.cell? ⟨q, 1, Option.none⟩ = some (.int .i64 i) := HB2.out.cell 1
    have c2 : wx.cell? ⟨q, 2, Option.none⟩ = some (.int .i64 h2) := HB2.out.cell 2
    have f0 := HB2.out.free 0
    have f1 := HB2.out.free 1
    have f2 := HB2.out.free 2
    go_quiet (fail)
    go_wp2_with fail
    go_quiet (fail)
    go_wp2_with fail
    go_quiet (fail)
    go_wp2
    go_ret
    have g3 : w.grownBy (wx.setCell ⟨q, 1, Option.none⟩ (.int .i64 ((i : Int) + 1))) (some q) := grownBy_set g2
    refine ⟨_, rfl, (and255 _).1, (and255 _).2, ?_, ?_⟩
    · refine ⟨some ⟨b, off, Option.none⟩, len, cap, bs, i + 1, h2, (HB2.out.set : Blk (wx.setCell ⟨q, 1, Option.none⟩ (.int .i64 ((i : Int) + 1))) q _ _), by omega, hlen, ?_, hBq⟩
      exact (ByteRow.of (W := w) (B := B) (.inr ⟨b, off, rfl, hbB, HR.out⟩) (below_of_grown g3 hBq (by have := HBlt.out; omega)) :)
    · exact grownBy_set (grownBy_draws g2)
  · have hil2 : i = len := by omega
    have hi2 : ¬ (i : Int) < (len : Int) := by omega
    go_enter Tryz.func66, Tryz.ntmps66
    go_wp2_with fail
    generalize wrap64 (wrap64 (h * 6364136223846793005) + 1442695040888963407) = h2
    have HB2 : Hid (Blk (w.setCell ⟨q, 2, Option.none⟩ (.int .i64 h2)) q #[.slice a len cap, .int .i64 i, .int .i64 h2] 79) := HB.out.set
    have g2 : w.grownBy (w.setCell ⟨q, 2, Option.none⟩ (.int .i64 h2)) (some q) := grownBy_set (grownBy_refl _ _)
    clear c0 c1 c2 f0 f1 f2 HB
    generalize w.setCell ⟨q, 2, Option.none⟩ (.int .i64 h2) = wx at *
    have c0 : wx.cell? ⟨q, 0, Option.none⟩ = some (.slice a len cap) := HB2.out.cell 0
    have c1 : wx.cell? ⟨q, 1, Option.none⟩ = some (.int .i64 i) := HB2.out.cell 1
    have c2 : wx.cell? ⟨q, 2, Option.none⟩ = some (.int .i64 h2) := HB2.out.cell 2
    have f0 := HB2.out.free 0
    have f1 := HB2.out.free 1
    have f2 := HB2.out.free 2
    go_quiet (fail)
    go_wp2_with fail
    go_quiet (fail)
    go_wp2_with fail
    go_ret
    refine ⟨_, rfl, (and255 _).1, (and255 _).2, ?_, ?_⟩
    · exact ⟨_, _, _, bs, _, _, HB2.out, hil, hlen, hrow.of (below_of_grown (grownBy_draws (grownBy_draws g2)) hBq (by have := HBlt.out; omega)), hBq⟩
    · exact grownBy_draws (grownBy_draws g2)
set_option maxHeartbeats 4000000 in
set_option maxRecDepth 1000000 in
theorem l1Below_s (B q : Nat) (n : Int) (w : World) (hcur : Cur B w q) (h1 : 1 ≤ n) (h2 : n ≤ 256) :
    Calls Tryz.prog 34 #[.pointer (some ⟨q, 0, Option.none⟩), .int .i64 n] w fun e w' => ∃ x : Int, e = .returned (.int .i64 x) ∧ 0 ≤ x ∧ x < n ∧ Cur B w' q ∧ w.grownBy w' (some q) := by
  have HC : Hid (Cur B w q) := hcur
  clear hcur
  go_enter Tryz.func34, Tryz.ntmps34
  go_wp2_with fail
  refine (l1Byte_s B q _ HC.out).mono ?_
  rintro e w1 ⟨x, rfl, hx0, hx1, hc1, hg1⟩
  have HC1 : Hid (Cur B w1 q) := hc1
  have HG1 : Hid (w.grownBy w1 (some q)) := hg1
  clear hc1 hg1
  go_wp2
  go_ret
  exact ⟨_, rfl, Int.emod_nonneg _ (by omega), Int.emod_lt_of_pos _ (by omega), HC1.out, HG1.out⟩
set_option maxHeartbeats 4000000 in
set_option maxRecDepth 1000000 in
theorem l1New_s (a : Option Addr) (len cap : Nat) (bs : List Int) (w : World) (hrow : ByteRow w w.heap.size a len bs) (hlen : len ≤ 4096) :
    Calls Tryz.prog 13 #[.slice a len cap] w fun e w' => ∃ q, e = .returned (.pointer (some ⟨q, 0, Option.none⟩)) ∧ q < w'.heap.size ∧ Cur w.heap.size w' q ∧ Below w.heap.size w w' := by
  have HR : Hid (ByteRow w w.heap.size a len bs) := hrow
  clear hrow
  go_enter Tryz.func13, Tryz.ntmps13
  go_wp2
  go_loop [3, 4] (fun s i => ∃ (k : Nat) (h : Int), k ≤ len ∧ i = .int .i64 k ∧ s = .int .i64 h) (fun _ i => len - (intOf i).toNat)
  case atStart => exact ⟨0, _, by omega, rfl, rfl⟩
  case round =>
    obtain ⟨k, h, hk, rfl, rfl⟩ := hrel
    by_cases hlt : k < len ∧ k < 4000
    · obtain ⟨hl1, hl2⟩ := hlt
      rcases HR.out with h0 | ⟨b, off, rfl, hbB, hr⟩
      · omega
      obtain ⟨hx, hx0, hx1⟩ := hr k hl1
      clear hr
      generalize bs.getD k 0 = x at hx hx0 hx1
      go_wp2
      go_round
      case rel => exact ⟨k + 1, _, by omega, by go_num, rfl⟩
      case measure => simp [intOf]; omega
    · by_cases hl1 : k < len
      · have hl2 : ¬ (k : Int) < 4000 := by omega
        go_wp2
        go_ret
        refine ⟨_, rfl, by simp, ⟨a, len, cap, bs, 0, _, Blk.new _ _ _, by omega, hlen, HR.out.of ((Below.refl _ _).alloc (Nat.le_refl _) _), Nat.le_refl _⟩, by (repeat' (first | (with_reducible exact Below.refl _ _) | (with_reducible assumption) | (with_reducible refine Below.alloc ?_ ?_ _) | (with_reducible refine Below.drew ?_) | (with_reducible refine Below.setCell ?_ ?_ _) | (with_reducible refine Below.trans ?_ (Below.mono (by assumption) ?_)) | (with_reducible exact Nat.le_refl _) | omega | (simp only [World.size_alloc, World.size_setCell, World.size_drew]; omega) | (simp; omega) | (simp; done)))⟩
      · have hl3 : ¬ (k : Int) < (len : Int) := by omega
        go_wp2
        go_ret
        refine ⟨_, rfl, by simp, ⟨a, len, cap, bs, 0, _, Blk.new _ _ _, by omega, hlen, HR.out.of ((Below.refl _ _).alloc (Nat.le_refl _) _), Nat.le_refl _⟩, by (repeat' (first | (with_reducible exact Below.refl _ _) | (with_reducible assumption) | (with_reducible refine Below.alloc ?_ ?_ _) | (with_reducible refine Below.drew ?_) | (with_reducible refine Below.setCell ?_ ?_ _) | (with_reducible refine Below.trans ?_ (Below.mono (by assumption) ?_)) | (with_reducible exact Nat.le_refl _) | omega | (simp only [World.size_alloc, World.size_setCell, World.size_drew]; omega) | (simp; omega) | (simp; done)))⟩
theorem big_no (a : Option Addr) (len cap : Nat) (w : World) (h : len ≤ 4096) :
    Calls Tryz.prog 4 #[.slice a len cap] w fun e w' => e = .returned (.bool false) ∧ w = w' := by
  have h1 : ¬ (4096 : Int) < (len : Int) := by omega
  go_enter Tryz.func4, Tryz.ntmps4
  go_wp2
  go_ret
  exact ⟨by first | rfl | (simp; omega), rfl⟩
theorem big_yes (a : Option Addr) (len cap : Nat) (w : World) (h : ¬ len ≤ 4096) :
    Calls Tryz.prog 4 #[.slice a len cap] w fun e w' => e = .returned (.bool true) ∧ w = w' := by
  have h1 : (4096 : Int) < (len : Int) := by omega
  go_enter Tryz.func4, Tryz.ntmps4
  go_wp2
  go_ret
  exact ⟨by first | rfl | (simp; omega), rfl⟩
set_option maxRecDepth 100000 in
theorem open_bytes {H : Type} {enc : TypeId × Value → H} {W : World} {base : Nat} {spare : Nat → Bool} {held : Bool} {v : Value} {d : DataW H} {p : List MemPlace}
    (hok : Value.okWide Tryz.prog W .any base 22 v) (h : DataW.Trod enc Tryz.prog W 0 spare held 22 v d p) :
    ∃ (a : Option Addr) (len cap : Nat) (z : List Int), v = .slice a len cap ∧ ByteRow W W.heap.size a len z := by
  obtain ⟨a, len, cap, rfl⟩ := okWide_slice Tryz.underlying22 hok
  obtain ⟨fuel, hf⟩ := h
  rcases open_ints Tryz.underlying22 Tryz.underlying5 (by kernel_rfl) hf with ⟨hcs, _⟩ | ⟨x, l, c, zs, hcs, _, hl, hm, hz, _, hcell, hwf⟩
  · simp [Value.cells] at hcs
    obtain ⟨rfl, rfl, rfl⟩ := hcs
    exact ⟨_, _, _, [], rfl, .inl rfl⟩
  · simp [Value.cells] at hcs
    obtain ⟨rfl, rfl, rfl⟩ := hcs
    have hz' : len ≤ zs.length := by
      try simp only [] at hz
      rw [hz]
      split <;> omega
    refine ⟨_, _, _, zs, rfl, ?_⟩
    by_cases h0 : len = 0
    · exact .inl h0
    · obtain ⟨b, off, rfl, hc⟩ := ints_at hcell (by omega)
      refine .inr ⟨b, off, rfl, cell_lt (hc 0 (by omega)), fun k hk => ⟨hc k (by omega), ?_⟩⟩
      have hmem : zs.getD k 0 ∈ zs := by
        have : k < zs.length := by omega
        simp [List.getD, this]
      have := bounds_u8 (hwf _ hmem)
      omega
end Go.Proofs.YtfdgijmmgllmgaaGreatDoor
namespace Go.Proofs.YtfdgijmmgllmgaaGreatDoor
open Go.ChangeShapes Go.WideShapes Go.ChangeAt Go.RowKit Go.Joins 
set_option linter.unusedSimpArgs false
set_option linter.unusedVariables false
set_option maxRecDepth 100000
theorem grown_alloc {w w1 : World} {r : Option Nat} (h : w.grownBy w1 r) (o : Obj) : w.grownBy (w1.alloc o) r :=
  ⟨h.os, h.tape, h.output, Nat.le_trans h.size (by simp), fun i hi hne => (Below.heap_alloc w1 o i (Nat.lt_of_lt_of_le hi h.size)).trans (h.block i hi hne)⟩
theorem grown_setNew {w w1 : World} {r : Option Nat} (h : w.grownBy w1 r) {p : Addr} (hp : w.heap.size ≤ p.block) (v : Value) : w.grownBy (w1.setCell p v) r :=
  ⟨h.os, h.tape, h.output, Nat.le_trans h.size (by simp), fun i hi hne => (Below.heap_setCell w1 p v i (by omega)).trans (h.block i hi hne)⟩
theorem Cur.alloc {B q : Nat} {W : World} {o : Obj} (h : Cur B W q) : Cur B (W.alloc o) q := h.below (by (repeat' (first | (with_reducible exact Below.refl _ _) | (with_reducible assumption) | (with_reducible refine Below.alloc ?_ ?_ _) | (with_reducible refine Below.drew ?_) | (with_reducible refine Below.setCell ?_ ?_ _) | (with_reducible refine Below.trans ?_ (Below.mono (by assumption) ?_)) | (with_reducible exact Nat.le_refl _) | omega | (simp only [World.size_alloc, World.size_setCell, World.size_drew]; omega) | (simp; omega) | (simp; done))))
theorem Cur.lt {B q : Nat} {W : World} (h : Cur B W q) : q < W.heap.size := by
  obtain ⟨_, _, _, _, _, _, h1, _⟩ := h
  exact h1.lt
theorem Cur.ge {B q : Nat} {W : World} (h : Cur B W q) : B ≤ q := by
  obtain ⟨_, _, _, _, _, _, _, _, _, _, h5⟩ := h
  exact h5
theorem ByteRow.mono {W : World} {B B' : Nat} {a : Option Addr} {len : Nat} {bs : List Int} (h : ByteRow W B a len bs) (hB : B ≤ B') : ByteRow W B' a len bs := by
  rcases h with h | ⟨b, off, e, hlt, h⟩
  · exact .inl h
  · exact .inr ⟨b, off, e, by omega, h⟩
theorem Cur.set {B q : Nat} {W : World} {a : Addr} {v : Value} (h : Cur B W q) (ha : q < a.block) : Cur B (W.setCell a v) q := by
  obtain ⟨s, len, cap, bs, i, hh, h1, h2, h3, h4, h5⟩ := h
  exact ⟨s, len, cap, bs, i, hh, h1.other (by omega), h2, h3, h4.of (by refine Below.setCell (Below.refl _ _) ?_ _; omega), h5⟩
end Go.Proofs.YtfdgijmmgllmgaaGreatDoor
namespace Go.Proofs.YtfdgijmmgllmgaaGreatDoor
open Go.ChangeShapes Go.WideShapes Go.ChangeAt Go.RowKit Go.Joins
theorem store_f (P : Program) (w : World) (a : Addr) (m : Mode) (k : FloatKind) (b : Nat) : (store a (.float k b) m).run P w = stored P w a (.float k b) m := run_store P w a _ m rfl
end Go.Proofs.YtfdgijmmgllmgaaGreatDoor
namespace Go.Proofs.YtfdgijmmgllmgaaGreatDoor
open Go.ChangeShapes Go.WideShapes Go.ChangeAt Go.RowKit Go.Joins
set_option linter.unusedSimpArgs false
set_option linter.unusedVariables false
set_option maxRecDepth 100000
attribute [local go_sem] store_f
def singleB (x : Nat) : Bool := (FloatKind.f32.format.order x 4286578687 == some .gt || FloatKind.f32.format.order x 4286578687 == some .eq) && (FloatKind.f32.format.order x 2139095039 == some .lt || FloatKind.f32.format.order x 2139095039 == some .eq)
def setB (x : Nat) : Nat := if (FloatKind.f32.format.order x 0 != some .eq) && singleB x then x else 0
def cleanB (x : Nat) : Nat := if FloatKind.f32.format.order x 0 == some .eq then 0 else x
theorem isSingle_i (x : Nat) (w : World) :
    Calls Tryz.prog 142 #[.float .f32 x] w fun e w' => e = .returned (.bool (singleB x)) ∧ w' = w := by
  go_enter Tryz.func142, Tryz.ntmps142
  go_wp2
  all_goals (go_ret; exact ⟨by simp_all [singleB], rfl⟩)
theorem settle_i (x : Nat) (w : World) :
    Calls Tryz.prog 123 #[.float .f32 x] w fun e w' => e = .returned (.float .f32 (setB x)) ∧ w' = w := by
  go_enter Tryz.func123, Tryz.ntmps123
  go_wp2_with (go_at_call 142; refine (isSingle_i _ _).mono ?_; rintro e w1 ⟨rfl, rfl⟩)
  all_goals (go_ret; exact ⟨by simp_all [setB], rfl⟩)
theorem sumOf_i (a b r : Nat) (w : World) (h : FloatKind.f32.format.add a b = some r) :
    Calls Tryz.prog 88 #[.float .f32 a, .float .f32 b] w fun e w' => e = .returned (.float .f32 (setB r)) ∧ w' = w := by
  have hop := fun t w => run_float_arith (P := Tryz.prog) w .add t .f32 a b r h
  go_enter Tryz.func88, Tryz.ntmps88
  go_wp2_with (first | (simp only [hop]) | (go_at_call 123; refine (settle_i _ _).mono ?_; rintro e w1 ⟨rfl, rfl⟩))
  all_goals (go_ret; exact ⟨rfl, rfl⟩)
theorem productOf_i (a b r : Nat) (w : World) (h : FloatKind.f32.format.mul a b = some r) :
    Calls Tryz.prog 85 #[.float .f32 a, .float .f32 b] w fun e w' => e = .returned (.float .f32 (setB r)) ∧ w' = w := by
  have hop := fun t w => run_float_arith (P := Tryz.prog) w .mul t .f32 a b r h
  go_enter Tryz.func85, Tryz.ntmps85
  go_wp2_with (first | (simp only [hop]) | (go_at_call 123; refine (settle_i _ _).mono ?_; rintro e w1 ⟨rfl, rfl⟩))
  all_goals (go_ret; exact ⟨rfl, rfl⟩)
end Go.Proofs.YtfdgijmmgllmgaaGreatDoor
