/-
  Texts Shelfj Lift Kit Bone Fa Grow Hl Sj Sk Sl Sm Done Dcur, joined.
-/
import Derived.Shelf.Strings.OnBuilder
import Derived.Test.YtfdgijmmgllmgaaProg
import Derived.Test.YtfdgijmmgllmgaaRows
import Derived.WalkKit
import Derived.ProofKit
import Derived.OpenShut
import Derived.ShutString
import Derived.ChangeOld
import Derived.Below
import Derived.Carry
import Derived.Lib.SmallJoins
import Derived.Handy
import Derived.WalkLawsBesides
import Derived.Maps.AppendAt
import Derived.OwnWalk
import Derived.Lib.Hide
import Derived.RangeFuncNested
import Derived.RangeFuncBound
import Derived.RangeFuncCalls
import Derived.RangeFuncLeaves
import Derived.Shelf.Abstract
import Derived.Shelf.RegionOpen
import Derived.OwnWalkIn
import Derived.TacticsInMore
import Derived.LoopNIn
import Derived.LoopIn
import Derived.Deep.QuietTactic
import Derived.BigQuiet
namespace Go.Proofs
open Go.Shelf
def Try.lays156_ren : Go.Shelf.Ren := ⟨fun | 156 => 72 | 165 => 108 | 166 => 109 | 169 => 110 | 240 => 132 | 241 => 133 | 276 => 146 | 277 => 147 | n => n, fun | 31 => 34 | 9 => 9 | 3 => 3 | 4 => 4 | 0 => 0 | 20 => 20 | 72 => 149 | 76 => 153 | 70 => 147 | 37 => 22 | 75 => 152 | 127 => 173 | 164 => 182 | 5 => 5 | 80 => 155 | n => n, fun | n => n⟩
theorem Try.lays156 : Go.Proofs.Lays.n156 Try.prog Try.lays156_ren := {
  mixed := by kernel_rfl
  f156 := Try.func72.trans (congrArg some (by kernel_rfl))
  f165 := Try.func108.trans (congrArg some (by kernel_rfl))
  f166 := Try.func109.trans (congrArg some (by kernel_rfl))
  f169 := Try.func110.trans (congrArg some (by kernel_rfl))
  f240 := Try.func132.trans (congrArg some (by kernel_rfl))
  f241 := Try.func133.trans (congrArg some (by kernel_rfl))
  f276 := Try.func146.trans (congrArg some (by kernel_rfl))
  f277 := Try.func147.trans (congrArg some (by kernel_rfl))
  t0 := Try.underlying0
  a0 := Try.isAgg0
  z0 := Try.sizeOf0
  v0 := Try.zeroValue0
  t3 := Try.underlying3
  a3 := Try.isAgg3
  z3 := Try.sizeOf3
  v3 := Try.zeroValue3
  t4 := Try.underlying4
  a4 := Try.isAgg4
  z4 := Try.sizeOf4
  v4 := Try.zeroValue4
  t9 := Try.underlying9
  a9 := Try.isAgg9
  z9 := Try.sizeOf9
  v9 := Try.zeroValue9
  t20 := Try.underlying20
  a20 := Try.isAgg20
  z20 := Try.sizeOf20
  v20 := Try.zeroValue20
  t31 := Try.underlying34
  a31 := Try.isAgg34
  z31 := Try.sizeOf34
  v31 := Try.zeroValue34
  t37 := Try.underlying22
  a37 := Try.isAgg22
  z37 := Try.sizeOf22
  v37 := Try.zeroValue22
  t70 := Try.underlying147
  a70 := Try.isAgg147
  z70 := Try.sizeOf147
  v70 := Try.zeroValue147
  t72 := Try.underlying149
  a72 := Try.isAgg149
  z72 := Try.sizeOf149
  v72 := Try.zeroValue149
  t75 := Try.underlying152
  a75 := Try.isAgg152
  z75 := Try.sizeOf152
  v75 := Try.zeroValue152
  t76 := Try.underlying153
  a76 := Try.isAgg153
  z76 := Try.sizeOf153
  v76 := Try.zeroValue153
  t127 := Try.underlying173
  a127 := Try.isAgg173
  z127 := Try.sizeOf173
  v127 := Try.zeroValue173
  t164 := Try.underlying182
  a164 := Try.isAgg182
  z164 := Try.sizeOf182
  v164 := Try.zeroValue182 }
theorem Try.extra156 : Builder.Extra Try.prog Try.lays156_ren := {
  sizeBuilder := by kernel_rfl
  liesBuilder := by kernel_rfl
  t5 := Try.underlying5
  a5 := Try.isAgg5
  z5 := Try.sizeOf5
  v5 := Try.zeroValue5
  infoByte := by kernel_rfl
  cellsByte := by kernel_rfl
  sizeByte := by kernel_rfl
  neB5 := by decide }
end Go.Proofs
namespace Go.Proofs.Ytfdgijmmgllmgaa
open Go.ChangeShapes Go.WideShapes Go.ChangeAt Go.RowKit
theorem own : ownKnob Try.prog.godebug = Option.none := by kernel_rfl
theorem laidOut : laidOutB Try.prog = true := by kernel_rfl
section
variable {H : Type} {enc : TypeId × Value → H} {P : Program}
theorem trodAll_below (hl : laidOutB P = true) {W W' : World} (hb : Below W.heap.size W W') :
    ∀ (ts : List TypeId) {vs : List Value} {ds : List (DataW H)} {ps : List MemPlace}, (∀ t ∈ ts, P.readableRec t = true ∧ t < P.types.size) →
      DataW.TrodAll enc P W 0 (fun _ => true) true ts vs ds ps → (∀ x ∈ ps, x.block < W.heap.size) → DataW.TrodAll enc P W' 0 (fun b => decide (b < W.heap.size)) true ts vs ds ps
  | [], _, _, _, _, h, _ => by
    obtain ⟨rfl, rfl, rfl⟩ := trodAll_nil h
    exact trodAll_mk0
  | t :: ts, _, _, _, hr, h, hlt => by
    obtain ⟨v, vs', d, ds', p, q, rfl, rfl, rfl, h0, h1⟩ := trodAll_cons h
    exact trodAll_cons_mk (Below.trod hl (hr t (by simp)).1 (hr t (by simp)).2 h0 hb (fun x hx => hlt x (by simp [hx])))
      (trodAll_below hl hb ts (fun t ht => hr t (by simp [ht])) h1 (fun x hx => hlt x (by simp [hx])))
theorem trodAll_len : ∀ {ts : List TypeId} {W : World} {base : Nat} {spare : Nat → Bool} {held : Bool} {vs : List Value} {ds : List (DataW H)} {ps : List MemPlace}, DataW.TrodAll enc P W base spare held ts vs ds ps → ds.length = ts.length
  | [], _, _, _, _, _, _, _, h => by
    obtain ⟨_, rfl, _⟩ := trodAll_nil h
    rfl
  | t :: ts, _, _, _, _, _, _, _, h => by
    obtain ⟨v, vs', d, ds', p, q, rfl, rfl, rfl, h0, h1⟩ := trodAll_cons h
    simp [trodAll_len h1]
end
set_option maxRecDepth 100000 in
/-- THE FRAME: the walk gives true and 'Below'; the row's contract follows. -/
theorem lift_true {H : Type} {enc : TypeId × Value → H} (F : FuncId) (fn : Func) (s : ChangeSpec) {os : Os} (started : os.Started)
    (noInit : Try.prog.inits.idxOf? F = Option.none) (hfn : Try.prog.funcs[F]? = some fn)
    (hvars : s.vars = []) (hres : fn.resultTypes = #[4])
    (hread : fn.params.toList.all (fun t => Try.prog.readableRec t && decide (t < Try.prog.types.size)) = true)
    (hspec : ∀ ds : List (DataW H), ds.length = fn.params.toList.length → s.fn H (ds ++ []) = { results := [.lit (.bool true)], args := ds })
    (witness : ∃ (w : World) (tape : Tape) (i : Input), w.os = os ∧ (w.forCall tape i).Shaped Try.prog ∧ i.vars = [] ∧ Input.okWide Try.prog (w.forCall tape i) .any w.heap.size F i ∧
      s.pre6 enc Try.prog fn [] false (w.forCall tape i).memory i.args ∧ Assume.holds {} Try.prog (lone (Frame.enter Try.prog F i.args .normal) [] (w.forCall tape i)))
    (walk : ∀ (W : World) (base : Nat) (args : Array Value) (ds : List (DataW H)) (p : List MemPlace),
      (∀ (j : Nat) t v, fn.params[j]? = some t → args[j]? = some v → Value.okWide Try.prog W .any base t v) →
      DataW.TrodAll enc Try.prog W 0 (fun _ => true) true fn.params.toList args.toList ds p →
      Calls Try.prog F args W fun e W' => e = .returned (.bool true) ∧ Below W.heap.size W W') :
    ReturnsInHanded {} Try.checked os F .any (s.pre6 enc Try.prog fn [] false) (s.post enc Try.prog fn false true false false) := by
  refine returnsInHanded_of_change (C := Try.checked) own started noInit hfn witness ?_
  intro W base args ds gs before hval hW _ _
  have hW' := hW
  have hlt := hW.lt
  obtain ⟨p, q, hA, hV, rfl, hfz, hnd⟩ := hW
  rw [hvars] at hV
  obtain ⟨rfl, rfl⟩ := trodVars_none hV
  refine (walk W base args ds p hval hA).mono fun e W' ⟨he, bel⟩ => ?_
  have hs := hspec ds (trodAll_len hA)
  have hA2 := trodAll_below (enc := enc) laidOut bel fn.params.toList (by
    intro t ht
    have := List.all_eq_true.1 hread t ht
    simpa using this) hA (fun x hx => hlt x (by simp [hx]))
  refine ⟨_, he, ds, [], _, [], p, [], hW', ?_, ?_, ?_, bel.frame _, fun h => by cases h⟩
  · rw [hs, hres]
    exact trodAll_mk1 (shut_bool Try.underlying4 true)
  · rw [hs]
    exact hA2
  · rw [hs, hvars]
    rfl
end Go.Proofs.Ytfdgijmmgllmgaa
namespace Go.Proofs.Ytfdgijmmgllmgaa
open Go.ChangeShapes Go.WideShapes Go.ChangeAt Go.RowKit Go.Joins 
set_option linter.unusedSimpArgs false
set_option linter.unusedVariables false
theorem bcell {B : Nat} {W w1 : World} (hb : Below B W w1) : (∀ b o, b < B → w1.cell? ⟨b, o, Option.none⟩ = W.cell? ⟨b, o, Option.none⟩) ∧ (∀ b o, b < B → w1.frozen? ⟨b, o, Option.none⟩ = W.frozen? ⟨b, o, Option.none⟩) :=
  ⟨fun b o h => hb.cell (p := ⟨b, o, Option.none⟩) h, fun b o h => hb.frozen (p := ⟨b, o, Option.none⟩) h⟩
def AllLt : List Nat → World → Prop
  | [], _ => True
  | x :: l, W => x < W.heap.size ∧ AllLt l W
theorem AllLt.nil (W : World) : AllLt [] W := trivial
theorem AllLt.grow : ∀ {l : List Nat} {W w1 : World}, AllLt l W → W.heap.size ≤ w1.heap.size → AllLt l w1
  | [], _, _, _, _ => trivial
  | _ :: _, _, _, h, hs => ⟨Nat.lt_of_lt_of_le h.1 hs, AllLt.grow h.2 hs⟩
theorem AllLt.alloc {l : List Nat} {W : World} {o : Obj} (h : AllLt l W) : AllLt (W.heap.size :: l) (W.alloc o) := by
  refine ⟨?_, h.grow ?_⟩ <;> simp
theorem AllLt.setCell {l : List Nat} {W : World} {a : Addr} {v : Value} (h : AllLt l W) : AllLt l (W.setCell a v) := h.grow (by simp)
theorem AllLt.drew {l : List Nat} {W : World} (h : AllLt l W) : AllLt l W.drew := h.grow (Nat.le_refl _)
theorem keepL {l : List Nat} {B : Nat} {W w1 : World} (h : AllLt l W) (hb : Below B W w1) : AllLt l w1 := h.grow hb.size
theorem cell_lt {w : World} {b i : Nat} {v : Value} (h : w.cell? ⟨b, i, Option.none⟩ = some v) : b < w.heap.size := by
  unfold World.cell? at h
  dsimp only at h
  cases hb : w.heap[b]? with
  | none => simp [hb] at h
  | some o => exact (Array.getElem?_eq_some_iff.1 hb).1
theorem cAlloc {w : World} {b i : Nat} {v : Value} {o : Obj} (h : w.cell? ⟨b, i, Option.none⟩ = some v) : (w.alloc o).cell? ⟨b, i, Option.none⟩ = some v := by
  rw [World.cell?_alloc_lt (h := cell_lt h)]
  exact h
theorem cDrew {w : World} {b i : Nat} {v : Value} (h : w.cell? ⟨b, i, Option.none⟩ = some v) : w.drew.cell? ⟨b, i, Option.none⟩ = some v := h
theorem cBelow {W w1 : World} {b i : Nat} {v : Value} (hb : Below W.heap.size W w1) (h : W.cell? ⟨b, i, Option.none⟩ = some v) : w1.cell? ⟨b, i, Option.none⟩ = some v := by
  rw [hb.cell (cell_lt h)]
  exact h
theorem cSet {w : World} {b i : Nat} {v u : Value} {p : Addr} (hn : b ≠ p.block) (h : w.cell? ⟨b, i, Option.none⟩ = some v) : (w.setCell p u).cell? ⟨b, i, Option.none⟩ = some v := by
  rw [World.cell?_setCell_other (h := fun e => hn (by rw [e]))]
  exact h
theorem cSetOff {w : World} {b i : Nat} {v u : Value} {p : Addr} (hn : i ≠ p.off) (h : w.cell? ⟨b, i, Option.none⟩ = some v) : (w.setCell p u).cell? ⟨b, i, Option.none⟩ = some v := by
  rw [World.cell?_setCell_other (h := fun e => hn (by rw [e]))]
  exact h
theorem some_lt {w : World} {b i : Nat} (h : (w.cell? ⟨b, i, Option.none⟩).isSome = true) : b < w.heap.size := by
  obtain ⟨u, h⟩ := Option.isSome_iff_exists.1 h
  exact cell_lt h
theorem sAlloc {w : World} {b i : Nat} {o : Obj} (h : (w.cell? ⟨b, i, Option.none⟩).isSome = true) : ((w.alloc o).cell? ⟨b, i, Option.none⟩).isSome = true := by
  rw [World.cell?_alloc_lt (h := some_lt h)]
  exact h
theorem sDrew {w : World} {b i : Nat} (h : (w.cell? ⟨b, i, Option.none⟩).isSome = true) : (w.drew.cell? ⟨b, i, Option.none⟩).isSome = true := h
theorem sBelow {W w1 : World} {b i : Nat} (hb : Below W.heap.size W w1) (h : (W.cell? ⟨b, i, Option.none⟩).isSome = true) : (w1.cell? ⟨b, i, Option.none⟩).isSome = true := by
  rw [hb.cell (some_lt h)]
  exact h
theorem sSet {w : World} {b i : Nat} {u : Value} {p : Addr} (hn : ¬ (b = p.block ∧ i = p.off)) (h : (w.cell? ⟨b, i, Option.none⟩).isSome = true) : ((w.setCell p u).cell? ⟨b, i, Option.none⟩).isSome = true := by
  rw [World.cell?_setCell_other (h := fun e => hn (by rw [e]; exact ⟨rfl, rfl⟩))]
  exact h
theorem cNewAt {w : World} {n i : Nat} {c : Array Value} {t : TypeId} {v : Value} (hn : n = w.heap.size) (h : c[i]? = some v) : (w.alloc (.cells c t)).cell? ⟨n, i, Option.none⟩ = some v := by
  rw [World.cell?_alloc_at (hn := hn)]
  exact h
theorem sNewAt {w : World} {n i : Nat} {c : Array Value} {t : TypeId} (hn : n = w.heap.size) (h : c[i]?.isSome = true) : ((w.alloc (.cells c t)).cell? ⟨n, i, Option.none⟩).isSome = true := by
  rw [World.cell?_alloc_at (hn := hn)]
  exact h
theorem cSame {w : World} {b i : Nat} {v : Value} (h : (w.cell? ⟨b, i, Option.none⟩).isSome = true) : (w.setCell ⟨b, i, Option.none⟩ v).cell? ⟨b, i, Option.none⟩ = some v := by
  obtain ⟨u, h⟩ := Option.isSome_iff_exists.1 h
  exact World.cell?_setCell_same w _ v h
theorem ownsBelow {W w1 : World} {base : Nat} {e : TypeId} {size : Nat} {v : Value} {n : Nat} {xs : List Value} (hb : Below W.heap.size W w1) (h : W.ownsRow base e size v n xs) : w1.ownsRow base e size v n xs := by
  obtain ⟨h1, h2⟩ := h
  refine ⟨h1, ?_⟩
  rcases h2 with h2 | ⟨g, cap, cur, e1, e2, e3, e4⟩
  · exact .inl h2
  · exact .inr ⟨g, cap, cur, e1, e2, by rw [hb.block g (Array.getElem?_eq_some_iff.1 e3).1]; exact e3, e4⟩
end Go.Proofs.Ytfdgijmmgllmgaa
namespace Go.Proofs.Ytfdgijmmgllmgaa
open Go.ChangeShapes Go.WideShapes Go.ChangeAt Go.RowKit Go.Joins 
set_option linter.unusedSimpArgs false
set_option linter.unusedVariables false
def Blk (W : World) (b : Nat) (cs : Array Value) (t : TypeId) : Prop := W.heap[b]? = some (.cells cs t (0, 0))
theorem Blk.lt {W : World} {b : Nat} {cs : Array Value} {t : TypeId} (h : Blk W b cs t) : b < W.heap.size := (Array.getElem?_eq_some_iff.1 h).1
theorem Blk.below {W w1 : World} {b : Nat} {cs : Array Value} {t : TypeId} (h : Blk W b cs t) (hb : Below W.heap.size W w1) : Blk w1 b cs t := (hb.block b h.lt).trans h
theorem Blk.drew {W : World} {b : Nat} {cs : Array Value} {t : TypeId} (h : Blk W b cs t) : Blk W.drew b cs t := h
theorem Blk.alloc {W : World} {b : Nat} {cs : Array Value} {t : TypeId} {o : Obj} (h : Blk W b cs t) : Blk (W.alloc o) b cs t := (Below.heap_alloc _ _ _ h.lt).trans h
theorem Blk.new (W : World) (cs : Array Value) (t : TypeId) : Blk (W.alloc (.cells cs t)) W.heap.size cs t := by
  show (W.heap.push _)[W.heap.size]? = _
  simp
theorem Blk.set {W : World} {b i : Nat} {cs : Array Value} {t : TypeId} {v : Value} (h : Blk W b cs t) : Blk (W.setCell ⟨b, i, Option.none⟩ v) b (cs.setIfInBounds i v) t := block_setCell h v
theorem Blk.other {W : World} {b : Nat} {a : Addr} {cs : Array Value} {t : TypeId} {v : Value} (h : Blk W b cs t) (hne : b ≠ a.block) : Blk (W.setCell a v) b cs t := (Below.heap_setCell _ _ _ _ hne).trans h
theorem Blk.cell {W : World} {b : Nat} {cs : Array Value} {t : TypeId} (h : Blk W b cs t) (i : Nat) : W.cell? ⟨b, i, Option.none⟩ = cs[i]? := cell_of_block h i
theorem Blk.free {W : World} {b : Nat} {cs : Array Value} {t : TypeId} (h : Blk W b cs t) (i : Nat) : W.frozen? ⟨b, i, Option.none⟩ = false := unfrozen_of_block h i
theorem Blk.newAt {W : World} {cs : Array Value} {t : TypeId} {b : Nat} (h : b = W.heap.size) : Blk (W.alloc (.cells cs t)) b cs t := by subst h; exact Blk.new _ _ _
theorem Blk.cellAt {W : World} {b i : Nat} {cs : Array Value} {t : TypeId} {v : Value} (h : Blk W b cs t) (hv : cs[i]? = some v) : W.cell? ⟨b, i, Option.none⟩ = some v := (h.cell i).trans hv
theorem Blk.setAt {W : World} {b b' i : Nat} {cs cs' : Array Value} {t : TypeId} {v : Value} (hb : b' = b) (h : Blk W b cs t) (hc : cs' = cs.setIfInBounds i v) : Blk (W.setCell ⟨b', i, Option.none⟩ v) b cs' t := by
  subst hb hc; exact h.set
theorem Blk.grown {W w1 : World} {b q : Nat} {cs : Array Value} {t : TypeId} (h : Blk W b cs t) (hg : W.grownBy w1 (some q)) (hne : b ≠ q) : Blk w1 b cs t :=
  (hg.block b h.lt (fun e => hne (Option.some.inj e))).trans h
theorem blk4 {W : World} {P : Nat} {T : TypeId} {v0 v1 v2 v3 : Value} (h : Blk W P #[v0, v1, v2, v3] T) : W.cell? ⟨P, 0, Option.none⟩ = some v0 ∧ W.cell? ⟨P, 1, Option.none⟩ = some v1 ∧ W.cell? ⟨P, 2, Option.none⟩ = some v2 ∧ W.cell? ⟨P, 3, Option.none⟩ = some v3 :=
  ⟨Blk.cellAt (i := 0) h rfl, Blk.cellAt (i := 1) h rfl, Blk.cellAt (i := 2) h rfl, Blk.cellAt (i := 3) h rfl⟩
theorem blk7 {W : World} {P : Nat} {T : TypeId} {v0 v1 v2 v3 v4 v5 v6 : Value} (h : Blk W P #[v0, v1, v2, v3, v4, v5, v6] T) : W.cell? ⟨P, 0, Option.none⟩ = some v0 ∧ W.cell? ⟨P, 1, Option.none⟩ = some v1 ∧ W.cell? ⟨P, 2, Option.none⟩ = some v2 ∧ W.cell? ⟨P, 3, Option.none⟩ = some v3 ∧ W.cell? ⟨P, 4, Option.none⟩ = some v4 ∧ W.cell? ⟨P, 5, Option.none⟩ = some v5 ∧ W.cell? ⟨P, 6, Option.none⟩ = some v6 :=
  ⟨Blk.cellAt (i := 0) h rfl, Blk.cellAt (i := 1) h rfl, Blk.cellAt (i := 2) h rfl, Blk.cellAt (i := 3) h rfl, Blk.cellAt (i := 4) h rfl, Blk.cellAt (i := 5) h rfl, Blk.cellAt (i := 6) h rfl⟩
theorem blk12 {W : World} {P : Nat} {T : TypeId} {v0 v1 v2 v3 v4 v5 v6 v7 v8 v9 v10 v11 : Value} (h : Blk W P #[v0, v1, v2, v3, v4, v5, v6, v7, v8, v9, v10, v11] T) : W.cell? ⟨P, 0, Option.none⟩ = some v0 ∧ W.cell? ⟨P, 1, Option.none⟩ = some v1 ∧ W.cell? ⟨P, 2, Option.none⟩ = some v2 ∧ W.cell? ⟨P, 3, Option.none⟩ = some v3 ∧ W.cell? ⟨P, 4, Option.none⟩ = some v4 ∧ W.cell? ⟨P, 5, Option.none⟩ = some v5 ∧ W.cell? ⟨P, 6, Option.none⟩ = some v6 ∧ W.cell? ⟨P, 7, Option.none⟩ = some v7 ∧ W.cell? ⟨P, 8, Option.none⟩ = some v8 ∧ W.cell? ⟨P, 9, Option.none⟩ = some v9 ∧ W.cell? ⟨P, 10, Option.none⟩ = some v10 ∧ W.cell? ⟨P, 11, Option.none⟩ = some v11 :=
  ⟨Blk.cellAt (i := 0) h rfl, Blk.cellAt (i := 1) h rfl, Blk.cellAt (i := 2) h rfl, Blk.cellAt (i := 3) h rfl, Blk.cellAt (i := 4) h rfl, Blk.cellAt (i := 5) h rfl, Blk.cellAt (i := 6) h rfl, Blk.cellAt (i := 7) h rfl, Blk.cellAt (i := 8) h rfl, Blk.cellAt (i := 9) h rfl, Blk.cellAt (i := 10) h rfl, Blk.cellAt (i := 11) h rfl⟩
theorem blk13 {W : World} {P : Nat} {T : TypeId} {v0 v1 v2 v3 v4 v5 v6 v7 v8 v9 v10 v11 v12 : Value} (h : Blk W P #[v0, v1, v2, v3, v4, v5, v6, v7, v8, v9, v10, v11, v12] T) : W.cell? ⟨P, 0, Option.none⟩ = some v0 ∧ W.cell? ⟨P, 1, Option.none⟩ = some v1 ∧ W.cell? ⟨P, 2, Option.none⟩ = some v2 ∧ W.cell? ⟨P, 3, Option.none⟩ = some v3 ∧ W.cell? ⟨P, 4, Option.none⟩ = some v4 ∧ W.cell? ⟨P, 5, Option.none⟩ = some v5 ∧ W.cell? ⟨P, 6, Option.none⟩ = some v6 ∧ W.cell? ⟨P, 7, Option.none⟩ = some v7 ∧ W.cell? ⟨P, 8, Option.none⟩ = some v8 ∧ W.cell? ⟨P, 9, Option.none⟩ = some v9 ∧ W.cell? ⟨P, 10, Option.none⟩ = some v10 ∧ W.cell? ⟨P, 11, Option.none⟩ = some v11 ∧ W.cell? ⟨P, 12, Option.none⟩ = some v12 :=
  ⟨Blk.cellAt (i := 0) h rfl, Blk.cellAt (i := 1) h rfl, Blk.cellAt (i := 2) h rfl, Blk.cellAt (i := 3) h rfl, Blk.cellAt (i := 4) h rfl, Blk.cellAt (i := 5) h rfl, Blk.cellAt (i := 6) h rfl, Blk.cellAt (i := 7) h rfl, Blk.cellAt (i := 8) h rfl, Blk.cellAt (i := 9) h rfl, Blk.cellAt (i := 10) h rfl, Blk.cellAt (i := 11) h rfl, Blk.cellAt (i := 12) h rfl⟩
end Go.Proofs.Ytfdgijmmgllmgaa
namespace Go.Proofs.Ytfdgijmmgllmgaa
open Go.ChangeShapes Go.WideShapes Go.ChangeAt Go.RowKit Go.Joins
theorem store_f (P : Program) (w : World) (a : Addr) (m : Mode) (k : FloatKind) (b : Nat) : (store a (.float k b) m).run P w = stored P w a (.float k b) m := run_store P w a _ m rfl
end Go.Proofs.Ytfdgijmmgllmgaa
namespace Go.Proofs.Ytfdgijmmgllmgaa
open Go.ChangeShapes Go.WideShapes Go.ChangeAt Go.RowKit Go.Joins
set_option linter.unusedSimpArgs false
set_option linter.unusedVariables false
set_option maxRecDepth 100000
attribute [local go_sem] store_f
def cleanB (x : Nat) : Nat := if FloatKind.f32.format.order x 0 == some .eq then 0 else x
end Go.Proofs.Ytfdgijmmgllmgaa
namespace Go.Proofs.Ytfdgijmmgllmgaa
open Go.ChangeShapes Go.WideShapes Go.ChangeAt Go.RowKit Go.Joins 
set_option linter.unusedSimpArgs false
set_option linter.unusedVariables false
theorem grownBy_refl (w : World) (g : Nat) : w.grownBy w (some g) := ⟨rfl, rfl, rfl, Nat.le_refl _, fun _ _ _ => rfl⟩
theorem grownBy_set {w w1 : World} {g o : Nat} {v : Value} (h : w.grownBy w1 (some g)) : w.grownBy (w1.setCell ⟨g, o, Option.none⟩ v) (some g) := by
  refine ⟨h.os, h.tape, h.output, by simpa using h.size, fun k hk hne => ?_⟩
  rw [Below.heap_setCell _ _ _ _ (fun e => hne (by rw [e]))]
  exact h.block k hk hne
end Go.Proofs.Ytfdgijmmgllmgaa
namespace Go.Proofs.Ytfdgijmmgllmgaa
open Go.ChangeShapes Go.WideShapes Go.ChangeAt Go.RowKit Go.Joins
set_option linter.unusedSimpArgs false
set_option linter.unusedVariables false
set_option maxRecDepth 100000
attribute [local go_sem] store_f
structure Lit where
  r : Nat
  g : Nat
  b : Nat
instance : Inhabited Lit := ⟨⟨0, 0, 0⟩⟩
def Lit.cells (c : Lit) : List Value := [.float .f32 c.r, .float .f32 c.g, .float .f32 c.b]
def litCells (l : List Lit) : List Value := l.flatMap Lit.cells
def LitRow (W : World) (b off : Nat) (l : List Lit) : Prop :=
  ∀ k, k < l.length → W.cell? ⟨b, (off + k * 3), Option.none⟩ = some (.float .f32 (l.getD k default).r) ∧ W.cell? ⟨b, (off + k * 3) + 1, Option.none⟩ = some (.float .f32 (l.getD k default).g) ∧ W.cell? ⟨b, (off + k * 3) + 2, Option.none⟩ = some (.float .f32 (l.getD k default).b)
def LitsAt (W : World) (a : Option Addr) (l : List Lit) : Prop :=
  l = [] ∨ ∃ b off, a = some ⟨b, off, Option.none⟩ ∧ LitRow W b off l
theorem LitRow.below {W w1 : World} {b off : Nat} {l : List Lit} (h : LitRow W b off l) (hb : Below W.heap.size W w1) : LitRow w1 b off l := fun k hk => by
  obtain ⟨h0, h1, h2⟩ := h k hk
  exact ⟨cBelow hb h0, cBelow hb h1, cBelow hb h2⟩
theorem LitRow.grown {W w1 : World} {b off : Nat} {l : List Lit} {r : Option Nat} (h : LitRow W b off l) (hg : W.grownBy w1 r) (hne : r ≠ some b) : LitRow w1 b off l := fun k hk => by
  obtain ⟨h0, h1, h2⟩ := h k hk
  have hl := cell_lt h0
  have e : ∀ i, w1.cell? ⟨b, i, Option.none⟩ = W.cell? ⟨b, i, Option.none⟩ := fun i => World.cell?_of_block (hg.block b hl (fun e => hne e.symm))
  rw [e, e, e]
  exact ⟨h0, h1, h2⟩
theorem LitRow.set {W : World} {b off : Nat} {a : Addr} {v : Value} {l : List Lit} (h : LitRow W b off l) (hne : b ≠ a.block) : LitRow (W.setCell a v) b off l := fun k hk => by
  obtain ⟨h0, h1, h2⟩ := h k hk
  exact ⟨cSet hne h0, cSet hne h1, cSet hne h2⟩
theorem LitRow.alloc {W : World} {b off : Nat} {o : Obj} {l : List Lit} (h : LitRow W b off l) : LitRow (W.alloc o) b off l := fun k hk => by
  obtain ⟨h0, h1, h2⟩ := h k hk
  exact ⟨cAlloc h0, cAlloc h1, cAlloc h2⟩
theorem LitRow.drew {W : World} {b off : Nat} {l : List Lit} (h : LitRow W b off l) : LitRow W.drew b off l := h
theorem LitsAt.below {W w1 : World} {a : Option Addr} {l : List Lit} (h : LitsAt W a l) (hb : Below W.heap.size W w1) : LitsAt w1 a l := by
  rcases h with h | ⟨b, off, e, h⟩
  · exact .inl h
  · exact .inr ⟨b, off, e, h.below hb⟩
theorem LitsAt.alloc {W : World} {a : Option Addr} {o : Obj} {l : List Lit} (h : LitsAt W a l) : LitsAt (W.alloc o) a l := by
  rcases h with h | ⟨b, off, e, h⟩
  · exact .inl h
  · exact .inr ⟨b, off, e, h.alloc⟩
theorem LitsAt.drew {W : World} {a : Option Addr} {l : List Lit} (h : LitsAt W a l) : LitsAt W.drew a l := h
theorem litCells_get : ∀ (l : List Lit) (k : Nat), k < l.length → ∀ j, j < 3 → (litCells l)[k * 3 + j]? = (l.getD k default).cells[j]?
  | p :: l, 0, _, j, hj => by
    have e : litCells (p :: l) = p.cells ++ litCells l := rfl
    rw [e, Nat.zero_mul, Nat.zero_add, List.getElem?_append_left (by simp [Lit.cells]; omega)]
    rfl
  | p :: l, k + 1, h, j, hj => by
    have ih := litCells_get l k (by simpa using h) j hj
    have e : litCells (p :: l) = p.cells ++ litCells l := rfl
    have hl : p.cells.length = 3 := rfl
    rw [e, List.getElem?_append_right (by omega), hl, show (k + 1) * 3 + j - 3 = k * 3 + j by omega, ih]
    rfl
theorem litRow_of {W : World} {base g n cap : Nat} {l : List Lit} (h : W.ownsRow base 47 3 (.slice (some ⟨g, 0, Option.none⟩) n cap) n (litCells l)) (hn : l.length = n) : LitRow W g 0 l := fun k hk => by
  have hg := litCells_get l k hk
  simp only [Nat.zero_add]
  rw [h.cellAt _ (by omega), h.cellAt _ (by omega), h.cellAt _ (by omega)]
  exact ⟨hg 0 (by omega), hg 1 (by omega), hg 2 (by omega)⟩
theorem infoC : (Try.prog.info? 47).map (fun i => (i.zero, i.size, i.bytes)) = some (some (.agg #[.float .f32 0, .float .f32 0, .float .f32 0]), 3, 12) := by kernel_rfl
end Go.Proofs.Ytfdgijmmgllmgaa
namespace Go.Proofs.Ytfdgijmmgllmgaa
open Go.ChangeShapes Go.WideShapes Go.ChangeAt Go.RowKit Go.Joins
set_option linter.unusedSimpArgs false
set_option linter.unusedVariables false
set_option maxRecDepth 100000
attribute [local go_sem] store_f
open Go.Lib Go.RowKit
theorem join_at (bk o c : Nat) (xs : List ByteArray) (sep : ByteArray) (w : World)
    (hcells : ∀ (j : Nat) x, xs[j]? = some x → w.cell? ⟨bk, o + j, Option.none⟩ = some (.string x))
    (hbk : bk < w.heap.size) (hN : xs.length ≤ 140737488355328) (hcap : xs.length ≤ c)
    (hlen : (Lib.join (xs.map (·.data.toList)) sep.data.toList).length ≤ 140737488355328) :
    Calls Try.prog 72 #[.slice (some ⟨bk, o, Option.none⟩) xs.length c, .string sep] w fun e w' => e = .returned (.string ⟨(Lib.join (xs.map (·.data.toList)) sep.data.toList).toArray⟩) ∧ Below w.heap.size w w' :=
  Any.strings_Join Try.lays156 Try.extra156 bk o c xs sep w hcells hbk hN hcap hlen
end Go.Proofs.Ytfdgijmmgllmgaa
namespace Go.Proofs.Ytfdgijmmgllmgaa
open Go.ChangeShapes Go.WideShapes Go.ChangeAt Go.RowKit Go.Joins
set_option linter.unusedSimpArgs false
set_option linter.unusedVariables false
set_option maxRecDepth 100000
attribute [local go_sem] store_f
open Ieee
structure LitRun (W : World) (b o : Nat) (l : List Lit) : Prop where
  lt : b < W.heap.size
  r : ∀ k, k < l.length → W.cell? ⟨b, o + k * 3, Option.none⟩ = some (.float .f32 (l.getD k default).r)
  g : ∀ k, k < l.length → W.cell? ⟨b, o + k * 3 + 1, Option.none⟩ = some (.float .f32 (l.getD k default).g)
  b : ∀ k, k < l.length → W.cell? ⟨b, o + k * 3 + 2, Option.none⟩ = some (.float .f32 (l.getD k default).b)
theorem LitRun.below {W W' : World} {b o B : Nat} {l : List Lit} (h : LitRun W b o l) (hb : Below B W W') (hB : b < B) : LitRun W' b o l :=
  ⟨Nat.lt_of_lt_of_le h.lt hb.size, fun k hk => (hb.cell (p := ⟨b, _, Option.none⟩) hB).trans (h.r k hk), fun k hk => (hb.cell (p := ⟨b, _, Option.none⟩) hB).trans (h.g k hk), fun k hk => (hb.cell (p := ⟨b, _, Option.none⟩) hB).trans (h.b k hk)⟩
structure FmtM (c : Lit) (s : ByteArray) : Prop where
  call : ∀ w : World, Calls Try.prog 74 #[.agg #[.float .f32 c.r, .float .f32 c.g, .float .f32 c.b]] w fun e w' => e = .returned (.string s) ∧ Below w.heap.size w w'
theorem infoStr : (Try.prog.info? 9).map (fun i => (i.zero, i.size, i.bytes)) = some (some (.string ⟨#[]⟩), 1, 16) := by kernel_rfl
def texts (f : Nat → ByteArray) (k : Nat) : List Value := (List.range k).map fun j => .string (f j)
theorem texts_succ (f : Nat → ByteArray) (k : Nat) : texts f (k + 1) = texts f k ++ [.string (f k)] := by unfold texts; rw [List.range_succ, List.map_append]; rfl
structure Texts (w w' : World) (e : Ending) (f : Nat → ByteArray) (n : Nat) : Prop where
  row : ∃ v, e = .returned v ∧ w'.ownsRow w.heap.size 9 1 v n (texts f n) ∧ v ≠ .slice Option.none 0 0
  below : Below w.heap.size w w'
set_option maxHeartbeats 8000000 in
theorem fmtEach {l : List Lit} {f : Nat → ByteArray} (hl : l.length ≤ 64) (hf : ∀ k, k < l.length → FmtM (l.getD k default) (f k)) (b o cap : Nat) (w : World) (hr : LitRun w b o l) :
    Calls Try.prog 73 #[.slice (some ⟨b, o, Option.none⟩) l.length cap, .func (.func 74) #[] #[]] w fun e w' => Texts w w' e f l.length := by
  have HR : Hid (LitRun w b o l) := hr
  have hbw := hr.lt
  have HF := Lib.hid hf
  clear hr hf
  obtain ⟨i0, hi, hz0, hz1, hz2⟩ := info_parts infoStr
  go_enter Try.func73, Try.ntmps73
  go_wp2_with fail
  go_loopw [5, 11] (fun v i wr => ∃ k : Nat, k ≤ l.length ∧ i = .int .i64 k ∧ wr.ownsRow w.heap.size 9 1 v k (texts f k) ∧ v ≠ .slice Option.none 0 0 ∧ Below w.heap.size w wr)
    (fun _ i _ => l.length - (Lib.intOf i).toNat)
  case atStart => exact ⟨0, by omega, rfl, World.ownsRow_lit _ #[] 0 (by simp) (by unfold maxLen; omega) rfl, by simp, by (repeat' (first | (with_reducible exact Below.refl _ _) | (with_reducible assumption) | (with_reducible refine Below.alloc ?_ ?_ _) | (with_reducible refine Below.drew ?_) | (with_reducible refine Below.setCell ?_ ?_ _) | (with_reducible refine Below.trans ?_ (Below.mono (by assumption) ?_)) | (with_reducible exact Nat.le_refl _) | omega | (simp only [World.size_alloc, World.size_setCell, World.size_drew]; omega) | (simp; omega) | (simp; done)))⟩
  case round =>
    obtain ⟨k, hk, rfl, hown, hnn, hbel⟩ := hrel
    have HN : Hid (u5 ≠ .slice Option.none 0 0) := hnn
    have hbs := hbel.size
    clear hnn
    by_cases hlt : k < l.length
    · have HA := (HF.out k hlt).call
      have hS := HR.out.below hbel hbw
      have c0 := hS.r k hlt
      have c1 := hS.g k hlt
      have c2 := hS.b k hlt
      have hbl := hS.lt
      clear hS
      generalize l.getD k default = c at HA c0 c1 c2
      obtain ⟨cr, cg, cb⟩ := c
      simp only [] at c0 c1 c2 HA
      have HA2 := Lib.hid HA
      clear HA
      go_wp2_with fail
      refine (HA2.out _).mono ?_
      rintro e w2 ⟨rfl, hb2⟩
      have hB2 : Below w.heap.size w w2 := by (repeat' (first | (with_reducible exact Below.refl _ _) | (with_reducible assumption) | (with_reducible refine Below.alloc ?_ ?_ _) | (with_reducible refine Below.drew ?_) | (with_reducible refine Below.setCell ?_ ?_ _) | (with_reducible refine Below.trans ?_ (Below.mono (by assumption) ?_)) | (with_reducible exact Nat.le_refl _) | omega | (simp only [World.size_alloc, World.size_setCell, World.size_drew]; omega) | (simp; omega) | (simp; done)))
      have hs2 := hb2.size
      simp only [World.size_alloc] at hs2
      have hO2 : w2.ownsRow w.heap.size 9 1 u5 k (texts f k) := ownsBelow hb2 (World.ownsRow.alloc hown _)
      clear c0 c1 c2 hb2 HA2
      go_wp2_with (at_builtin; go_loud (refine wpList_append_own_at _ rfl _ _ 34 rfl w.heap.size 9 i0 (.string ⟨#[]⟩) 1 16 Try.underlying34 hi hz0 hz1 hz2 rfl (by decide) _ k (texts f k) rfl ?hown ⟨w2.heap.size, 0, Option.none⟩ 1 1 [.string (f k)] rfl rfl ?c1 ?c2 ?c3 ?c4 ?c5 ?_))
      case hown => (change World.ownsRow _ _ _ _ u5 _ _; (repeat (first | (with_reducible assumption) | (with_reducible refine World.ownsRow.alloc ?_ _) | (with_reducible refine World.ownsRow.drew ?_) | (with_reducible refine ownsBelow (by assumption) ?_))))
      case c1 =>
        intro j u hj
        rcases j with _ | j <;> simp at hj
        subst hj
        simp [Addr.add]
      case c2 =>
        intro u hu
        simp at hu
        subst hu
        rfl
      case c3 => (unfold maxLen; omega)
      case c4 => omega
      case c5 => first | omega | (simp only [World.size_alloc, World.size_setCell, World.size_drew]; omega)
      intro v' w3 hown' hgrow hvn hat
      have HV : Hid (v' ≠ .slice Option.none 0 0) := hvn
      have hb3 : Below w.heap.size w w3 := Below.grown (by (repeat' (first | (with_reducible exact Below.refl _ _) | (with_reducible assumption) | (with_reducible refine Below.alloc ?_ ?_ _) | (with_reducible refine Below.drew ?_) | (with_reducible refine Below.setCell ?_ ?_ _) | (with_reducible refine Below.trans ?_ (Below.mono (by assumption) ?_)) | (with_reducible exact Nat.le_refl _) | omega | (simp only [World.size_alloc, World.size_setCell, World.size_drew]; omega) | (simp; omega) | (simp; done)))) hgrow (by first | omega | (simp only [World.size_alloc, World.size_setCell, World.size_drew]; omega)) (fun q hq => (hown.lt q hq).1)
      clear hgrow hvn hat HN hO2 hown
      go_wp2
      go_roundw
      case rel => exact ⟨k + 1, by omega, by go_num, by rw [texts_succ]; exact hown', HV.out, hb3⟩
      case measure => simp [Lib.intOf]; omega
    · have hkl : k = l.length := by omega
      subst hkl
      have HO := Lib.hid hown
      clear hown
      go_wp2
      go_ret
      exact ⟨⟨_, rfl, HO.out, HN.out⟩, hbel⟩
end Go.Proofs.Ytfdgijmmgllmgaa
namespace Go.Proofs.Ytfdgijmmgllmgaa
open Go.ChangeShapes Go.WideShapes Go.ChangeAt Go.RowKit Go.Joins
set_option linter.unusedSimpArgs false
set_option linter.unusedVariables false
set_option maxRecDepth 100000
attribute [local go_sem] store_f
open Ieee
def StrsAt (W : World) (g n : Nat) (f : Nat → ByteArray) : Prop := g < W.heap.size ∧ ∀ k, k < n → W.cell? ⟨g, k, Option.none⟩ = some (.string (f k))
theorem texts_get (f : Nat → ByteArray) {n k : Nat} (h : k < n) : (texts f n)[k]? = some (.string (f k)) := by
  unfold texts
  rw [List.getElem?_map, List.getElem?_range h]; rfl
theorem strs_of {W : World} {B n : Nat} {v : Value} {f : Nat → ByteArray} (h : W.ownsRow B 9 1 v n (texts f n)) (hn : 1 ≤ n) : ∃ g c, v = .slice (some ⟨g, 0, Option.none⟩) n c ∧ n ≤ c ∧ B ≤ g ∧ StrsAt W g n f := by
  have h' := h
  obtain ⟨h1, h2⟩ := h
  rcases h2 with ⟨_, e⟩ | ⟨g, cap, cur, rfl, hB, hb, hle, hx, hs, hm⟩
  · omega
  · refine ⟨g, cap, rfl, by omega, hB, (h'.lt _ rfl).2, fun k hk => ?_⟩
    rw [h'.cellAt k (by omega)]
    exact texts_get f hk
def lineOf (f : Nat → ByteArray) (n : Nat) : ByteArray := ⟨(Lib.join (((List.range n).map f).map (·.data.toList)) [32]).toArray⟩
structure Shorts (f : Nat → ByteArray) (n : Nat) : Prop where
  few : n ≤ 64
  len : (Lib.join (((List.range n).map f).map (·.data.toList)) [32]).length ≤ 140737488355328
set_option maxHeartbeats 8000000 in
theorem fmtRow {l : List Lit} {f : Nat → ByteArray} (hl : 1 ≤ l.length) (hs : Shorts f l.length) (hf : ∀ k, k < l.length → FmtM (l.getD k default) (f k)) (b o cap : Nat) (w : World) (hr : LitRun w b o l) :
    Calls Try.prog 36 #[.slice (some ⟨b, o, Option.none⟩) l.length cap] w fun e w' => e = .returned (.string (lineOf f l.length)) ∧ Below w.heap.size w w' := by
  have HE := Lib.hid (fmtEach (hs.few) hf b o cap w hr)
  have h64 := hs.few
  have hlen := hs.len
  have hj := Lib.hid (fun (g c : Nat) (W : World) (hc : l.length ≤ c) (hS : StrsAt W g l.length f) => by
    have h := join_at g 0 c ((List.range l.length).map f) ⟨#[32]⟩ W (fun j x hx => by
      rw [List.getElem?_map] at hx
      by_cases hj : j < l.length
      · rw [List.getElem?_range hj] at hx
        simp only [Option.map_some, Option.some.injEq] at hx
        subst hx
        rw [Nat.zero_add]
        exact hS.2 j hj
      · rw [List.getElem?_eq_none (by simpa using hj)] at hx
        simp at hx) hS.1 (by simp; omega) (by simpa using hc) (by simpa using hlen)
    simp only [List.length_map, List.length_range] at h
    exact h)
  clear hr hf hs hlen
  go_enter Try.func36, Try.ntmps36
  go_wp2_with fail
  refine HE.out.mono ?_
  rintro e w1 ⟨⟨v, rfl, hown, _⟩, hb⟩
  obtain ⟨g, c, rfl, hc, hB, hS⟩ := strs_of hown hl
  have hJ := Lib.hid (hj.out g c w1 hc hS)
  clear hown hS hj HE
  go_wp2_with fail
  refine hJ.out.mono ?_
  rintro e w2 ⟨rfl, hb2⟩
  have G2 : Hid (Below w.heap.size w w2) := hb.trans (hb2.mono hb.size)
  clear hb hb2 hJ
  go_wp2
  go_ret
  exact ⟨by unfold lineOf; simp only [List.map_map]; rfl, G2.out⟩
end Go.Proofs.Ytfdgijmmgllmgaa
namespace Go.Proofs.Ytfdgijmmgllmgaa
open Go.RowKit Go.Shelf
attribute [local go_sem] Oper.semAt_some
def rowNo (m : Nat) (h : 1 ≤ m) (j : Nat) : Fin m := ⟨j % m, Nat.mod_lt _ h⟩
def rowsTo (m : Nat) (h : 1 ≤ m) (k : Nat) : List (Fin m) := (List.range k).map (rowNo m h)
theorem rowsTo_succ (m : Nat) (h : 1 ≤ m) (k : Nat) : rowsTo m h (k + 1) = rowsTo m h k ++ [rowNo m h k] := by simp [rowsTo, List.range_succ]
theorem rowsTo_len (m : Nat) (h : 1 ≤ m) (k : Nat) : (rowsTo m h k).length = k := by simp [rowsTo]
def rowEnc (b o m : Nat) (x : Fin m) : Array Value := #[.slice (some ⟨b, o + x.1 * m * 3, Option.none⟩) m m]
theorem drewBy (A : World) : A.grownBy A.drew none := ⟨rfl, rfl, rfl, Nat.le_refl _, fun _ _ _ => rfl⟩
structure Two (p q : Nat) (W W' : World) : Prop where
  a : W'.heap[p]? = W.heap[p]?
  b : W'.heap[q]? = W.heap[q]?
theorem Two.trans {p q : Nat} {A B C : World} (h : Two p q A B) (k : Two p q B C) : Two p q A C := ⟨k.a.trans h.a, k.b.trans h.b⟩
set_option maxRecDepth 100000 in
set_option maxHeartbeats 4000000 in
theorem chunk1_in (F : Fence) (n : Nat) (h7 : F.fn 71) (hro : F.round = none) (hn : 1 ≤ n) (l B1 B2 b o m L cap : Nat) (h1 : 1 ≤ m) (h8 : m ≤ 8) (hL : L = m * m) (hcap : L ≤ cap) (J Jx : List (Fin m) → World → Prop) (hD : ∀ pre A, J pre A → J pre A.drew)
    (hY : ∀ pre x W, J pre W → pre.length < m → YieldAt F (n - 1) Try.prog l (rowEnc b o m x) W fun e W' =>
      (e = .returned (.bool true) ∧ J (pre ++ [x]) W' ∧ Two B1 B2 W W') ∨ (e = .returned (.bool false) ∧ Jx (pre ++ [x]) W'))
    (W : World) (c1 : W.cell? ⟨B1, 0, none⟩ = some (.slice (some ⟨b, o, none⟩) L cap)) (c2 : W.cell? ⟨B2, 0, none⟩ = some (.int .i64 m)) (h0 : J [] W) :
    CallsIn F n Try.prog 71 #[.func (.yield l) #[] #[], .pointer (some ⟨B1, 0, none⟩), .pointer (some ⟨B2, 0, none⟩)] W fun e W' => (∃ v, e = .returned v) ∧
      ((∃ ys, ys = rowsTo m h1 m ∧ J ys W') ∨ (∃ pre, (∃ k, k ≤ m ∧ pre = rowsTo m h1 k) ∧ Jx pre W')) := by
  refine callsIn_of_wp Try.func71 rfl h7 ?_ hro
  simp only [Try.ntmps71, List.size_toArray, List.length_cons, List.length_nil, Nat.reduceAdd, Nat.reduceSub, Array.replicate_succ, Array.replicate_zero, List.push_toArray, List.append_toArray, List.nil_append, List.cons_append]
  gi_wp2
  gi_loopw [4] (fun i wr => ∃ k p : Nat, k ≤ m ∧ p = k * m ∧ i = .int .i64 p ∧ J (rowsTo m h1 k) wr ∧ Two B1 B2 W wr)
    (fun i _ => L - (RowKit.intOf i).toNat)
  case atStart => exact ⟨0, 0, Nat.zero_le _, by simp, rfl, h0, ⟨rfl, rfl⟩⟩
  case round =>
    obtain ⟨k, p, hk, hp, rfl, hJs, hnx⟩ := hrel
    have d1 : wr.cell? ⟨B1, 0, none⟩ = some (.slice (some ⟨b, o, none⟩) L cap) := (World.cell?_of_block (a := ⟨B1, 0, none⟩) hnx.a).trans c1
    have d2 : wr.cell? ⟨B2, 0, none⟩ = some (.int .i64 m) := (World.cell?_of_block (a := ⟨B2, 0, none⟩) hnx.b).trans c2
    have hL64 : L ≤ 64 := by rw [hL]; exact Nat.mul_le_mul h8 h8
    by_cases hlt : k < m
    · have hpm : p + m ≤ L := by rw [hp, hL, ← Nat.succ_mul]; exact Nat.mul_le_mul_right _ hlt
      obtain ⟨fn, tmps, assign, body, hy, hR⟩ := hY _ (rowNo m h1 k) wr.drew (hD _ _ hJs) (by rw [rowsTo_len]; exact hlt)
      have he : rowEnc b o m (rowNo m h1 k) = #[.slice (some ⟨b, o + p * 3, Option.none⟩) m m] := by
        unfold rowEnc rowNo
        simp only [Nat.mod_eq_of_lt hlt]
        rw [hp]
      rw [he] at hy
      have hpl : p < L := by omega
      have HP := Lib.hid hp
      have HL := Lib.hid hL
      clear hp hL he
      gi_wp2
      have hmin : min (m : Int) ((L - p : Nat) : Int) = m := by omega
      gi_region
      all_goals
        gi_wp2
        refine hR.mono ?_
        rintro e W3 (⟨rfl, hJ3, hk3⟩ | ⟨rfl, hJx3⟩)
        · have d3 : W3.cell? ⟨B2, 0, none⟩ = some (.int .i64 m) := (World.cell?_of_block (a := ⟨B2, 0, none⟩) hk3.b).trans d2
          gi_wp2
          go_roundw
          case rel => exact ⟨k + 1, p + m, by omega, by rw [HP.out, Nat.succ_mul], by simp, by rw [rowsTo_succ]; exact hJ3, hnx.trans ⟨hk3.a, hk3.b⟩⟩
          case measure => simp [RowKit.intOf]; omega
        · gi_wp2
          refine bodyPost_ret (results_none rfl _ _ _) rfl ?_
          exact ⟨⟨_, rfl⟩, .inr ⟨_, ⟨k + 1, by omega, (rowsTo_succ _ _ _).symm⟩, hJx3⟩⟩
    · obtain rfl : k = m := by omega
      have hpL : p = L := by rw [hp, hL]
      subst hpL
      clear hp hL
      gi_wp2
      go_end0
      exact ⟨⟨_, rfl⟩, .inl ⟨_, rfl, hJs⟩⟩
theorem chunk_stops (F : Fence) (n : Nat) (h7 : F.fn 71) (hro : F.round = none) (hn : 1 ≤ n) (B1 B2 b o m L cap : Nat) (h1 : 1 ≤ m) (h8 : m ≤ 8) (hL : L = m * m) (hcap : L ≤ cap) (w : World) (hB1 : B1 < w.heap.size) (hB2 : B2 < w.heap.size)
    (c1 : w.cell? ⟨B1, 0, none⟩ = some (.slice (some ⟨b, o, none⟩) L cap)) (c2 : w.cell? ⟨B2, 0, none⟩ = some (.int .i64 m)) :
    SeqStopsK F n Try.prog 71 #[.pointer (some ⟨B1, 0, none⟩), .pointer (some ⟨B2, 0, none⟩)] (rowEnc b o m) (Two B1 B2) (fun ys => ys = rowsTo m h1 m) (fun pre => ∃ k, k ≤ m ∧ pre = rowsTo m h1 k) m w := fun l J Jx W hW hJ _ hY h0 =>
  chunk1_in F n h7 hro hn l B1 B2 b o m L cap h1 h8 hL hcap J Jx (fun pre A h => hJ pre A A.drew none h (drewBy A) (fun r e => by cases e)) hY W ((hW.cell (p := ⟨B1, 0, none⟩) hB1).trans c1) ((hW.cell (p := ⟨B2, 0, none⟩) hB2).trans c2) h0
theorem chunk_i (a : Option Addr) (L cap m : Nat) (h1 : 1 ≤ m) (h8 : m ≤ 8) (w : World) :
    Calls Try.prog 35 #[.slice a L cap, .int .i64 m] w fun e w' => e = .returned (.func (.func 71) #[] #[.pointer (some ⟨w.heap.size, 0, none⟩), .pointer (some ⟨w.heap.size + 1, 0, none⟩)]) ∧ w' = (w.alloc (.cells #[.slice a L cap] 24)).alloc (.cells #[.int .i64 m] 3) := by
  have hm : ¬ ((m : Int) < 1) := by omega
  clear h1
  go_enter Try.func35, Try.ntmps35
  go_wp2
  all_goals (go_ret; exact ⟨rfl, rfl⟩)
end Go.Proofs.Ytfdgijmmgllmgaa
namespace Go.Proofs.Ytfdgijmmgllmgaa
open Go.ChangeShapes Go.WideShapes Go.ChangeAt Go.RowKit Go.Joins 
set_option linter.unusedSimpArgs false
set_option linter.unusedVariables false
theorem grownBy_trans {w w1 w2 : World} {r : Nat} (h : w.grownBy w1 (some r)) (k : w1.grownBy w2 (some r)) : w.grownBy w2 (some r) :=
  ⟨k.os.trans h.os, k.tape.trans h.tape, k.output.trans h.output, Nat.le_trans h.size k.size, fun i hi hne => (k.block i (Nat.lt_of_lt_of_le hi h.size) hne).trans (h.block i hi hne)⟩
end Go.Proofs.Ytfdgijmmgllmgaa
namespace Go.Proofs.Ytfdgijmmgllmgaa
open Go.ChangeShapes Go.WideShapes Go.ChangeAt Go.RowKit Go.Joins 
set_option linter.unusedSimpArgs false
set_option linter.unusedVariables false
set_option maxRecDepth 100000
theorem grown_alloc {w w1 : World} {r : Option Nat} (h : w.grownBy w1 r) (o : Obj) : w.grownBy (w1.alloc o) r :=
  ⟨h.os, h.tape, h.output, Nat.le_trans h.size (by simp), fun i hi hne => (Below.heap_alloc w1 o i (Nat.lt_of_lt_of_le hi h.size)).trans (h.block i hi hne)⟩
end Go.Proofs.Ytfdgijmmgllmgaa
