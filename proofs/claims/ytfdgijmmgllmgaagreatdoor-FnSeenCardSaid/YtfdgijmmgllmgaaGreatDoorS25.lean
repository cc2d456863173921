/-
  Texts Uv Uw Ux Mb Mc Tt Tv Tw, joined.
-/
import Derived.Test.YtfdgijmmgllmgaaGreatDoorS24
import Derived.Test.YtfdgijmmgllmgaaGreatDoorS10
import Derived.Test.YtfdgijmmgllmgaaGreatDoorS05
import Derived.Deep.QuietTactic
import Derived.BigQuiet
import Derived.Test.YtfdgijmmgllmgaaGreatDoorS11
import Derived.Test.YtfdgijmmgllmgaaGreatDoorS09
import Derived.Deep.RegionHeld3
import Derived.Test.YtfdgijmmgllmgaaGreatDoorS19
import Derived.Test.YtfdgijmmgllmgaaGreatDoorS08
import Derived.Deep.DeepCutAuto
namespace Go.Proofs.YtfdgijmmgllmgaaGreatDoor
open Go.ChangeShapes Go.WideShapes Go.ChangeAt Go.RowKit Go.Joins
set_option linter.unusedSimpArgs false
set_option linter.unusedVariables false
set_option maxRecDepth 100000
attribute [local go_sem] store_f
open Ieee Go.Lib
attribute [local go_sem] store_c
structure NewM (F : FuncId) (kind size : Int) (step : Nat) (c : Lit) (s : Sho) : Prop where
  call : ∀ w : World, Calls Tryz.prog F #[.int .i64 kind, .int .i64 size, .float .f32 step, .agg #[.float .f32 c.r, .float .f32 c.g, .float .f32 c.b]] w fun r w' => r = .returned (.tuple #[.agg #[.int .i64 s.size, .float .f32 s.step, .float .f32 s.lit.r, .float .f32 s.lit.g, .float .f32 s.lit.b, .slice Option.none 0 0, .int .i64 s.kind, .complex .f32 s.g1 s.g2, .float .f32 0, .slice Option.none 0 0, .int .i64 s.ticks, .slice Option.none 0 0], .bool true]) ∧ Below w.heap.size w w'
def bare (kind size : Int) (step : Nat) (c : Lit) : Sho := ⟨size, step, c, [], kind, 0, 0, [], 0, []⟩
theorem bare_in (W : World) (kind size : Int) (step : Nat) (c : Lit) : ShoIn W (bare kind size step c) Option.none Option.none Option.none := ⟨.inl rfl, .inl rfl, .inl rfl⟩
end Go.Proofs.YtfdgijmmgllmgaaGreatDoor
namespace Go.Proofs.YtfdgijmmgllmgaaGreatDoor
open Go.ChangeShapes Go.WideShapes Go.ChangeAt Go.RowKit Go.Joins
set_option linter.unusedSimpArgs false
set_option linter.unusedVariables false
set_option maxRecDepth 100000
attribute [local go_sem] store_f
open Ieee Go.Lib
attribute [local go_sem] store_c run_equalIn_c run_equalIn_g
theorem sh_nil {l : List Shd} (h : shCells l = []) : l = [] := flat_nil (f := Shd.cells) (m := 7) (by omega) (fun _ => rfl) h
structure ShAt (W : World) (b o : Nat) (s : Shd) : Prop where
  c0 : W.cell? ⟨b, o, Option.none⟩ = some (.complex .f32 s.a1 s.a2)
  c1 : W.cell? ⟨b, o + 1, Option.none⟩ = some (.complex .f32 s.b1 s.b2)
  c2 : W.cell? ⟨b, o + 2, Option.none⟩ = some (.complex .f32 s.c1 s.c2)
  c3 : W.cell? ⟨b, o + 3, Option.none⟩ = some (.float .f32 s.r)
  c4 : W.cell? ⟨b, o + 4, Option.none⟩ = some (.float .f32 s.g)
  c5 : W.cell? ⟨b, o + 5, Option.none⟩ = some (.float .f32 s.b)
  c6 : W.cell? ⟨b, o + 6, Option.none⟩ = some (.float .f32 s.k)
theorem shAt {W : World} {b off : Nat} {l : List Shd} (h : LieAt W b off (shCells l)) {k : Nat} (hk : k < l.length) : ShAt W b (off + k * 7) (l.getD k default) := by
  have hf : ∀ x : Shd, x.cells.length = 7 := fun _ => rfl
  refine ⟨?_, ?_, ?_, ?_, ?_, ?_, ?_⟩
  · exact h.get hf hk (j := 0) rfl
  · exact h.get hf hk (j := 1) rfl
  · exact h.get hf hk (j := 2) rfl
  · exact h.get hf hk (j := 3) rfl
  · exact h.get hf hk (j := 4) rfl
  · exact h.get hf hk (j := 5) rfl
  · exact h.get hf hk (j := 6) rfl
end Go.Proofs.YtfdgijmmgllmgaaGreatDoor
namespace Go.Proofs.YtfdgijmmgllmgaaGreatDoor
open Go.ChangeShapes Go.WideShapes Go.ChangeAt Go.RowKit Go.Joins
set_option linter.unusedSimpArgs false
set_option linter.unusedVariables false
set_option maxRecDepth 100000
attribute [local go_sem] store_f
open Ieee Go.Lib
attribute [local go_sem] store_c run_equalIn_c run_equalIn_g
structure Sho.Fin (s : Sho) : Prop where
  step : Fin32 s.step
  lit : s.lit.Fin
  shs : ∀ x ∈ s.shs, x.Fin
  g1 : Fin32 s.g1
  g2 : Fin32 s.g2
  bds : ∀ x ∈ s.bds, x.Fin
  log : ∀ x ∈ s.log, x.Fin
theorem bw_fin (b : PtW × PtW) : (wd b).Fin := ⟨b.1.2.1.cl.fin, b.1.2.2.cl.fin, b.2.2.1.cl.fin, b.2.2.2.cl.fin⟩
theorem Good.fin {S : Shw} (G : Good S) : S.w.Fin := by
  have F := G.fine
  obtain ⟨i, hi, hs⟩ := F.st
  refine ⟨?_, Lit.Ok.fin F.lit, fun x hx => (F.shs x hx).fin, S.g.2.1.cl.fin, S.g.2.2.cl.fin, fun x hx => ?_, fun x hx => ?_⟩
  · show Fin32 S.step
    rw [hs]
    rcases (by omega : i = 0 ∨ i = 1 ∨ i = 2 ∨ i = 3 ∨ i = 4) with rfl | rfl | rfl | rfl | rfl <;> exact fin_of_lt (by decide)
  · obtain ⟨b, _, rfl⟩ := List.mem_map.1 hx
    exact bw_fin b
  · obtain ⟨e, he, rfl⟩ := List.mem_map.1 hx
    exact (F.log e he).fin
theorem Fine.start {S : Shw} (F : Fine S) : Good (start S.size S.step) := good_start F.s1 F.s5 F.st
theorem Told.good {S : Shw} (T : Told S) (hc : cost S.log ≤ 10) (hn : S.log.length ≤ 24) : Good S :=
  good_run T.fine.start T.fine.log T.came (by simpa [start] using hc) (by simpa [start] using hn)
end Go.Proofs.YtfdgijmmgllmgaaGreatDoor
namespace Go.Proofs.YtfdgijmmgllmgaaGreatDoor
open Go.ChangeShapes Go.WideShapes Go.ChangeAt Go.RowKit Go.Joins
set_option linter.unusedSimpArgs false
set_option linter.unusedVariables false
set_option maxRecDepth 100000
attribute [local go_sem] store_f
open Ieee
attribute [local go_sem] store_c
structure LieM (x lo hi : Int) (b : Bool) : Prop where
  call : ∀ w : World, Calls Tryz.prog 95 #[.int .i64 x, .int .i64 lo, .int .i64 hi] w fun e w' => e = .returned (.bool b) ∧ Below w.heap.size w w'
theorem lieM_yes {x lo hi : Int} (h : lo ≤ x) (h' : x ≤ hi) : LieM x lo hi true := ⟨fun w => by
  have H := l1In_s x lo hi w
  rwa [lieB_yes h h'] at H⟩
theorem lieM_no {x lo hi : Int} (h : ¬ (lo ≤ x ∧ x ≤ hi)) : LieM x lo hi false := ⟨fun w => by
  have H := l1In_s x lo hi w
  rwa [lieB_no h] at H⟩
end Go.Proofs.YtfdgijmmgllmgaaGreatDoor
namespace Go.Proofs.YtfdgijmmgllmgaaGreatDoor
open Go.ChangeShapes Go.WideShapes Go.ChangeAt Go.RowKit Go.Joins
set_option linter.unusedSimpArgs false
set_option linter.unusedVariables false
set_option maxRecDepth 100000
attribute [local go_sem] store_f
open Ieee
structure Lit.W (c : Lit) : Prop where
  r : c.r < 4294967296
  g : c.g < 4294967296
  b : c.b < 4294967296
theorem Lit.Ok.w {c : Lit} (h : c.Ok) : c.W := ⟨by have := h.r; omega, by have := h.g; omega, by have := h.b; omega⟩
structure ColS (c : Lit) (p : Bool) : Prop where
  call : ∀ w : World, Calls Tryz.prog 97 #[.agg #[.float .f32 c.r, .float .f32 c.g, .float .f32 c.b]] w fun e w' => e = .returned (.bool p) ∧ Below w.heap.size w w'
theorem colS_of {c : Lit} (h : c.W) : ColS c c.isB := ⟨fun w => isColour_s c.r c.g c.b h.r h.g h.b w⟩
end Go.Proofs.YtfdgijmmgllmgaaGreatDoor
namespace Go.Proofs.YtfdgijmmgllmgaaGreatDoor
open Go.ChangeShapes Go.WideShapes Go.ChangeAt Go.RowKit Go.Joins
set_option linter.unusedSimpArgs false
set_option linter.unusedVariables false
set_option maxRecDepth 100000
attribute [local go_sem] store_f
open Ieee Go.Lib
attribute [local go_sem] store_c
def BwBlk (W : World) (g N : Nat) (F : Nat → Bw) : Prop := ∃ cur, Blk W g cur 74 ∧ N * 2 ≤ cur.size ∧ ∀ k, k < N → cur[k * 2]? = some (.complex .f32 (F k).a1 (F k).a2) ∧ cur[k * 2 + 1]? = some (.complex .f32 (F k).v1 (F k).v2)
theorem BwBlk.below {W w1 : World} {g N : Nat} {F : Nat → Bw} (h : BwBlk W g N F) (hb : Below W.heap.size W w1) : BwBlk w1 g N F := by
  obtain ⟨cur, h1, h2⟩ := h
  exact ⟨cur, h1.below hb, h2⟩
theorem BwBlk.alloc {W : World} {g N : Nat} {F : Nat → Bw} {o : Obj} (h : BwBlk W g N F) : BwBlk (W.alloc o) g N F := by
  obtain ⟨cur, h1, h2⟩ := h
  exact ⟨cur, h1.alloc, h2⟩
theorem BwBlk.other {W : World} {g N : Nat} {F : Nat → Bw} {a : Addr} {v : Value} (h : BwBlk W g N F) (hne : g ≠ a.block) : BwBlk (W.setCell a v) g N F := by
  obtain ⟨cur, h1, h2⟩ := h
  exact ⟨cur, h1.other hne, h2⟩
theorem BwBlk.lt {W : World} {g N : Nat} {F : Nat → Bw} (h : BwBlk W g N F) : g < W.heap.size := by
  obtain ⟨cur, h1, _⟩ := h
  exact h1.lt
theorem BwBlk.free {W : World} {g N : Nat} {F : Nat → Bw} (h : BwBlk W g N F) (i : Nat) : W.frozen? ⟨g, i, Option.none⟩ = false := by
  obtain ⟨cur, h1, _⟩ := h
  exact h1.free i
theorem BwBlk.cell {W : World} {g N : Nat} {F : Nat → Bw} (h : BwBlk W g N F) {k : Nat} (hk : k < N) : W.cell? ⟨g, k * 2, Option.none⟩ = some (.complex .f32 (F k).a1 (F k).a2) ∧ W.cell? ⟨g, k * 2 + 1, Option.none⟩ = some (.complex .f32 (F k).v1 (F k).v2) := by
  obtain ⟨cur, h1, _, h3⟩ := h
  exact ⟨(h1.cell _).trans (h3 k hk).1, (h1.cell _).trans (h3 k hk).2⟩
theorem BwBlk.set {W : World} {g N k : Nat} {F F' : Nat → Bw} {b : Bw} (h : BwBlk W g N F) (hk : k < N) (hF : ∀ i, i < N → F' i = if i = k then b else F i) :
    BwBlk ((W.setCell ⟨g, k * 2, Option.none⟩ (.complex .f32 b.a1 b.a2)).setCell ⟨g, k * 2 + 1, Option.none⟩ (.complex .f32 b.v1 b.v2)) g N F' := by
  obtain ⟨cur, h1, h2, h3⟩ := h
  refine ⟨_, h1.set.set, by simpa using h2, fun i hi => ?_⟩
  rw [hF i hi]
  simp only [Array.getElem?_setIfInBounds, Array.size_setIfInBounds]
  by_cases e : i = k
  · subst e
    simp
    omega
  · have e1 : ¬ k * 2 = i * 2 := by omega
    have e2 : ¬ k * 2 + 1 = i * 2 := by omega
    have e3 : ¬ k * 2 = i * 2 + 1 := by omega
    have e4 : ¬ k * 2 + 1 = i * 2 + 1 := by omega
    simp only [e, e1, e2, e3, e4, if_false]
    exact h3 i hi
theorem bwBlk_of {W : World} {B g c N : Nat} {L : List Bw} (h : W.ownsRow B 74 2 (.slice (some ⟨g, 0, Option.none⟩) N c) N (bwCells L)) (hL : L.length = N) : BwBlk W g N (fun k => L.getD k default) := by
  have hr := bwRow_of h hL
  obtain ⟨_, h2⟩ := h
  rcases h2 with ⟨e, _⟩ | ⟨g', cap', cur, e, _, hb, hle, _, hs, _⟩
  · simp at e
  · simp only [Value.slice.injEq, Option.some.injEq, Addr.mk.injEq] at e
    obtain ⟨⟨rfl, _⟩, _, rfl⟩ := e
    have hb2 : Blk W g cur 74 := hb
    refine ⟨cur, hb2, by rw [hs]; exact Nat.mul_le_mul_right _ hle, fun k hk => ?_⟩
    rw [← hb2.cell, ← hb2.cell]
    exact hr k (by omega)
theorem BwBlk.row {W : World} {g N : Nat} {F : Nat → Bw} {L : List Bw} (h : BwBlk W g N F) (hL : L.length = N) (hF : ∀ k, k < N → F k = L.getD k default) : BwRow W g L := fun k hk => by
  rw [← hF k (by omega)]
  exact h.cell (by omega)
end Go.Proofs.YtfdgijmmgllmgaaGreatDoor
namespace Go.Proofs.YtfdgijmmgllmgaaGreatDoor
open Go.ChangeShapes Go.WideShapes Go.ChangeAt Go.RowKit Go.Joins
set_option linter.unusedSimpArgs false
set_option linter.unusedVariables false
set_option maxRecDepth 100000
attribute [local go_sem] store_f
open Ieee Go.Lib
attribute [local go_sem] store_c
structure JoinS (x y u v a b : Nat) : Prop where
  call : ∀ w : World, Calls Tryz.prog 71 #[.complex .f32 x y, .complex .f32 u v] w fun e w' => e = .returned (.complex .f32 a b) ∧ w' = w
theorem joinS {x y u v a b : Nat} (P : OpS 107 x u a) (Q : OpS 107 y v b) : JoinS x y u v a b := ⟨fun w => by
  go_enter Tryz.func71, Tryz.ntmps71
  go_wp2_with (go_at_call 107; (first | (with_reducible refine (P.call _).mono ?_) | (with_reducible refine (Q.call _).mono ?_)); rintro e w1 ⟨rfl, rfl⟩)
  go_ret
  exact ⟨rfl, rfl⟩⟩
theorem join_lim {A B : Nat} {p q : PtW} (hp : Lim A p) (hq : Lim B q) (h : A + B < 1600) : JoinS p.1.1 p.1.2 q.1.1 q.1.2 (sumP p q).1.1 (sumP p q).1.2 := by
  obtain ⟨I, _⟩ := lim_sum hp hq h
  obtain ⟨h1, h2⟩ := rk_of h
  rw [sumP_1 I]
  refine joinS (plusS (R := rK (A + B)) p.2.1.cl.fin q.2.1.cl.fin (by omega) ?_) (plusS (R := rK (A + B)) p.2.2.cl.fin q.2.2.cl.fin (by omega) ?_)
  · rw [h1]; exact add_le hp.x hq.x
  · rw [h1]; exact add_le hp.y hq.y
structure InWS (kind : Int) (x y : Nat) : Prop where
  call : ∀ w : World, Calls Tryz.prog 134 #[.int .i64 kind, .complex .f32 x y] w fun e w' => e = .returned (.bool true) ∧ Below w.heap.size w w'
theorem inWS {kind : Int} {x y : Nat} (P : PtS x y) (W : WedS kind x y true) : InWS kind x y := ⟨fun w => by
  go_enter Tryz.func134, Tryz.ntmps134
  go_wp2_with fail
  refine (P.call _).mono ?_
  rintro e w1 ⟨rfl, hb⟩
  have HB := Lib.hid hb
  clear hb
  go_wp2_with fail
  refine (W.call _).mono ?_
  rintro e w2 ⟨rfl, rfl⟩
  go_wp2
  go_ret
  exact ⟨rfl, HB.out⟩⟩
set_option maxHeartbeats 8000000 in
theorem copyS {kind : Int} {g1 g2 ls N : Nat} {L : List Bw} (hL : L.length = N) (hn : N ≤ 8) : CopyM 103 kind g1 g2 ls N L := ⟨fun w a cap hr => by
  obtain ⟨i0, hi, hz0, hz1, hz2⟩ := info_parts infoB
  cases a with
  | none =>
    have hLn : L = [] := by
      rcases hr with h | ⟨g, e, _⟩
      · exact h
      · cases e
    subst hLn
    obtain rfl : N = 0 := by simpa using hL.symm
    clear hr hL
    go_enter Tryz.func103, Tryz.ntmps103
    go_wp2_with fail
    refine bodyPost_ret (v := .agg #[.int .i64 kind, .complex .f32 g1 g2, .float .f32 ls, .slice (some ⟨w.heap.size + 1 + 1, 0, Option.none⟩) 0 0]) (by simp [results, Tryz.results103, go_sem]) rfl ⟨_, _, ⟨rfl, ?_, by show Below w.heap.size w _; (repeat' (first | (with_reducible exact Below.refl _ _) | (with_reducible assumption) | (with_reducible refine Below.alloc ?_ ?_ _) | (with_reducible refine Below.drew ?_) | (with_reducible refine Below.setCell ?_ ?_ _) | (with_reducible refine Below.trans ?_ (Below.mono (by assumption) ?_)) | (with_reducible exact Nat.le_refl _) | omega | (simp only [World.size_alloc, World.size_setCell, World.size_drew]; omega) | (simp; omega) | (simp; done)))⟩⟩
    have h := World.ownsRow_lit (base := w.heap.size) ((w.alloc (.cells #[.int .i64 kind, .complex .f32 g1 g2, .float .f32 ls, .slice (some ⟨w.heap.size + 1 + 1, 0, Option.none⟩) 0 0] 31)).alloc (.cells #[.int .i64 kind, .complex .f32 g1 g2, .float .f32 ls, .slice (some ⟨w.heap.size + 1 + 1, 0, Option.none⟩) 0 0] 31)) (e := 74) (size := 2) #[] 0 (by simp; omega) (by unfold maxLen; omega) rfl
    simpa [bwCells] using h
  | some ad =>
    have HN : Hid (∀ (o1 o2 o3 : Obj) j u, (bwCells L)[j]? = some u → (((w.alloc o1).alloc o2).alloc o3).cell? (ad.add j) = some u) := by
      rcases hr with h | ⟨g, e, h⟩
      · subst h
        intro o1 o2 o3 j u hj
        simp [bwCells] at hj
      · cases e
        intro o1 o2 o3 j u hj
        have hjl : j < L.length * 2 := by
          have := (List.getElem?_eq_some_iff.1 hj).1
          rwa [bwCells_len] at this
        rw [Go.WideShapes.add_plain, Nat.zero_add]
        have hg := bwCells_get L (j / 2) (by omega)
        have hc := h (j / 2) (by omega)
        rcases (by omega : j = j / 2 * 2 ∨ j = j / 2 * 2 + 1) with e | e
        · rw [e] at hj ⊢
          rw [hg.1] at hj
          rw [← hj]; exact cAlloc (cAlloc (cAlloc hc.1))
        · rw [e] at hj ⊢
          rw [hg.2] at hj
          rw [← hj]; exact cAlloc (cAlloc (cAlloc hc.2))
    have HL := Lib.hid hL
    clear hr hL
    go_enter Tryz.func103, Tryz.ntmps103
    go_wp2_with (at_builtin; go_loud (refine wpList_append_own _ rfl _ _ 29 rfl (w.heap.size + 1 + 1) 74 i0 (.agg #[.complex .f32 0 0, .complex .f32 0 0]) 2 16 Tryz.underlying29 hi hz0 hz1 hz2 rfl (by decide) _ 0 [] rfl ?_ ad N cap (bwCells L) rfl ?_ ?_ ?_ ?_ ?_ ?_ ?_))
    · have h := World.ownsRow_lit ((w.alloc (.cells #[.int .i64 kind, .complex .f32 g1 g2, .float .f32 ls, .slice (some ad) N cap] 31)).alloc (.cells #[.int .i64 0, .complex .f32 0 0, .float .f32 0, .slice Option.none 0 0] 31)) (e := 74) (size := 2) (base := w.heap.size + 1 + 1) #[] 0 (by simp) (by unfold maxLen; omega) rfl
      simp only [World.size_alloc] at h
      exact h
    · rw [bwCells_len, HL.out]
    · intro j u hj
      exact HN.out _ _ _ j u hj
    · intro u hu
      simp only [bwCells, List.mem_flatMap, Bw.cells] at hu
      obtain ⟨b, _, hu⟩ := hu
      simp at hu
      rcases hu with rfl | rfl <;> rfl
    · unfold maxLen; omega
    · omega
    · first | omega | (simp only [World.size_alloc, World.size_setCell, World.size_drew]; omega)
    intro v' w1 hown' hgrow hvn
    have hg : (((w.alloc (.cells #[.int .i64 kind, .complex .f32 g1 g2, .float .f32 ls, .slice (some ad) N cap] 31)).alloc (.cells #[.int .i64 0, .complex .f32 0 0, .float .f32 0, .slice Option.none 0 0] 31)).alloc (.cells #[] 74)).grownBy w1 (some (w.heap.size + 1 + 1)) := hgrow
    have M1 : Hid (Blk w1 w.heap.size #[.int .i64 kind, .complex .f32 g1 g2, .float .f32 ls, .slice (some ad) N cap] 31) := Blk.grown (((Blk.new _ _ _).alloc).alloc) hg (by omega)
    have R1 : Hid (Blk w1 (w.heap.size + 1) #[.int .i64 0, .complex .f32 0 0, .float .f32 0, .slice Option.none 0 0] 31) := Blk.grown ((Blk.newAt (by simp)).alloc) hg (by omega)
    have hB : Below w.heap.size w (((w.alloc (.cells #[.int .i64 kind, .complex .f32 g1 g2, .float .f32 ls, .slice (some ad) N cap] 31)).alloc (.cells #[.int .i64 0, .complex .f32 0 0, .float .f32 0, .slice Option.none 0 0] 31)).alloc (.cells #[] 74)) := by show Below w.heap.size w _; (repeat' (first | (with_reducible exact Below.refl _ _) | (with_reducible assumption) | (with_reducible refine Below.alloc ?_ ?_ _) | (with_reducible refine Below.drew ?_) | (with_reducible refine Below.setCell ?_ ?_ _) | (with_reducible refine Below.trans ?_ (Below.mono (by assumption) ?_)) | (with_reducible exact Nat.le_refl _) | omega | (simp only [World.size_alloc, World.size_setCell, World.size_drew]; omega) | (simp; omega) | (simp; done)))
    have hBs := hB.size
    have G1 : Hid (Below w.heap.size w w1) := hB.trans (below_of_grown hg (by omega) hBs)
    have h1 : w1.ownsRow (w.heap.size + 1 + 1) 74 2 v' N (bwCells L) := by simpa using hown'
    have O1 := Lib.hid h1
    clear hB hBs h1
    have s1 := hg.size
    simp only [World.size_alloc] at s1
    clear hown' hgrow hvn hg HN
    obtain ⟨a', c', rfl⟩ : ∃ a' c', v' = .slice a' N c' := by
      rcases ownsRow_forms O1.out with ⟨rfl, h0⟩ | ⟨g, c', rfl⟩
      · exact ⟨_, _, by rw [h0]⟩
      · exact ⟨_, _, rfl⟩
    (obtain ⟨m0, m1, m2, m3⟩ := blk4 (M1.out))
    (obtain ⟨r0, r1, r2, r3⟩ := blk4 (R1.out))
    have fm := M1.out.free 3
    have f0 := R1.out.free 0
    have f1 := R1.out.free 1
    have f2 := R1.out.free 2
    have f3 := R1.out.free 3
    have l0 := M1.out.lt
    have l1 := R1.out.lt
    have RS := (((((R1.out.other (a := ⟨w.heap.size, 3, Option.none⟩) (v := .slice a' N c') (by dsimp only; omega)).set (i := 0) (v := .int .i64 kind)).set (i := 1) (v := .complex .f32 g1 g2)).set (i := 2) (v := .float .f32 ls)).set (i := 3) (v := .slice a' N c'))
    have e0 := RS.cell 0
    have e1 := RS.cell 1
    have e2 := RS.cell 2
    have e3 := RS.cell 3
    simp only [List.setIfInBounds_toArray, List.set_cons_zero, List.set_cons_succ, List.getElem?_toArray, List.getElem?_cons_zero, List.getElem?_cons_succ] at e0 e1 e2 e3
    have E0 := Lib.hid e0
    have E1 := Lib.hid e1
    have E2 := Lib.hid e2
    have E3 := Lib.hid e3
    clear RS e0 e1 e2 e3
    go_wp2_with fail
    have e0 := E0.out
    have e1 := E1.out
    have e2 := E2.out
    have e3 := E3.out
    refine bodyPost_ret (v := .agg #[.int .i64 kind, .complex .f32 g1 g2, .float .f32 ls, .slice a' N c']) (by simp [results, Tryz.results103, go_sem, e0, e1, e2, e3]) rfl ⟨a', c', ⟨rfl, ?_, ?_⟩⟩
    · exact owns_less (owns_set (owns_set (owns_set (owns_set (owns_set O1.out (by dsimp only; omega)) (by dsimp only; omega)) (by dsimp only; omega)) (by dsimp only; omega)) (by dsimp only; omega)) (by omega)
    · exact ((((G1.out.setCell (by dsimp only; omega) _).setCell (by dsimp only; omega) _).setCell (by dsimp only; omega) _).setCell (by dsimp only; omega) _).setCell (by dsimp only; omega) _⟩
set_option maxHeartbeats 16000000 in
theorem isTS {kind : Int} {g1 g2 ls N : Nat} {L : List Bw} (h0 : 0 ≤ kind) (h3 : kind ≤ 3) (P : PtS g1 g2) (hs : shareB ls = true) (hlx : ls < 4294967296) (hL : L.length = N) (hn : N ≤ 8) (hw : ∀ k, k < N → InWS kind (L.getD k default).a1 (L.getD k default).a2) (hv : ∀ k, k < N → PtS (L.getD k default).v1 (L.getD k default).v2) : IsT 99 kind g1 g2 ls N L := ⟨fun w a cap hr => by
  have YK := fun w => l1In_s kind 0 3 w
  rw [lieB_yes h0 h3] at YK
  have YS := fun w => l2Part_is hs hlx w
  have HR := Lib.hid hr
  have HW := Lib.hid hw
  have HV := Lib.hid hv
  have HL := Lib.hid hL
  clear hr hL hw hv h0 h3 hs hlx
  go_enter Tryz.func99, Tryz.ntmps99
  go_wp2_with fail
  generalize hW : w.alloc (.cells #[.int .i64 kind, .complex .f32 g1 g2, .float .f32 ls, .slice a N cap] 31) = X
  have M0 : Hid (Blk X w.heap.size #[.int .i64 kind, .complex .f32 g1 g2, .float .f32 ls, .slice a N cap] 31) := by rw [← hW]; exact Blk.new _ _ _
  have B0 : Hid (BwIn X a L) := by rw [← hW]; exact HR.out.alloc
  have G0 : Hid (Below w.heap.size w X) := by rw [← hW]; show Below w.heap.size w _; (repeat' (first | (with_reducible exact Below.refl _ _) | (with_reducible assumption) | (with_reducible refine Below.alloc ?_ ?_ _) | (with_reducible refine Below.drew ?_) | (with_reducible refine Below.setCell ?_ ?_ _) | (with_reducible refine Below.trans ?_ (Below.mono (by assumption) ?_)) | (with_reducible exact Nat.le_refl _) | omega | (simp only [World.size_alloc, World.size_setCell, World.size_drew]; omega) | (simp; omega) | (simp; done)))
  clear hW HR
  refine (YK _).mono ?_
  rintro e w1 ⟨rfl, hb⟩
  have M1 := Lib.hid (M0.out.below hb)
  have B1 : Hid (BwIn w1 a L) := B0.out.below hb
  have G1 : Hid (Below w.heap.size w w1) := G0.out.trans (hb.mono G0.out.size)
  clear hb M0 B0 G0 YK
  (obtain ⟨m0, m1, m2, m3⟩ := blk4 (M1.out))
  go_wp2_with fail
  refine (P.call _).mono ?_
  rintro e w2 ⟨rfl, hb⟩
  have M2 := Lib.hid (M1.out.below hb)
  have B2 : Hid (BwIn w2 a L) := B1.out.below hb
  have G2 : Hid (Below w.heap.size w w2) := G1.out.trans (hb.mono G1.out.size)
  clear hb M1 B1 G1 m0 m1 m2 m3 P
  (obtain ⟨m0, m1, m2, m3⟩ := blk4 (M2.out))
  go_wp2_with fail
  refine (YS _).mono ?_
  rintro e w3 ⟨rfl, hb⟩
  have M3 := Lib.hid (M2.out.below hb)
  have B3 : Hid (BwIn w3 a L) := B2.out.below hb
  have G3 : Hid (Below w.heap.size w w3) := G2.out.trans (hb.mono G2.out.size)
  clear hb M2 B2 G2 m0 m1 m2 m3 YS
  (obtain ⟨m0, m1, m2, m3⟩ := blk4 (M3.out))
  have lm := M3.out.lt
  go_wp2_with fail
  go_loopw [30] (fun i wr => ∃ k : Nat, k ≤ N ∧ i = .int .i64 k ∧ Below w3.heap.size w3 wr) (fun i _ => N - (intOf i).toNat)
  case atStart => exact ⟨0, by omega, rfl, Below.refl _ _⟩
  case round =>
    obtain ⟨k, hk, rfl, hbel⟩ := hrel
    clear m0 m1 m2 m3 lm
    have HB := Lib.hid hbel
    have MR := Lib.hid (M3.out.below hbel)
    have hs := hbel.size
    by_cases hlt : k < N
    · have KW := HW.out k hlt
      have KV := HV.out k hlt
      rcases B3.out with hnil | ⟨g, rfl, hrow⟩
      · exfalso; have := HL.out; rw [hnil] at this; simp at this; omega
      obtain ⟨c0, c1⟩ := hrow.below hbel k (by have := HL.out; omega)
      generalize L.getD k default = b at KW KV c0 c1
      have lm := MR.out.lt
      (obtain ⟨m0, m1, m2, m3⟩ := blk4 (MR.out))
      clear hrow hbel
      go_wp2_with fail
      generalize hY : wr.alloc (.cells #[.complex .f32 b.a1 b.a2, .complex .f32 b.v1 b.v2] 74) = Y
      have Y0 : Hid (Blk Y wr.heap.size #[.complex .f32 b.a1 b.a2, .complex .f32 b.v1 b.v2] 74) := by rw [← hY]; exact Blk.new _ _ _
      have GY : Hid (Below w3.heap.size w3 Y) := by rw [← hY]; exact HB.out.alloc hs _
      clear hY c0 c1 m0 m1 m2 m3 lm
      refine (KW.call _).mono ?_
      rintro e w4 ⟨rfl, hb⟩
      have Y1 := Y0.out.below hb
      have G4 : Hid (Below w3.heap.size w3 w4) := GY.out.trans (hb.mono GY.out.size)
      (have y0 := Blk.cellAt (i := 0) Y1 rfl; have y1 := Blk.cellAt (i := 1) Y1 rfl; simp only [List.getElem_toArray, List.getElem_cons_zero, List.getElem_cons_succ] at y0 y1)
      clear Y1 hb GY Y0
      go_wp2_with fail
      refine (KV.call _).mono ?_
      rintro e w5 ⟨rfl, hb⟩
      have G5 : Hid (Below w3.heap.size w3 w5) := G4.out.trans (hb.mono G4.out.size)
      clear y0 y1 hb G4
      go_wp2
      go_roundw
      case rel => exact ⟨k + 1, by omega, by go_num, G5.out⟩
      case measure => simp [intOf]; omega
    · have hkm : k = N := by omega
      subst hkm
      clear hbel
      go_wp2
      go_ret
      exact ⟨rfl, G3.out.trans (HB.out.mono G3.out.size)⟩⟩
end Go.Proofs.YtfdgijmmgllmgaaGreatDoor
namespace Go.Proofs.YtfdgijmmgllmgaaGreatDoor
open Go.ChangeShapes Go.WideShapes Go.ChangeAt Go.RowKit Go.Joins
set_option linter.unusedSimpArgs false
set_option linter.unusedVariables false
set_option maxRecDepth 100000
attribute [local go_sem] store_f
open Ieee Go.Lib
attribute [local go_sem] store_c
structure MoveS (kind : Int) (g1 g2 ls : Nat) (b c : Bw) : Prop where
  call : ∀ (w : World) (a : Option Addr) (n cap : Nat), Calls Tryz.prog 153 #[.agg #[.int .i64 kind, .complex .f32 g1 g2, .float .f32 ls, .slice a n cap], .agg #[.complex .f32 b.a1 b.a2, .complex .f32 b.v1 b.v2]] w fun e w' => e = .returned (.tuple #[.agg #[.complex .f32 c.a1 c.a2, .complex .f32 c.v1 c.v2], .bool true]) ∧ Below w.heap.size w w'
structure MovesS (kind : Int) (g1 g2 ls : Nat) (b c : Bw) (x y z1 z2 : Nat) (t : Int) (f : Bool) (u v k : Nat) : Prop where
  j1 : JoinS b.v1 b.v2 g1 g2 x y
  j2 : JoinS b.a1 b.a2 x y z1 z2
  fold : FoldMS kind z1 z2 c.a1 c.a2 t f
  pt : PtS x y
  act : ActS' t f x y u v
  kept : OpS 152 1065353216 ls k
  same : t = 0 → f = false → c.v1 = u ∧ c.v2 = v
  less1 : ¬ (t = 0 ∧ f = false) → OpS 158 u k c.v1
  less2 : ¬ (t = 0 ∧ f = false) → OpS 158 v k c.v2
set_option maxHeartbeats 16000000 in
theorem move_s {kind : Int} {g1 g2 ls : Nat} {b c : Bw} {x y z1 z2 : Nat} {t : Int} {f : Bool} {u v k : Nat} (M : MovesS kind g1 g2 ls b c x y z1 z2 t f u v k) : MoveS kind g1 g2 ls b c := ⟨fun w a n cap => by
  have J1 := M.j1
  have J2 := M.j2
  have F := M.fold
  have P := M.pt
  have A := M.act
  have D := M.kept
  go_enter Tryz.func153, Tryz.ntmps153
  go_wp2_with (go_at_call 71; (with_reducible refine (J1.call _).mono ?_); rintro e w1 ⟨rfl, rfl⟩)
  generalize hW : ((w.alloc (.cells #[.int .i64 kind, .complex .f32 g1 g2, .float .f32 ls, .slice a n cap] 31)).alloc (.cells #[.complex .f32 b.a1 b.a2, .complex .f32 b.v1 b.v2] 74)).alloc (.cells #[.complex .f32 0 0, .complex .f32 0 0] 74) = X
  have T0 : Blk X w.heap.size #[.int .i64 kind, .complex .f32 g1 g2, .float .f32 ls, .slice a n cap] 31 := by rw [← hW]; exact ((Blk.new _ _ _).alloc).alloc
  have B0 : Blk X (w.heap.size + 1) #[.complex .f32 b.a1 b.a2, .complex .f32 b.v1 b.v2] 74 := by rw [← hW]; exact (Blk.newAt (by simp)).alloc
  have R0 : Hid (Blk X (w.heap.size + 1 + 1) #[.complex .f32 0 0, .complex .f32 0 0] 74) := by rw [← hW]; exact Blk.newAt (by simp)
  have HB : Hid (Below w.heap.size w X) := by rw [← hW]; show Below w.heap.size w _; (repeat' (first | (with_reducible exact Below.refl _ _) | (with_reducible assumption) | (with_reducible refine Below.alloc ?_ ?_ _) | (with_reducible refine Below.drew ?_) | (with_reducible refine Below.setCell ?_ ?_ _) | (with_reducible refine Below.trans ?_ (Below.mono (by assumption) ?_)) | (with_reducible exact Nat.le_refl _) | omega | (simp only [World.size_alloc, World.size_setCell, World.size_drew]; omega) | (simp; omega) | (simp; done)))
  have sX : X.heap.size = w.heap.size + 3 := by rw [← hW]; simp
  clear hW
  have HT : Hid (Blk X w.heap.size #[.int .i64 kind, .complex .f32 g1 g2, .float .f32 ls, .slice a n cap] 31) := T0
  (obtain ⟨t0, t1, t2, t3⟩ := blk4 (T0))
  (have b0 := Blk.cellAt (i := 0) B0 rfl; have b1 := Blk.cellAt (i := 1) B0 rfl; simp only [List.getElem_toArray, List.getElem_cons_zero, List.getElem_cons_succ] at b0 b1)
  clear T0 B0 t1 t2 t3 b1
  have hX0 : Below X.heap.size X X := Below.refl _ _
  have hX1 : X.heap.size ≤ X.heap.size := Nat.le_refl _
  have l0 : w.heap.size < X.heap.size := by omega
  have l1 : w.heap.size + 1 < X.heap.size := by omega
  have l2 : w.heap.size + 2 < X.heap.size := by omega
  clear sX
  go_cut [7, 8, 9] (fun p8 p9 p10 wx => p8 = .complex .f32 c.a1 c.a2 ∧ p10 = .bool true ∧ ∃ nh : Nat, p9 = .pointer (some ⟨nh, 0, Option.none⟩) ∧ nh < wx.heap.size ∧ wx.cell? ⟨nh, 0, Option.none⟩ = some (.int .i64 (t)) ∧ wx.cell? ⟨nh, 1, Option.none⟩ = some (.bool (f)) ∧ Below X.heap.size X wx ∧ X.heap.size ≤ wx.heap.size)
  case first =>
    go_region_held3 (fun wx => Below X.heap.size X wx ∧ X.heap.size ≤ wx.heap.size ∧ w.heap.size < wx.heap.size ∧ w.heap.size + 1 < wx.heap.size ∧ wx.cell? ⟨w.heap.size, 0, Option.none⟩ = some (.int .i64 kind) ∧ wx.cell? ⟨w.heap.size + 1, 0, Option.none⟩ = some (.complex .f32 b.a1 b.a2))
      (((repeat' apply And.intro) <;> first | (with_reducible assumption) | (((repeat (first | (with_reducible assumption) | (with_reducible exact cNewAt (by first | rfl | (simp only [World.size_alloc, World.size_setCell, World.size_drew]; done) | omega) rfl) | (with_reducible exact sNewAt (by first | rfl | (simp only [World.size_alloc, World.size_setCell, World.size_drew]; done) | omega) rfl) | (simp; done) | (with_reducible apply cAlloc) | (with_reducible apply cDrew) | (with_reducible refine cSet (by dsimp only; omega) ?_) | (with_reducible refine cSetOff (by dsimp only; omega) ?_) | (with_reducible apply cSame) | (with_reducible refine cBelow (by assumption) ?_) | (with_reducible apply sAlloc) | (with_reducible apply sDrew) | (with_reducible refine sBelow (by assumption) ?_) | (with_reducible refine sSet (by dsimp only; omega) ?_))); first | done | (simp [*]; done)); done) | (simp only [World.size_alloc, World.size_setCell, World.size_drew]; omega) | omega | (go_keep; done) | ((repeat' (first | (with_reducible exact Below.refl _ _) | (with_reducible assumption) | (with_reducible refine Below.alloc ?_ ?_ _) | (with_reducible refine Below.drew ?_) | (with_reducible refine Below.setCell ?_ ?_ _) | (with_reducible refine Below.trans ?_ (Below.mono (by assumption) ?_)) | (with_reducible exact Nat.le_refl _) | omega | (simp only [World.size_alloc, World.size_setCell, World.size_drew]; omega) | (simp; omega) | (simp; done))); done)))
      (first | (go_at_call 71; (with_reducible refine (J2.call _).mono ?_); rintro e w2 ⟨rfl, rfl⟩) | (go_at_call 104; (with_reducible refine (F.call _).mono ?_); rintro e w3 ⟨rfl, hb⟩; have hbs := hb.size; (try simp only [World.size_alloc, World.size_setCell, World.size_drew] at hbs); (try ((first | have hN := Blk.belowAt hb hN | have hN := Blk.belowAt hb (Blk.drew (Blk.new _ _ _)) | have hN := Blk.belowAt hb (Blk.new _ _ _)); (try simp only [World.size_drew] at hN); have y0 := Blk.cellAt (i := 0) hN rfl; have y1 := Blk.cellAt (i := 1) hN rfl; simp only [List.getElem_toArray, List.getElem_cons_zero, List.getElem_cons_succ] at y0 y1; have z0 := hN.free 0; have z1 := hN.free 1; have zl := hN.lt))))
    all_goals (go_wp2_with fail; go_meet; refine ⟨rfl, rfl, _, rfl, ?_⟩; ((repeat' apply And.intro) <;> first | (with_reducible assumption) | (((repeat (first | (with_reducible assumption) | (with_reducible exact cNewAt (by first | rfl | (simp only [World.size_alloc, World.size_setCell, World.size_drew]; done) | omega) rfl) | (with_reducible exact sNewAt (by first | rfl | (simp only [World.size_alloc, World.size_setCell, World.size_drew]; done) | omega) rfl) | (simp; done) | (with_reducible apply cAlloc) | (with_reducible apply cDrew) | (with_reducible refine cSet (by dsimp only; omega) ?_) | (with_reducible refine cSetOff (by dsimp only; omega) ?_) | (with_reducible apply cSame) | (with_reducible refine cBelow (by assumption) ?_) | (with_reducible apply sAlloc) | (with_reducible apply sDrew) | (with_reducible refine sBelow (by assumption) ?_) | (with_reducible refine sSet (by dsimp only; omega) ?_))); first | done | (simp [*]; done)); done) | (simp only [World.size_alloc, World.size_setCell, World.size_drew]; omega) | omega | (go_keep; done) | ((repeat' (first | (with_reducible exact Below.refl _ _) | (with_reducible assumption) | (with_reducible refine Below.alloc ?_ ?_ _) | (with_reducible refine Below.drew ?_) | (with_reducible refine Below.setCell ?_ ?_ _) | (with_reducible refine Below.trans ?_ (Below.mono (by assumption) ?_)) | (with_reducible exact Nat.le_refl _) | omega | (simp only [World.size_alloc, World.size_setCell, World.size_drew]; omega) | (simp; omega) | (simp; done))); done)))
  case rest =>
    obtain ⟨rfl, rfl, nh, rfl, hnh, s0, s1, hbel, hsz⟩ := hcut
    have HS : Hid (wc.cell? ⟨nh, 0, Option.none⟩ = some (.int .i64 (t)) ∧ wc.cell? ⟨nh, 1, Option.none⟩ = some (.bool (f))) := ⟨s0, s1⟩
    have HTC : Hid (Blk wc w.heap.size #[.int .i64 kind, .complex .f32 g1 g2, .float .f32 ls, .slice a n cap] 31) := HT.out.below hbel
    have HRC : Hid (Blk wc (w.heap.size + 1 + 1) #[.complex .f32 0 0, .complex .f32 0 0] 74) := R0.out.below hbel
    have HBC : Hid (Below w.heap.size w wc) := HB.out.trans (hbel.mono (by omega))
    have hls : w.heap.size ≤ wc.heap.size := by omega
    clear hbel t0 b0 hX0 HT R0 HB hX1 l0 l1 l2 hsz s0 s1
    go_wp2_with fail
    refine (P.call _).mono ?_
    rintro e w4 ⟨rfl, hb⟩
    have s0 := cBelow hb HS.out.1
    have s1 := cBelow hb HS.out.2
    have HS4 : Hid (w4.cell? ⟨nh, 0, Option.none⟩ = some (.int .i64 (t)) ∧ w4.cell? ⟨nh, 1, Option.none⟩ = some (.bool (f))) := ⟨s0, s1⟩
    have HT4 := Lib.hid (HTC.out.below hb)
    have HR4 := Lib.hid (HRC.out.below hb)
    have HB4 : Hid (Below w.heap.size w w4) := HBC.out.trans (hb.mono hls)
    have hn4 : nh < w4.heap.size := Nat.lt_of_lt_of_le hnh hb.size
    have hl4 : w.heap.size ≤ w4.heap.size := Nat.le_trans hls hb.size
    clear hb HS HTC HRC HBC hls hnh
    go_wp2_with fail
    refine (A.call _).mono ?_
    rintro e w5 ⟨rfl, hb⟩
    have q0 := cBelow hb HS4.out.1
    have q1 := cBelow hb HS4.out.2
    have HT5 : Hid (Blk w5 w.heap.size #[.int .i64 kind, .complex .f32 g1 g2, .float .f32 ls, .slice a n cap] 31) := HT4.out.below hb
    have HR5 : Hid (Blk w5 (w.heap.size + 1 + 1) #[.complex .f32 0 0, .complex .f32 0 0] 74) := HR4.out.below hb
    have HB5 : Hid (Below w.heap.size w w5) := HB4.out.trans (hb.mono hl4)
    have hn5 : nh < w5.heap.size := Nat.lt_of_lt_of_le hn4 hb.size
    have RS := (HR5.out.set (i := 0) (v := .complex .f32 c.a1 c.a2)).set (i := 1) (v := .complex .f32 c.v1 c.v2)
    have e0 := RS.cell 0
    have e1 := RS.cell 1
    simp only [List.setIfInBounds_toArray, List.set_cons_zero, List.set_cons_succ, List.getElem?_toArray, List.getElem?_cons_zero, List.getElem?_cons_succ] at e0 e1
    have E0 := Lib.hid e0
    have E1 := Lib.hid e1
    clear hb s0 s1 HS4 HT4 HR4 HB4 hl4 hn4 RS e0 e1
    (obtain ⟨t0, t1, t2, t3⟩ := blk4 (HT5.out))
    (have r0 := Blk.cellAt (i := 0) HR5.out rfl; have r1 := Blk.cellAt (i := 1) HR5.out rfl; simp only [List.getElem_toArray, List.getElem_cons_zero, List.getElem_cons_succ] at r0 r1)
    have f0 := HR5.out.free 0
    have f1 := HR5.out.free 1
    have lr := HR5.out.lt
    have lt5 := HT5.out.lt
    have SAME : Hid (t = 0 → f = false → c.v1 = u ∧ c.v2 = v) := M.same
    have LESS1 : Hid (¬ (t = 0 ∧ f = false) → OpS 158 u k c.v1) := M.less1
    have LESS2 : Hid (¬ (t = 0 ∧ f = false) → OpS 158 v k c.v2) := M.less2
    clear M t1 t3
    by_cases h0 : t = 0
    · subst h0
      cases f
      · obtain ⟨v1, v2⟩ := SAME.out rfl rfl
        have V1 := Lib.hid v1
        have V2 := Lib.hid v2
        clear v1 v2
        go_wp2_with fail
        have e0 := E0.out
        have e1 := E1.out
        rw [V1.out, V2.out] at *
        exact bodyPost_ret (v := .tuple #[.agg #[.complex .f32 c.a1 c.a2, .complex .f32 u v], .bool true]) (by simp [results, Tryz.results153, go_sem, e0, e1]) rfl ⟨by simp, (HB5.out.setCell (by dsimp only; omega) _).setCell (by dsimp only; omega) _⟩
      · have J3 := LESS1.out (by simp)
        have J4 := LESS2.out (by simp)
        go_wp2_with (first | (go_at_call 152; (with_reducible refine (D.call _).mono ?_); rintro e w6 ⟨rfl, rfl⟩) | (go_at_call 158; (first | (with_reducible refine (J3.call _).mono ?_) | (with_reducible refine (J4.call _).mono ?_)); rintro e w7 ⟨rfl, rfl⟩))
        have e0 := E0.out
        have e1 := E1.out
        exact bodyPost_ret (v := .tuple #[.agg #[.complex .f32 c.a1 c.a2, .complex .f32 c.v1 c.v2], .bool true]) (by simp [results, Tryz.results153, go_sem, e0, e1]) rfl ⟨by simp, (HB5.out.setCell (by dsimp only; omega) _).setCell (by dsimp only; omega) _⟩
    · have J3 := LESS1.out (fun h => h0 h.1)
      have J4 := LESS2.out (fun h => h0 h.1)
      have h0' : (t == 0) = false := by simpa using h0
      go_wp2_with (first | (go_at_call 152; (with_reducible refine (D.call _).mono ?_); rintro e w6 ⟨rfl, rfl⟩) | (go_at_call 158; (first | (with_reducible refine (J3.call _).mono ?_) | (with_reducible refine (J4.call _).mono ?_)); rintro e w7 ⟨rfl, rfl⟩))
      have e0 := E0.out
      have e1 := E1.out
      exact bodyPost_ret (v := .tuple #[.agg #[.complex .f32 c.a1 c.a2, .complex .f32 c.v1 c.v2], .bool true]) (by simp [results, Tryz.results153, go_sem, e0, e1]) rfl ⟨by simp, (HB5.out.setCell (by dsimp only; omega) _).setCell (by dsimp only; omega) _⟩⟩
end Go.Proofs.YtfdgijmmgllmgaaGreatDoor
