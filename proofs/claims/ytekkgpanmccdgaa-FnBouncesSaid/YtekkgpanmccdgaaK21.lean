/-
  Texts of this proof, joined: Tt, Tu, Fh.
-/
import Derived.Test.YtekkgpanmccdgaaK13
import Derived.Deep.RegionHeld3
import Derived.Deep.DeepCutAuto
import Derived.Test.YtekkgpanmccdgaaK20
import Derived.Test.YtekkgpanmccdgaaK07
import Derived.Test.YtekkgpanmccdgaaK10
import Derived.Test.YtekkgpanmccdgaaK08
/-
  TurnTumble of the program.
-/
namespace Go.Proofs.Ytekkgpanmccdgaa
open Go.ChangeShapes Go.WideShapes Go.ChangeAt Go.RowKit Go.Joins
set_option linter.unusedSimpArgs false
set_option linter.unusedVariables false
set_option maxRecDepth 100000
attribute [local go_sem] store_f
open Ieee Go.Lib
attribute [local go_sem] store_c

/-- A block of beads, each of which is told. -/
def BwBlk (W : World) (g N : Nat) (F : Nat → Bw) : Prop := ∃ cur, Blk W g cur 54 ∧ N * 2 ≤ cur.size ∧ ∀ k, k < N → cur[k * 2]? = some (.complex .f32 (F k).a1 (F k).a2) ∧ cur[k * 2 + 1]? = some (.complex .f32 (F k).v1 (F k).v2)
theorem BwBlk.below {W w1 : World} {g N : Nat} {F : Nat → Bw} (h : BwBlk W g N F) (hb : Below W.heap.size W w1) : BwBlk w1 g N F := by
  obtain ⟨cur, h1, h2⟩ := h
  exact ⟨cur, h1.below hb, h2⟩
theorem BwBlk.alloc {W : World} {g N : Nat} {F : Nat → Bw} {o : Obj} (h : BwBlk W g N F) : BwBlk (W.alloc o) g N F := by
  obtain ⟨cur, h1, h2⟩ := h
  exact ⟨cur, h1.alloc, h2⟩
theorem BwBlk.other {W : World} {g N : Nat} {F : Nat → Bw} {a : Addr} {v : Value} (h : BwBlk W g N F) (hne : g ≠ a.block) : BwBlk (W.setCell a v) g N F := by
  obtain ⟨cur, h1, h2⟩ := h
  exact ⟨cur, h1.other hne, h2⟩
theorem BwBlk.lt {W : World} {g N : Nat} {F : Nat → Bw} (h : BwBlk W g N F) : g < W.heap.size := by
  obtain ⟨cur, h1, _⟩ := h
  exact h1.lt
theorem BwBlk.free {W : World} {g N : Nat} {F : Nat → Bw} (h : BwBlk W g N F) (i : Nat) : W.frozen? ⟨g, i, Option.none⟩ = false := by
  obtain ⟨cur, h1, _⟩ := h
  exact h1.free i
theorem BwBlk.cell {W : World} {g N : Nat} {F : Nat → Bw} (h : BwBlk W g N F) {k : Nat} (hk : k < N) : W.cell? ⟨g, k * 2, Option.none⟩ = some (.complex .f32 (F k).a1 (F k).a2) ∧ W.cell? ⟨g, k * 2 + 1, Option.none⟩ = some (.complex .f32 (F k).v1 (F k).v2) := by
  obtain ⟨cur, h1, _, h3⟩ := h
  exact ⟨(h1.cell _).trans (h3 k hk).1, (h1.cell _).trans (h3 k hk).2⟩
theorem BwBlk.set {W : World} {g N k : Nat} {F F' : Nat → Bw} {b : Bw} (h : BwBlk W g N F) (hk : k < N) (hF : ∀ i, i < N → F' i = if i = k then b else F i) :
    BwBlk ((W.setCell ⟨g, k * 2, Option.none⟩ (.complex .f32 b.a1 b.a2)).setCell ⟨g, k * 2 + 1, Option.none⟩ (.complex .f32 b.v1 b.v2)) g N F' := by
  obtain ⟨cur, h1, h2, h3⟩ := h
  refine ⟨_, h1.set.set, by simpa using h2, fun i hi => ?_⟩
  rw [hF i hi]
  simp only [Array.getElem?_setIfInBounds, Array.size_setIfInBounds]
  by_cases e : i = k
  · subst e
    simp
    omega
  · have e1 : ¬ k * 2 = i * 2 := by omega
    have e2 : ¬ k * 2 + 1 = i * 2 := by omega
    have e3 : ¬ k * 2 = i * 2 + 1 := by omega
    have e4 : ¬ k * 2 + 1 = i * 2 + 1 := by omega
    simp only [e, e1, e2, e3, e4, if_false]
    exact h3 i hi
theorem bwBlk_of {W : World} {B g c N : Nat} {L : List Bw} (h : W.ownsRow B 54 2 (.slice (some ⟨g, 0, Option.none⟩) N c) N (bwCells L)) (hL : L.length = N) : BwBlk W g N (fun k => L.getD k default) := by
  have hr := bwRow_of h hL
  obtain ⟨_, h2⟩ := h
  rcases h2 with ⟨e, _⟩ | ⟨g', cap', cur, e, _, hb, hle, _, hs, _⟩
  · simp at e
  · simp only [Value.slice.injEq, Option.some.injEq, Addr.mk.injEq] at e
    obtain ⟨⟨rfl, _⟩, _, rfl⟩ := e
    have hb2 : Blk W g cur 54 := hb
    refine ⟨cur, hb2, by rw [hs]; exact Nat.mul_le_mul_right _ hle, fun k hk => ?_⟩
    rw [← hb2.cell, ← hb2.cell]
    exact hr k (by omega)
theorem BwBlk.row {W : World} {g N : Nat} {F : Nat → Bw} {L : List Bw} (h : BwBlk W g N F) (hL : L.length = N) (hF : ∀ k, k < N → F k = L.getD k default) : BwRow W g L := fun k hk => by
  rw [← hF k (by omega)]
  exact h.cell (by omega)

structure TurnM (t : Int) (f : Bool) (kind : Int) (g1 g2 ls N : Nat) (L : List Bw) (h1 h2 : Nat) (M : List Bw) : Prop where
  call : ∀ (w : World) (a : Option Addr) (cap : Nat), BwIn w a L → Calls Try.prog 30 #[.agg #[.int .i64 kind, .complex .f32 g1 g2, .float .f32 ls, .slice a N cap], .agg #[.int .i64 t, .bool f]] w fun e w' => ∃ a' c', RunOut w e w' kind h1 h2 ls N M a' c'
/-- What turning rests on. -/
structure Turns (t : Int) (f : Bool) (kind : Int) (g1 g2 ls N : Nat) (L : List Bw) (h1 h2 : Nat) (M : List Bw) : Prop where
  ok : TumOk kind g1 g2 ls N L
  ok' : TumOk kind h1 h2 ls N M
  t0 : 0 ≤ t
  t3 : t < 4
  g : ActM t f g1 g2 h1 h2
  at_ : ∀ k, k < N → ActM t f (L.getD k default).a1 (L.getD k default).a2 (M.getD k default).a1 (M.getD k default).a2
  sp : ∀ k, k < N → ActM t f (L.getD k default).v1 (L.getD k default).v2 (M.getD k default).v1 (M.getD k default).v2
set_option maxHeartbeats 32000000 in
theorem turnM {t : Int} {f : Bool} {kind : Int} {g1 g2 ls N : Nat} {L : List Bw} {h1 h2 : Nat} {M : List Bw} (K : Turns t f kind g1 g2 ls N L h1 h2 M) : TurnM t f kind g1 g2 ls N L h1 h2 M := ⟨fun w a cap hr => by
  have CT := copyT (kind := kind) (g1 := g1) (g2 := g2) (ls := ls) K.ok.len K.ok.few
  have IT := isT K.ok
  have IT' := isT K.ok'
  have YS := fun w => isSym_yes t f w K.t0 K.t3
  have AG := K.g
  have HA := Lib.hid K.at_
  have HS := Lib.hid K.sp
  have hn := K.ok.few
  have HL := Lib.hid K.ok.len
  have HM := Lib.hid K.ok'.len
  have HR := Lib.hid hr
  have HGA : Hid (0 < N → ∃ g, a = some ⟨g, 0, Option.none⟩ ∧ g < w.heap.size) := fun h => by
    rcases hr with h0 | ⟨g, e, h1⟩
    · exfalso; have := K.ok.len; rw [h0] at this; simp at this; omega
    · exact ⟨g, e, cell_lt (h1 0 (by have := K.ok.len; omega)).1⟩
  clear K hr
  go_enter Try.func30, Try.ntmps30
  go_wp2_with fail
  generalize hX : ((w.alloc (.cells #[.int .i64 kind, .complex .f32 g1 g2, .float .f32 ls, .slice a N cap] 39)).alloc (.cells #[.int .i64 t, .bool f] 49)).alloc (.cells #[.int .i64 0, .complex .f32 0 0, .float .f32 0, .slice Option.none 0 0] 39) = X
  have M0 : Hid (Blk X w.heap.size #[.int .i64 kind, .complex .f32 g1 g2, .float .f32 ls, .slice a N cap] 39) := by rw [← hX]; exact ((Blk.new _ _ _).alloc).alloc
  have S0 : Hid (Blk X (w.heap.size + 1) #[.int .i64 t, .bool f] 49) := by rw [← hX]; exact (Blk.newAt (by simp)).alloc
  have R0 : Hid (Blk X (w.heap.size + 1 + 1) #[.int .i64 0, .complex .f32 0 0, .float .f32 0, .slice Option.none 0 0] 39) := by rw [← hX]; exact Blk.newAt (by simp)
  have B0 : Hid (BwIn X a L) := by rw [← hX]; exact HR.out.alloc.alloc.alloc
  have G0 : Hid (Below w.heap.size w X) := by rw [← hX]; show Below w.heap.size w _; (repeat' (first | (with_reducible exact Below.refl _ _) | (with_reducible assumption) | (with_reducible refine Below.alloc ?_ ?_ _) | (with_reducible refine Below.drew ?_) | (with_reducible refine Below.setCell ?_ ?_ _) | (with_reducible refine Below.trans ?_ (Below.mono (by assumption) ?_)) | (with_reducible exact Nat.le_refl _) | omega | (simp only [World.size_alloc, World.size_setCell, World.size_drew]; omega) | (simp; omega) | (simp; done)))
  have sX : w.heap.size + 3 ≤ X.heap.size := by rw [← hX]; simp
  clear hX
  refine (CT.call _ _ _ B0.out).mono ?_
  rintro e w1 ⟨a1, ct, ⟨rfl, hown, hb⟩⟩
  have M1 : Hid (Blk w1 w.heap.size #[.int .i64 kind, .complex .f32 g1 g2, .float .f32 ls, .slice a N cap] 39) := M0.out.below hb
  have S1 : Hid (Blk w1 (w.heap.size + 1) #[.int .i64 t, .bool f] 49) := S0.out.below hb
  have R1 : Hid (Blk w1 (w.heap.size + 1 + 1) #[.int .i64 0, .complex .f32 0 0, .float .f32 0, .slice Option.none 0 0] 39) := R0.out.below hb
  have B1 : Hid (BwIn w1 a L) := B0.out.below hb
  have G1 : Hid (Below w.heap.size w w1) := G0.out.trans (hb.mono (by omega))
  obtain ⟨gt, hgt⟩ : ∃ gt : Nat, (X.heap.size ≤ gt ∧ gt ≠ w1.heap.size ∧ (0 < N → a1 = some ⟨gt, 0, Option.none⟩ ∧ BwBlk w1 gt N (fun k => L.getD k default))) := by
    rcases ownsRow_forms hown with ⟨e, h0⟩ | ⟨g, c', e⟩
    · refine ⟨w1.heap.size + 1, by have := hb.size; omega, by omega, fun hN => ?_⟩
      exfalso
      omega
    · cases e
      exact ⟨g, (hown.lt _ rfl).1, Nat.ne_of_lt (hown.lt _ rfl).2, fun _ => ⟨rfl, bwBlk_of hown HL.out⟩⟩
  obtain ⟨hgX, hgne, hgN⟩ := hgt
  have GN := Lib.hid hgN
  have s1 := hb.size
  clear hb hown M0 S0 R0 B0 G0 CT hgN
  (have m0 := Blk.cellAt (i := 0) M1.out rfl; have m1 := Blk.cellAt (i := 1) M1.out rfl; have m2 := Blk.cellAt (i := 2) M1.out rfl; have m3 := Blk.cellAt (i := 3) M1.out rfl; simp only [List.getElem_toArray, List.getElem_cons_zero, List.getElem_cons_succ] at m0 m1 m2 m3)
  have l0 := M1.out.lt
  go_wp2_with fail
  generalize hV : w1.alloc (.cells #[.int .i64 kind, .complex .f32 g1 g2, .float .f32 ls, .slice a1 N ct] 39) = V
  have M2 : Hid (Blk V w.heap.size #[.int .i64 kind, .complex .f32 g1 g2, .float .f32 ls, .slice a N cap] 39) := by rw [← hV]; exact M1.out.alloc
  have S2 : Hid (Blk V (w.heap.size + 1) #[.int .i64 t, .bool f] 49) := by rw [← hV]; exact S1.out.alloc
  have R2 : Hid (Blk V (w.heap.size + 1 + 1) #[.int .i64 0, .complex .f32 0 0, .float .f32 0, .slice Option.none 0 0] 39) := by rw [← hV]; exact R1.out.alloc
  have D2 : Hid (Blk V w1.heap.size #[.int .i64 kind, .complex .f32 g1 g2, .float .f32 ls, .slice a1 N ct] 39) := by rw [← hV]; exact Blk.new _ _ _
  have B2 : Hid (BwIn V a L) := by rw [← hV]; exact B1.out.alloc
  have G2 : Hid (Below w.heap.size w V) := by rw [← hV]; exact G1.out.alloc (by omega) _
  have N2 : Hid (0 < N → a1 = some ⟨gt, 0, Option.none⟩ ∧ BwBlk V gt N (fun k => L.getD k default) ∧ gt < w1.heap.size) := fun h => by
    have h1 := (GN.out h).2
    rw [← hV]; exact ⟨(GN.out h).1, h1.alloc, h1.lt⟩
  have sV : w1.heap.size < V.heap.size := by rw [← hV]; simp
  clear hV M1 S1 R1 B1 G1 GN m0 m1 m2 m3 l0
  generalize w1.heap.size = tb at *
  refine (IT.call _ _ _ B2.out).mono ?_
  rintro e w3 ⟨rfl, hb⟩
  have M3 : Hid (Blk w3 w.heap.size #[.int .i64 kind, .complex .f32 g1 g2, .float .f32 ls, .slice a N cap] 39) := M2.out.below hb
  have S3 : Hid (Blk w3 (w.heap.size + 1) #[.int .i64 t, .bool f] 49) := S2.out.below hb
  have R3 : Hid (Blk w3 (w.heap.size + 1 + 1) #[.int .i64 0, .complex .f32 0 0, .float .f32 0, .slice Option.none 0 0] 39) := R2.out.below hb
  have D3 : Hid (Blk w3 tb #[.int .i64 kind, .complex .f32 g1 g2, .float .f32 ls, .slice a1 N ct] 39) := D2.out.below hb
  have B3 : Hid (BwIn w3 a L) := B2.out.below hb
  have N3 : Hid (0 < N → a1 = some ⟨gt, 0, Option.none⟩ ∧ BwBlk w3 gt N (fun k => L.getD k default) ∧ gt < tb) := fun h => by
    obtain ⟨h1, h2, h3⟩ := N2.out h
    exact ⟨h1, h2.below hb, h3⟩
  have G3 : Hid (Below w.heap.size w w3) := G2.out.trans (hb.mono (by omega))
  have s3 := hb.size
  clear hb M2 S2 R2 D2 B2 N2 G2 IT
  (have t0 := Blk.cellAt (i := 0) S3.out rfl; have t1 := Blk.cellAt (i := 1) S3.out rfl; simp only [List.getElem_toArray, List.getElem_cons_zero, List.getElem_cons_succ] at t0 t1)
  have l1 := S3.out.lt
  go_wp2_with fail
  refine (YS _).mono ?_
  rintro e w4 ⟨rfl, hb⟩
  have M4 : Hid (Blk w4 w.heap.size #[.int .i64 kind, .complex .f32 g1 g2, .float .f32 ls, .slice a N cap] 39) := M3.out.below hb
  have S4 : Hid (Blk w4 (w.heap.size + 1) #[.int .i64 t, .bool f] 49) := S3.out.below hb
  have R4 : Hid (Blk w4 (w.heap.size + 1 + 1) #[.int .i64 0, .complex .f32 0 0, .float .f32 0, .slice Option.none 0 0] 39) := R3.out.below hb
  have D4 : Hid (Blk w4 tb #[.int .i64 kind, .complex .f32 g1 g2, .float .f32 ls, .slice a1 N ct] 39) := D3.out.below hb
  have B4 : Hid (BwIn w4 a L) := B3.out.below hb
  have N4 : Hid (0 < N → a1 = some ⟨gt, 0, Option.none⟩ ∧ BwBlk w4 gt N (fun k => L.getD k default) ∧ gt < tb) := fun h => by
    obtain ⟨h1, h2, h3⟩ := N3.out h
    exact ⟨h1, h2.below hb, h3⟩
  have G4 : Hid (Below w.heap.size w w4) := G3.out.trans (hb.mono (by omega))
  have s4 := hb.size
  clear hb M3 S3 R3 D3 B3 N3 G3 t0 t1 l1 YS
  (have t0 := Blk.cellAt (i := 0) S4.out rfl; have t1 := Blk.cellAt (i := 1) S4.out rfl; simp only [List.getElem_toArray, List.getElem_cons_zero, List.getElem_cons_succ] at t0 t1)
  (have m0 := Blk.cellAt (i := 0) M4.out rfl; have m1 := Blk.cellAt (i := 1) M4.out rfl; have m2 := Blk.cellAt (i := 2) M4.out rfl; have m3 := Blk.cellAt (i := 3) M4.out rfl; simp only [List.getElem_toArray, List.getElem_cons_zero, List.getElem_cons_succ] at m0 m1 m2 m3)
  have l0 := M4.out.lt
  have l1 := S4.out.lt
  have l2 := D4.out.lt
  go_wp2_with fail
  refine (AG.call _).mono ?_
  rintro e w5 ⟨rfl, hb⟩
  have D5 := D4.out.below hb
  have M5 : Hid (Blk w5 w.heap.size #[.int .i64 kind, .complex .f32 g1 g2, .float .f32 ls, .slice a N cap] 39) := M4.out.below hb
  have S5 : Hid (Blk w5 (w.heap.size + 1) #[.int .i64 t, .bool f] 49) := S4.out.below hb
  have R5 : Hid (Blk w5 (w.heap.size + 1 + 1) #[.int .i64 0, .complex .f32 0 0, .float .f32 0, .slice Option.none 0 0] 39) := R4.out.below hb
  have B5 : Hid (BwIn w5 a L) := B4.out.below hb
  have N5 : Hid (0 < N → a1 = some ⟨gt, 0, Option.none⟩ ∧ BwBlk w5 gt N (fun k => L.getD k default) ∧ gt < tb) := fun h => by
    obtain ⟨h1, h2, h3⟩ := N4.out h
    exact ⟨h1, h2.below hb, h3⟩
  have G5 : Hid (Below w.heap.size w w5) := G4.out.trans (hb.mono (by omega))
  have s5 := hb.size
  clear hb M4 S4 R4 D4 B4 N4 G4 t0 t1 m0 m1 m2 m3 l0 l1 l2 AG
  have d1 := Blk.cellAt (i := 1) D5 rfl
  simp only [List.getElem_toArray, List.getElem_cons_zero, List.getElem_cons_succ] at d1
  have f1 := D5.free 1
  have l2 := D5.lt
  have m3 := Blk.cellAt (i := 3) M5.out rfl
  simp only [List.getElem_toArray, List.getElem_cons_zero, List.getElem_cons_succ] at m3
  have l0 := M5.out.lt
  have htb : w.heap.size + 3 ≤ tb := by omega
  have HD5 := Lib.hid D5
  clear D5
  go_wp2_with fail
  generalize hV : w5.setCell ⟨tb, 1, Option.none⟩ (.complex .f32 h1 h2) = V
  have D6 : Hid (Blk V tb #[.int .i64 kind, .complex .f32 h1 h2, .float .f32 ls, .slice a1 N ct] 39) := by rw [← hV]; exact Blk.setAt rfl HD5.out rfl
  have S6 : Hid (Blk V (w.heap.size + 1) #[.int .i64 t, .bool f] 49) := by rw [← hV]; exact S5.out.other (by dsimp only; omega)
  have R6 : Hid (Blk V (w.heap.size + 1 + 1) #[.int .i64 0, .complex .f32 0 0, .float .f32 0, .slice Option.none 0 0] 39) := by rw [← hV]; exact R5.out.other (by dsimp only; omega)
  have B6 : Hid (BwIn V a L) := by
    rw [← hV]
    have d0 := Blk.cellAt (i := 0) HD5.out rfl
    simp only [List.getElem_toArray, List.getElem_cons_zero] at d0
    exact B5.out.grownAt (grownBy_set (grownBy_refl _ _)) d0
  have N6 : Hid (0 < N → a1 = some ⟨gt, 0, Option.none⟩ ∧ BwBlk V gt N (fun k => L.getD k default) ∧ gt < tb) := fun h => by
    obtain ⟨h1, h2, h3⟩ := N5.out h
    rw [← hV]
    exact ⟨h1, h2.other (by dsimp only; omega), h3⟩
  have G6 : Hid (Below w.heap.size w V) := by rw [← hV]; exact G5.out.setCell (by dsimp only; omega) _
  have sV : tb < V.heap.size := by rw [← hV]; simp; omega
  clear hV M5 S5 R5 HD5 B5 N5 G5 d1 f1 l2 m3 l0
  go_loopw [28] (fun i wr => ∃ j : Nat, j ≤ N ∧ i = .int .i64 j ∧ (0 < N → BwBlk wr gt N (fun k => if k < j then M.getD k default else L.getD k default)) ∧ V.grownBy wr (some gt)) (fun i _ => N - (intOf i).toNat)
  case atStart => exact ⟨0, by omega, rfl, fun h => by simpa using (N6.out h).2.1, grownBy_refl _ _⟩
  case round =>
    obtain ⟨j, hj, rfl, hblk, hgr⟩ := hrel
    have GR := Lib.hid hgr
    have BK := Lib.hid hblk
    have hsz := hgr.size
    clear hblk hgr
    by_cases hlt : j < N
    · have hN0 : 0 < N := by omega
      obtain ⟨rfl, _, hgtb⟩ := N6.out hN0
      obtain ⟨gm, rfl, hgm⟩ := HGA.out hN0
      have KA := HA.out j hlt
      have KS := HS.out j hlt
      have hrow : BwRow wr gm L := by
        rcases B6.out with h | ⟨g, e, h⟩
        · exfalso; have := HL.out; rw [h] at this; simp at this; omega
        · cases e
          exact h.grown GR.out (fun e => by cases e; omega)
      obtain ⟨c0, c1⟩ := hrow j (by have := HL.out; omega)
      have DR := D6.out.grown GR.out (by omega)
      have SR := S6.out.grown GR.out (by omega)
      have BJ := BK.out hN0
      have HMM : Hid (M.getD j default = M.getD j default) := rfl
      generalize hb0 : L.getD j default = b at KA KS c0 c1
      generalize hc0 : M.getD j default = c at KA KS
      have HCC := Lib.hid hc0
      clear hb0 hc0 hrow HMM
      go_wp2_with fail
      generalize hY : wr.alloc (.cells #[.complex .f32 b.a1 b.a2, .complex .f32 b.v1 b.v2] 54) = Y
      have Y0 : Blk Y wr.heap.size #[.complex .f32 b.a1 b.a2, .complex .f32 b.v1 b.v2] 54 := by rw [← hY]; exact Blk.new _ _ _
      have DY : Blk Y tb #[.int .i64 kind, .complex .f32 h1 h2, .float .f32 ls, .slice (some ⟨gt, 0, Option.none⟩) N ct] 39 := by rw [← hY]; exact DR.alloc
      have SY : Blk Y (w.heap.size + 1) #[.int .i64 t, .bool f] 49 := by rw [← hY]; exact SR.alloc
      have BY : BwBlk Y gt N (fun k => if k < j then M.getD k default else L.getD k default) := by rw [← hY]; exact BJ.alloc
      have GY : Hid (V.grownBy Y (some gt)) := by rw [← hY]; exact grown_alloc GR.out _
      have sY : wr.heap.size < Y.heap.size := by rw [← hY]; simp
      have HBY := Lib.hid BY
      have d3 := Blk.cellAt (i := 3) DY rfl
      simp only [List.getElem_toArray, List.getElem_cons_zero, List.getElem_cons_succ] at d3
      (have t0 := Blk.cellAt (i := 0) SY rfl; have t1 := Blk.cellAt (i := 1) SY rfl; simp only [List.getElem_toArray, List.getElem_cons_zero, List.getElem_cons_succ] at t0 t1)
      (have y0 := Blk.cellAt (i := 0) Y0 rfl; have y1 := Blk.cellAt (i := 1) Y0 rfl; simp only [List.getElem_toArray, List.getElem_cons_zero, List.getElem_cons_succ] at y0 y1)
      obtain ⟨e0, e1⟩ := BY.cell hlt
      have z0 := BY.free (j * 2)
      have z1 := BY.free (j * 2 + 1)
      simp only [Nat.lt_irrefl, if_false] at e0 e1
      generalize L.getD j default = bb at e0 e1
      have l0 : tb < Y.heap.size := by omega
      have l1 : w.heap.size + 1 < Y.heap.size := by omega
      have l2 : gt < Y.heap.size := by omega
      have Z0 : Hid (Below Y.heap.size Y Y.drew) := (Below.refl _ _).drew
      have l3 : wr.heap.size < Y.heap.size := sY
      have EE0 := Lib.hid e0
      have EE1 := Lib.hid e1
      have EZ0 := Lib.hid z0
      have EZ1 := Lib.hid z1
      clear hY DR SR BJ c0 c1 DY SY Y0 BY sY e0 e1 z0 z1
      go_region_held3 (fun wx => tb < wx.heap.size ∧ w.heap.size + 1 < wx.heap.size ∧ wr.heap.size < wx.heap.size ∧ gt < wx.heap.size ∧ wx.cell? ⟨tb, 3, Option.none⟩ = some (.slice (some ⟨gt, 0, Option.none⟩) N ct) ∧ wx.cell? ⟨(w.heap.size + 1), 0, Option.none⟩ = some (.int .i64 (t)) ∧ wx.cell? ⟨(w.heap.size + 1), 1, Option.none⟩ = some (.bool (f)) ∧ wx.cell? ⟨wr.heap.size, 0, Option.none⟩ = some (.complex .f32 b.a1 b.a2) ∧ wx.cell? ⟨wr.heap.size, 1, Option.none⟩ = some (.complex .f32 b.v1 b.v2))
        (((repeat' apply And.intro) <;> first | (with_reducible assumption) | (((repeat (first | (with_reducible assumption) | (with_reducible exact cNewAt (by first | rfl | (simp only [World.size_alloc, World.size_setCell, World.size_drew]; done) | omega) rfl) | (with_reducible exact sNewAt (by first | rfl | (simp only [World.size_alloc, World.size_setCell, World.size_drew]; done) | omega) rfl) | (simp; done) | (with_reducible apply cAlloc) | (with_reducible apply cDrew) | (with_reducible refine cSet (by dsimp only; omega) ?_) | (with_reducible refine cSetOff (by dsimp only; omega) ?_) | (with_reducible apply cSame) | (with_reducible refine cBelow (by assumption) ?_) | (with_reducible apply sAlloc) | (with_reducible apply sDrew) | (with_reducible refine sBelow (by assumption) ?_) | (with_reducible refine sSet (by dsimp only; omega) ?_))); first | done | (simp [*]; done)); done) | (simp only [World.size_alloc, World.size_setCell, World.size_drew]; omega) | omega | (go_keep; done) | ((repeat' (first | (with_reducible exact Below.refl _ _) | (with_reducible assumption) | (with_reducible refine Below.alloc ?_ ?_ _) | (with_reducible refine Below.drew ?_) | (with_reducible refine Below.setCell ?_ ?_ _) | (with_reducible refine Below.trans ?_ (Below.mono (by assumption) ?_)) | (with_reducible exact Nat.le_refl _) | omega | (simp only [World.size_alloc, World.size_setCell, World.size_drew]; omega) | (simp; omega) | (simp; done))); done)))
        (first
          | (go_at_call 22; (with_reducible refine (KS.call _).mono ?_); rintro e w7 ⟨rfl, hb⟩; have Z2 := Lib.hid (Z1.out.trans (hb.mono Z1.out.size)); have hz2 := Z2.out.size; have e0 := cBelow Z2.out EE0.out; have e1 := cBelow Z2.out EE1.out; have z0 := (Z2.out.frozen (p := ⟨gt, j * 2, Option.none⟩) l2).trans EZ0.out; have z1 := (Z2.out.frozen (p := ⟨gt, j * 2 + 1, Option.none⟩) l2).trans EZ1.out; have hbs := hb.size; (try simp only [World.size_alloc, World.size_setCell, World.size_drew] at hbs))
          | (go_at_call 22; (with_reducible refine (KA.call _).mono ?_); rintro e w6 ⟨rfl, hb⟩; have Z1 := Lib.hid (Z0.out.trans hb); have hz1 := Z1.out.size; have hbs := hb.size; (try simp only [World.size_alloc, World.size_setCell, World.size_drew] at hbs)))
      all_goals
        rename_i hHeld
        clear hHeld
        have B7 := HBY.out.below Z2.out
        have BN : BwBlk ((w7.setCell ⟨gt, j * 2, Option.none⟩ (.complex .f32 c.a1 c.a2)).setCell ⟨gt, j * 2 + 1, Option.none⟩ (.complex .f32 c.v1 c.v2)) gt N (fun k => if k < j + 1 then M.getD k default else L.getD k default) := B7.set hlt (fun i _ => by
          have hcc := HCC.out
          by_cases e : i = j
          · subst e
            rw [if_pos rfl]
            show (if i < i + 1 then M.getD i default else L.getD i default) = c
            rw [if_pos (Nat.lt_succ_self _)]; exact hcc
          · rw [if_neg e]
            show (if i < j + 1 then M.getD i default else L.getD i default) = if i < j then M.getD i default else L.getD i default
            by_cases e2 : i < j
            · rw [if_pos e2, if_pos (Nat.lt_succ_of_lt e2)]
            · rw [if_neg e2, if_neg (by omega)])
        have HBN := Lib.hid BN
        have HGN : Hid (V.grownBy ((w7.setCell ⟨gt, j * 2, Option.none⟩ (.complex .f32 c.a1 c.a2)).setCell ⟨gt, j * 2 + 1, Option.none⟩ (.complex .f32 c.v1 c.v2)) (some gt)) := grownBy_set (grownBy_set (grownBy_trans GY.out ⟨Z2.out.os, Z2.out.tape, Z2.out.output, Z2.out.size, fun i hi _ => Z2.out.block i hi⟩))
        clear B7 BN e0 e1 z0 z1 d3 t0 t1 y0 y1
        go_wp2
        go_roundw
        case rel => exact ⟨j + 1, by omega, by go_num, fun _ => HBN.out, HGN.out⟩
        case measure => simp [intOf]; omega
    · have hjN : j = N := by omega
      subst hjN
      have D7 : Hid (Blk wr tb #[.int .i64 kind, .complex .f32 h1 h2, .float .f32 ls, .slice a1 j ct] 39) := by
        by_cases h0 : 0 < j
        · exact D6.out.grown GR.out (by have := (N6.out h0).2.2; omega)
        · have hj0 : j = 0 := by omega
          exact D6.out.grown GR.out (by omega)
      have R7 : Hid (Blk wr (w.heap.size + 1 + 1) #[.int .i64 0, .complex .f32 0 0, .float .f32 0, .slice Option.none 0 0] 39) := R6.out.grown GR.out (by omega)
      have B7 : Hid (BwIn wr a1 M) := by
        by_cases h0 : 0 < j
        · refine .inr ⟨gt, (N6.out h0).1, (BK.out h0).row HM.out (fun k hk => ?_)⟩
          rw [if_pos hk]
        · exact .inl (List.eq_nil_of_length_eq_zero (by have := HM.out; omega))
      have G7 : Hid (Below w.heap.size w wr) := G6.out.trans (below_of_grown GR.out (by omega) (by omega))
      have s7 : V.heap.size ≤ wr.heap.size := hsz
      clear D6 S6 R6 B6 N6 G6 GR BK
      (have d0 := Blk.cellAt (i := 0) D7.out rfl; have d1 := Blk.cellAt (i := 1) D7.out rfl; have d2 := Blk.cellAt (i := 2) D7.out rfl; have d3 := Blk.cellAt (i := 3) D7.out rfl; simp only [List.getElem_toArray, List.getElem_cons_zero, List.getElem_cons_succ] at d0 d1 d2 d3)
      have l0 := D7.out.lt
      go_wp2_with fail
      refine (IT'.call _ _ _ B7.out).mono ?_
      rintro e w8 ⟨rfl, hb⟩
      have D8 : Hid (Blk w8 tb #[.int .i64 kind, .complex .f32 h1 h2, .float .f32 ls, .slice a1 j ct] 39) := D7.out.below hb
      have R8 : Hid (Blk w8 (w.heap.size + 1 + 1) #[.int .i64 0, .complex .f32 0 0, .float .f32 0, .slice Option.none 0 0] 39) := R7.out.below hb
      have B8 : Hid (BwIn w8 a1 M) := B7.out.below hb
      have G8 : Hid (Below w.heap.size w w8) := G7.out.trans (hb.mono (by omega))
      clear hb D7 R7 B7 G7 d0 d1 d2 d3 l0 IT'
      (have d0 := Blk.cellAt (i := 0) D8.out rfl; have d1 := Blk.cellAt (i := 1) D8.out rfl; have d2 := Blk.cellAt (i := 2) D8.out rfl; have d3 := Blk.cellAt (i := 3) D8.out rfl; simp only [List.getElem_toArray, List.getElem_cons_zero, List.getElem_cons_succ] at d0 d1 d2 d3)
      (have r0 := Blk.cellAt (i := 0) R8.out rfl; have r1 := Blk.cellAt (i := 1) R8.out rfl; have r2 := Blk.cellAt (i := 2) R8.out rfl; have r3 := Blk.cellAt (i := 3) R8.out rfl; simp only [List.getElem_toArray, List.getElem_cons_zero, List.getElem_cons_succ] at r0 r1 r2 r3)
      have P0 := Lib.hid r0
      have f0 := R8.out.free 0
      have f1 := R8.out.free 1
      have f2 := R8.out.free 2
      have f3 := R8.out.free 3
      have l0 := D8.out.lt
      have l1 := R8.out.lt
      have RS := ((((R8.out.set (i := 0) (v := .int .i64 kind)).set (i := 1) (v := .complex .f32 h1 h2)).set (i := 2) (v := .float .f32 ls)).set (i := 3) (v := .slice a1 j ct))
      have e0 := RS.cell 0
      have e1 := RS.cell 1
      have e2 := RS.cell 2
      have e3 := RS.cell 3
      simp only [List.setIfInBounds_toArray, List.set_cons_zero, List.set_cons_succ, List.getElem?_toArray, List.getElem?_cons_zero, List.getElem?_cons_succ] at e0 e1 e2 e3
      have E0 := Lib.hid e0
      have E1 := Lib.hid e1
      have E2 := Lib.hid e2
      have E3 := Lib.hid e3
      clear RS e0 e1 e2 e3
      go_wp2_with fail
      have e0 := E0.out
      have e1 := E1.out
      have e2 := E2.out
      have e3 := E3.out
      refine bodyPost_ret (v := .tuple #[.agg #[.int .i64 kind, .complex .f32 h1 h2, .float .f32 ls, .slice a1 j ct], .bool true]) (by simp [results, Try.results30, go_sem, e0, e1, e2, e3]) rfl ⟨a1, ct, ⟨rfl, B8.out.grownAt grown_set4 P0.out, ?_⟩⟩
      exact (((G8.out.setCell (by dsimp only; omega) _).setCell (by dsimp only; omega) _).setCell (by dsimp only; omega) _).setCell (by dsimp only; omega) _⟩
end Go.Proofs.Ytekkgpanmccdgaa

/-
  Turned tumbles, without mirrors.
-/
namespace Go.Proofs.Ytekkgpanmccdgaa
open Go.ChangeShapes Go.WideShapes Go.ChangeAt Go.RowKit Go.Joins
set_option linter.unusedSimpArgs false
set_option linter.unusedVariables false
set_option maxRecDepth 100000
attribute [local go_sem] store_f
open Ieee Go.Lib

def turnB (s : Int × Bool) (b : PtW × PtW) : PtW × PtW := (actP s b.1, actP s b.2)
theorem actP_none (p : PtW) : actP (0, false) p = p := by
  apply ptW_inj
  · rw [vX_act]; simp [actI]
  · rw [vY_act]; simp [actI]
theorem foldS_0 (p : PtW) : foldS 0 p = (0, false) := by
  have h := (foldIs (kind := 0) (by omega) (by omega) p).mem
  rw [syms0, List.mem_singleton] at h
  exact h
theorem bstep_0 (g : PtW) (k : Nat) (b : PtW × PtW) : bstep 0 g k b = (sumP b.1 (sumP b.2 g), sumP b.2 g) := by
  have h : hits 0 g b = false := by
    rw [hits_eq, foldS_0]; simp
  rw [bstep_eq, h, foldS_0, actP_none]
  simp only [Bool.false_eq_true, if_false, actP_none]
theorem bstep_turn {g : PtW} {k V A : Nat} {b : PtW × PtW} (s : Int × Bool) (hg : Lim 1 g) (hv : Lim V b.2) (ha : Lim A b.1) (h : A + (V + 1) < 1600) : bstep 0 (actP s g) k (turnB s b) = turnB s (bstep 0 g k b) := by
  obtain ⟨_, hs⟩ := lim_sum hv hg (by omega)
  rw [bstep_0, bstep_0]
  unfold turnB
  dsimp only
  rw [sum_act s hv hg (by omega), sum_act s ha hs h]
theorem wed_0 (p : PtW) : wed 0 p = true := by
  unfold wed wedI
  rw [if_pos rfl]
theorem base_0 {kind : Int} {g : PtW} {ls : Nat} {l : List (PtW × PtW)} (B : Base kind g ls l) : Base 0 g ls l :=
  ⟨by omega, by omega, B.gr, B.loss, B.few, fun b hb => ⟨(B.all b hb).1, (B.all b hb).2.1, wed_0 _⟩⟩
theorem base_turn {g : PtW} {ls : Nat} {l : List (PtW × PtW)} (s : Int × Bool) (B : Base 0 g ls l) : Base 0 (actP s g) ls (l.map (turnB s)) :=
  ⟨by omega, by omega, lim_act s B.gr, B.loss, by rw [List.length_map]; exact B.few, fun b hb => by
    obtain ⟨c, hc, rfl⟩ := List.mem_map.1 hb
    obtain ⟨h1, h2, _⟩ := B.all c hc
    exact ⟨lim_act s h1, lim_act s h2, wed_0 _⟩⟩
theorem runL_turn {g : PtW} {ls : Nat} {l : List (PtW × PtW)} (s : Int × Bool) (B : Base 0 g ls l) : ∀ j, j ≤ 24 → runL 0 (actP s g) (keptW ls) j (l.map (turnB s)) = (runL 0 g (keptW ls) j l).map (turnB s)
  | 0, _ => by rw [runL, runL]
  | j + 1, hj => by
    rw [runL, runL, runL_turn s B j (by omega), List.map_map, List.map_map]
    refine List.map_congr_left fun b hb => ?_
    obtain ⟨h1, h2, _⟩ := run_lim B j (by omega) b hb
    exact bstep_turn s B.gr h1 h2 (by omega)
theorem act_wd {s : Int × Bool} (h : isSymB s.1 = true) (b : PtW × PtW) : ActM s.1 s.2 (wd b).a1 (wd b).a2 (wd (turnB s b)).a1 (wd (turnB s b)).a2 ∧ ActM s.1 s.2 (wd b).v1 (wd b).v2 (wd (turnB s b)).v1 (wd (turnB s b)).v2 := by
  unfold wd turnB
  dsimp only
  exact ⟨actM_pt b.1 h, actM_pt b.2 h⟩
theorem runW_turn {g : PtW} {ls : Nat} {l : List (PtW × PtW)} (s : Int × Bool) (B : Base 0 g ls l) {j : Nat} (hj : j ≤ 24) : runW 0 (actP s g) ls (l.map (turnB s)) j = ((runL 0 g (keptW ls) j l).map (turnB s)).map wd := by
  unfold runW
  rw [runL_turn s B j hj]
theorem turns_run {g : PtW} {ls : Nat} {l : List (PtW × PtW)} {s : Int × Bool} (h : isSymB s.1 = true) (B : Base 0 g ls l) {j : Nat} (hj : j ≤ 24) :
    Turns s.1 s.2 0 g.1.1 g.1.2 ls l.length (runW 0 g ls l j) (actP s g).1.1 (actP s g).1.2 (runW 0 (actP s g) ls (l.map (turnB s)) j) := by
  obtain ⟨h1, h2⟩ := isSymB_iff.1 h
  have T := tum_run (base_turn s B) hj
  rw [List.length_map] at T
  have hl := runL_len 0 g (keptW ls) l j
  have key : ∀ k, k < l.length → (runW 0 g ls l j).getD k default = wd ((runL 0 g (keptW ls) j l).getD k default) ∧ (runW 0 (actP s g) ls (l.map (turnB s)) j).getD k default = wd (turnB s ((runL 0 g (keptW ls) j l).getD k default)) := fun k hk => by
    rw [runW_turn s B hj]
    refine ⟨?_, ?_⟩
    · unfold runW
      rw [getD_map wd _ (by omega)]
    · rw [getD_map wd _ (by rw [List.length_map]; omega), getD_map (turnB s) _ (by omega)]
  refine ⟨tum_run B hj, T, h1, h2, actM_pt g h, fun k hk => ?_, fun k hk => ?_⟩
  · obtain ⟨e1, e2⟩ := key k hk
    rw [e1, e2]
    exact (act_wd h _).1
  · obtain ⟨e1, e2⟩ := key k hk
    rw [e1, e2]
    exact (act_wd h _).2

/-- All that the law asks. -/
structure Tt (t : Int) (f : Bool) (g1 g2 ls n N : Nat) (L0 Ln : List Bw) (h1 h2 : Nat) (M0 Mn : List Bw) : Prop where
  turn : TurnM t f 0 g1 g2 ls N L0 h1 h2 M0
  x : RunM 17 0 h1 h2 ls n N M0 Mn
  y : RunM 17 0 g1 g2 ls n N L0 Ln
  z : TurnM t f 0 g1 g2 ls N Ln h1 h2 Mn
  same : SameT 0 h1 h2 ls N Mn
theorem tt_of {kind : Int} {g : PtW} {ls n : Nat} {l : List (PtW × PtW)} {s : Int × Bool} (h : isSymB s.1 = true) (B : Base kind g ls l) (hn : n ≤ 24) : ∃ Ln h1 h2 M0 Mn, Tt s.1 s.2 g.1.1 g.1.2 ls n l.length (l.map wd) Ln h1 h2 M0 Mn := by
  have B0 := base_0 B
  have BT := base_turn s B0
  have T0 := turnM (turns_run h B0 (j := 0) (by omega))
  have TN := turnM (turns_run h B0 hn)
  have RX := runM (runs_of BT (i := 0) (n := n) (by omega))
  have RY := runM (runs_of B0 (i := 0) (n := n) (by omega))
  have SX := same_run BT n
  rw [Nat.zero_add, List.length_map] at RX
  rw [Nat.zero_add, runW_0] at RY
  rw [List.length_map] at SX
  rw [runW_0] at T0
  exact ⟨_, _, _, _, _, ⟨T0, RX, RY, TN, SX⟩⟩
end Go.Proofs.Ytekkgpanmccdgaa

/-
  The draw of three symmetries.
-/
namespace Go.Proofs.Ytekkgpanmccdgaa
open Go.ChangeShapes Go.WideShapes Go.ChangeAt Go.RowKit Go.Joins
set_option linter.unusedSimpArgs false
set_option linter.unusedVariables false
set_option maxRecDepth 100000
attribute [local go_sem] store_f
open Ieee

structure SymsDrawn (w : World) (e : Ending) (w' : World) (i j k : Nat) : Prop where
  ret : e = .returned (.tuple #[.agg #[.int .i64 (symK i).1, .bool (symK i).2], .agg #[.int .i64 (symK j).1, .bool (symK j).2], .agg #[.int .i64 (symK k).1, .bool (symK k).2]])
  lti : i < 8
  ltj : j < 8
  ltk : k < 8
  below : Below w.heap.size w w'

/-- The list of the eight symmetries, in block g. -/
structure Row8 (w : World) (g : Nat) : Prop where
  lt : g < w.heap.size
  row : ∀ k : Nat, k < 8 → w.cell? ⟨g, k * 2, Option.none⟩ = some (.int .i64 (symK k).1) ∧ w.cell? ⟨g, k * 2 + 1, Option.none⟩ = some (.bool (symK k).2)
theorem Row8.grown {w w1 : World} {g q : Nat} (h : Row8 w g) (hg : w.grownBy w1 (some q)) (hne : g ≠ q) : Row8 w1 g :=
  ⟨Nat.lt_of_lt_of_le h.lt hg.size, fun k hk => ⟨(World.cell?_of_block (hg.block g h.lt (fun e => hne (Option.some.inj e)))).trans (h.row k hk).1, (World.cell?_of_block (hg.block g h.lt (fun e => hne (Option.some.inj e)))).trans (h.row k hk).2⟩⟩

theorem Row8.drew {w : World} {g : Nat} (h : Row8 w g) : Row8 w.drew g := ⟨h.lt, h.row⟩
theorem row_cells {w : World} {B g gc : Nat} (h : w.ownsRow B 49 2 (.slice (some ⟨g, 0, Option.none⟩) 8 gc) 8 (symCells (allTo 8))) (k : Nat) (hk : k < 8) :
    w.cell? ⟨g, k * 2, Option.none⟩ = some (.int .i64 (symK k).1) ∧ w.cell? ⟨g, k * 2 + 1, Option.none⟩ = some (.bool (symK k).2) := by
  obtain ⟨_, ⟨hv, _⟩ | ⟨g', cap, cur, hv, hb, hg, hn, hc, hsz, hx⟩⟩ := h
  · cases hv
  · cases hv
    obtain ⟨s1, s2⟩ := symCells_at k hk
    rw [← hx] at s1 s2
    rw [List.getElem?_take] at s1 s2
    rw [if_pos (by omega)] at s1 s2
    rw [cell_of_block hg, cell_of_block hg]
    exact ⟨by simpa using s1, by simpa using s2⟩

theorem rowE_set {w : World} {g : Nat} {p : Addr} {v : Value} (hne : g ≠ p.block) (h : ∀ k : Nat, k < 8 → w.cell? ⟨g, k * 2, Option.none⟩ = some (.int .i64 (symK k).1)) :
    ∀ k : Nat, k < 8 → (w.setCell p v).cell? ⟨g, k * 2, Option.none⟩ = some (.int .i64 (symK k).1) := fun k hk => cSet hne (h k hk)
theorem rowO_set {w : World} {g : Nat} {p : Addr} {v : Value} (hne : g ≠ p.block) (h : ∀ k : Nat, k < 8 → w.cell? ⟨g, k * 2 + 1, Option.none⟩ = some (.bool (symK k).2)) :
    ∀ k : Nat, k < 8 → (w.setCell p v).cell? ⟨g, k * 2 + 1, Option.none⟩ = some (.bool (symK k).2) := fun k hk => cSet hne (h k hk)
theorem Row8.even {w : World} {g : Nat} (h : Row8 w g) : ∀ k : Nat, k < 8 → w.cell? ⟨g, k * 2, Option.none⟩ = some (.int .i64 (symK k).1) := fun k hk => (h.row k hk).1
theorem Row8.odd {w : World} {g : Nat} (h : Row8 w g) : ∀ k : Nat, k < 8 → w.cell? ⟨g, k * 2 + 1, Option.none⟩ = some (.bool (symK k).2) := fun k hk => (h.row k hk).2

set_option maxHeartbeats 4000000 in
theorem drawSyms_s (a : Option Addr) (len cap : Nat) (bs : List Int) (w : World) (hrow : ByteRow w w.heap.size a len bs) (hlen : len ≤ 4096) :
    Calls Try.prog 29 #[.slice a len cap] w fun e w' => ∃ i j k, SymsDrawn w e w' i j k := by
  have HR : Hid (ByteRow w w.heap.size a len bs) := hrow
  clear hrow
  go_enter Try.func29, Try.ntmps29
  go_wp2_with fail
  generalize hW : ((w.alloc (.cells #[.int .i64 0, .bool false] 49)).alloc (.cells #[.int .i64 0, .bool false] 49)).alloc (.cells #[.int .i64 0, .bool false] 49) = W
  have hWs : W.heap.size = w.heap.size + 3 := by rw [← hW]; simp
  have hWb : Below w.heap.size w W := by rw [← hW]; (repeat' (first | (with_reducible exact Below.refl _ _) | (with_reducible assumption) | (with_reducible refine Below.alloc ?_ ?_ _) | (with_reducible refine Below.drew ?_) | (with_reducible refine Below.setCell ?_ ?_ _) | (with_reducible refine Below.trans ?_ (Below.mono (by assumption) ?_)) | (with_reducible exact Nat.le_refl _) | omega | (simp only [World.size_alloc, World.size_setCell, World.size_drew]; omega) | (simp; omega) | (simp; done)))
  have R0 : Hid (Blk W w.heap.size #[.int .i64 0, .bool false] 49) := by rw [← hW]; exact ((Blk.new _ _ _).alloc).alloc
  have R1 : Hid (Blk W (w.heap.size + 1) #[.int .i64 0, .bool false] 49) := by rw [← hW]; exact (Blk.newAt (by simp)).alloc
  have R2 : Hid (Blk W (w.heap.size + 2) #[.int .i64 0, .bool false] 49) := by rw [← hW]; exact Blk.newAt (by simp)
  clear hW
  refine (l1New_s a len cap bs _ ((HR.out.of hWb).mono hWb.size) hlen).mono ?_
  rintro e w1 ⟨q, rfl, hql, hcur, hb1⟩
  have hqB := hcur.ge
  have C1 : Hid (Cur W.heap.size w1 q) := hcur
  have S1 := hb1.size
  have B1 : Hid (Below w.heap.size w w1) := Below.trans hWb (Below.mono hb1 (by omega))
  have Q0 : Hid (Blk w1 w.heap.size #[.int .i64 0, .bool false] 49) := Blk.belowAt hb1 R0.out
  have Q1 : Hid (Blk w1 (w.heap.size + 1) #[.int .i64 0, .bool false] 49) := Blk.belowAt hb1 R1.out
  have Q2 : Hid (Blk w1 (w.heap.size + 2) #[.int .i64 0, .bool false] 49) := Blk.belowAt hb1 R2.out
  clear hcur hb1 R0 R1 R2 hWb
  go_wp2_with fail
  refine (l1All_s _).mono ?_
  rintro e w2 ⟨g, gc, rfl, hown, hb2⟩
  have C0 : Hid (Cur W.heap.size w2 q) := C1.out.below hb2
  have R00 : Hid (Blk w2 (w.heap.size + 0) #[.int .i64 0, .bool false] 49) := Blk.belowAt hb2 Q0.out
  have R01 : Hid (Blk w2 (w.heap.size + 1) #[.int .i64 0, .bool false] 49) := Blk.belowAt hb2 Q1.out
  have R02 : Hid (Blk w2 (w.heap.size + 2) #[.int .i64 0, .bool false] 49) := Blk.belowAt hb2 Q2.out
  have hgl : w1.heap.size ≤ g := (hown.lt _ rfl).1
  have L0 : Hid (Row8 w2 g) := ⟨(hown.lt _ rfl).2, fun k hk => row_cells hown k hk⟩
  have B2 : Hid (Below w.heap.size w w2) := Below.trans B1.out (Below.mono hb2 (by omega))
  have hgq : g ≠ q := by omega
  have s2 := hb2.size
  have G0 : Hid (w2.grownBy w2 (some q)) := grownBy_refl _ _
  clear hb2 hown Q0 Q1 Q2 C1 B1 HR
  go_wp2_with fail
  have he := L0.out.even
  have ho := L0.out.odd
  go_region_held3 (fun wx => (∀ k : Nat, k < 8 → wx.cell? ⟨g, k * 2, Option.none⟩ = some (.int .i64 (symK k).1)) ∧ (∀ k : Nat, k < 8 → wx.cell? ⟨g, k * 2 + 1, Option.none⟩ = some (.bool (symK k).2)))
    (((repeat' apply And.intro) <;> first | (with_reducible assumption) | (with_reducible exact L3.out.even) | (with_reducible exact L3.out.odd) | (with_reducible exact L2.out.even) | (with_reducible exact L2.out.odd) | (with_reducible exact L1.out.even) | (with_reducible exact L1.out.odd) | (with_reducible exact L0.out.even) | (with_reducible exact L0.out.odd) | ((repeat ((with_reducible refine rowE_set ?_ ?_); (focus (dsimp only; omega)))); (with_reducible exact L3.out.even)) | ((repeat ((with_reducible refine rowO_set ?_ ?_); (focus (dsimp only; omega)))); (with_reducible exact L3.out.odd)) | exact Row8.even (Row8.drew L0.out) | exact Row8.odd (Row8.drew L0.out)))
    (first | (go_at_call 51; refine (l1Below_s W.heap.size q 8 w2.drew (show Cur W.heap.size w2.drew q from C0.out) (by omega) (by omega)).mono ?_; rintro e w4 ⟨x1, rfl, p1, r1, hc, hg⟩; obtain ⟨n1, rfl⟩ : ∃ n : Nat, x1 = n := ⟨x1.toNat, by omega⟩; have h1 : n1 < 8 := (by omega); have C1 : Hid (Cur W.heap.size w4 q) := hc; have G1 : Hid (w2.grownBy w4 (some q)) := grownBy_trans (show w2.grownBy w2.drew (some q) from grownBy_draws (n := 1) G0.out) hg; have L1 : Hid (Row8 w4 g) := (Row8.drew L0.out).grown hg hgq; have R10 : Hid (Blk w4 (w.heap.size + 0) #[.int .i64 0, .bool false] 49) := Blk.grown (show Blk w2.drew (w.heap.size + 0) #[.int .i64 0, .bool false] 49 from R00.out) hg (by omega); have R11 : Hid (Blk w4 (w.heap.size + 1) #[.int .i64 0, .bool false] 49) := Blk.grown (show Blk w2.drew (w.heap.size + 1) #[.int .i64 0, .bool false] 49 from R01.out) hg (by omega); have R12 : Hid (Blk w4 (w.heap.size + 2) #[.int .i64 0, .bool false] 49) := Blk.grown (show Blk w2.drew (w.heap.size + 2) #[.int .i64 0, .bool false] 49 from R02.out) hg (by omega); clear hc hg) | (go_at_call 51; refine (l1Below_s W.heap.size q 8 _ C1.out (by omega) (by omega)).mono ?_; rintro e w5 ⟨x2, rfl, p2, r2, hc, hg⟩; obtain ⟨n2, rfl⟩ : ∃ n : Nat, x2 = n := ⟨x2.toNat, by omega⟩; have h2 : n2 < 8 := (by omega); have C2 : Hid (Cur W.heap.size w5 q) := hc; have G2 : Hid (w2.grownBy w5 (some q)) := grownBy_trans G1.out hg; have L2 : Hid (Row8 w5 g) := L1.out.grown hg hgq; have R20 : Hid (Blk w5 (w.heap.size + 0) #[.int .i64 0, .bool false] 49) := Blk.grown R10.out hg (by omega); have R21 : Hid (Blk w5 (w.heap.size + 1) #[.int .i64 0, .bool false] 49) := Blk.grown R11.out hg (by omega); have R22 : Hid (Blk w5 (w.heap.size + 2) #[.int .i64 0, .bool false] 49) := Blk.grown R12.out hg (by omega); clear hc hg) | (go_at_call 51; refine (l1Below_s W.heap.size q 8 _ C2.out (by omega) (by omega)).mono ?_; rintro e w6 ⟨x3, rfl, p3, r3, hc, hg⟩; obtain ⟨n3, rfl⟩ : ∃ n : Nat, x3 = n := ⟨x3.toNat, by omega⟩; have h3 : n3 < 8 := (by omega); have C3 : Hid (Cur W.heap.size w6 q) := hc; have G3 : Hid (w2.grownBy w6 (some q)) := grownBy_trans G2.out hg; have L3 : Hid (Row8 w6 g) := L2.out.grown hg hgq; have R30 : Hid (Blk w6 (w.heap.size + 0) #[.int .i64 0, .bool false] 49) := Blk.grown R20.out hg (by omega); have R31 : Hid (Blk w6 (w.heap.size + 1) #[.int .i64 0, .bool false] 49) := Blk.grown R21.out hg (by omega); have R32 : Hid (Blk w6 (w.heap.size + 2) #[.int .i64 0, .bool false] 49) := Blk.grown R22.out hg (by omega); have a0 : w6.cell? ⟨w.heap.size, 0, Option.none⟩ = some (.int .i64 0) := R30.out.cell 0; have e0 : w6.cell? ⟨w.heap.size, 1, Option.none⟩ = some (.bool false) := R30.out.cell 1; have f0 : w6.frozen? ⟨w.heap.size, 0, Option.none⟩ = false := R30.out.free 0; have g0 : w6.frozen? ⟨w.heap.size, 1, Option.none⟩ = false := R30.out.free 1; have a1 : w6.cell? ⟨w.heap.size + 1, 0, Option.none⟩ = some (.int .i64 0) := R31.out.cell 0; have e1 : w6.cell? ⟨w.heap.size + 1, 1, Option.none⟩ = some (.bool false) := R31.out.cell 1; have f1 : w6.frozen? ⟨w.heap.size + 1, 0, Option.none⟩ = false := R31.out.free 0; have g1 : w6.frozen? ⟨w.heap.size + 1, 1, Option.none⟩ = false := R31.out.free 1; have a2 : w6.cell? ⟨w.heap.size + 1 + 1, 0, Option.none⟩ = some (.int .i64 0) := R32.out.cell 0; have e2 : w6.cell? ⟨w.heap.size + 1 + 1, 1, Option.none⟩ = some (.bool false) := R32.out.cell 1; have f2 : w6.frozen? ⟨w.heap.size + 1 + 1, 0, Option.none⟩ = false := R32.out.free 0; have g2 : w6.frozen? ⟨w.heap.size + 1 + 1, 1, Option.none⟩ = false := R32.out.free 1; clear hc hg))
  rename_i hHeld
  clear hHeld he ho a0 e0 f0 g0 a1 e1 f1 g1 a2 e2 f2 g2
  have BX : Hid (Below w.heap.size w w6) := Below.trans B2.out (below_of_grown G3.out (by omega) (by omega))
  generalize hX : (((((w6.setCell ⟨w.heap.size, 0, Option.none⟩ (.int .i64 (symK n1).1)).setCell ⟨w.heap.size, 1, Option.none⟩ (.bool (symK n1).2)).setCell ⟨w.heap.size + 1, 0, Option.none⟩ (.int .i64 (symK n2).1)).setCell ⟨w.heap.size + 1, 1, Option.none⟩ (.bool (symK n2).2)).setCell ⟨w.heap.size + 1 + 1, 0, Option.none⟩ (.int .i64 (symK n3).1)).setCell ⟨w.heap.size + 1 + 1, 1, Option.none⟩ (.bool (symK n3).2) = X
  have D0 : Blk X w.heap.size #[.int .i64 (symK n1).1, .bool (symK n1).2] 49 := by
    rw [← hX]
    exact (((((Blk.setAt (b := w.heap.size) rfl (Blk.setAt (b := w.heap.size) rfl R30.out rfl) rfl).other (by dsimp only; omega)).other (by dsimp only; omega)).other (by dsimp only; omega)).other (by dsimp only; omega))
  have D1 : Blk X (w.heap.size + 1) #[.int .i64 (symK n2).1, .bool (symK n2).2] 49 := by
    rw [← hX]
    exact ((Blk.setAt (b := w.heap.size + 1) rfl (Blk.setAt (b := w.heap.size + 1) rfl ((R31.out.other (by dsimp only; omega)).other (by dsimp only; omega)) rfl) rfl).other (by dsimp only; omega)).other (by dsimp only; omega)
  have D2 : Blk X (w.heap.size + 1 + 1) #[.int .i64 (symK n3).1, .bool (symK n3).2] 49 := by
    rw [← hX]
    exact Blk.setAt (b := w.heap.size + 1 + 1) rfl (Blk.setAt (b := w.heap.size + 1 + 1) rfl ((((R32.out.other (by dsimp only; omega)).other (by dsimp only; omega)).other (by dsimp only; omega)).other (by dsimp only; omega)) rfl) rfl
  have HB : Hid (Below w.heap.size w X) := by
    rw [← hX]
    exact (((((BX.out.setCell (Nat.le_refl _) _).setCell (Nat.le_refl _) _).setCell (by dsimp only; omega) _).setCell (by dsimp only; omega) _).setCell (by dsimp only; omega) _).setCell (by dsimp only; omega) _
  clear hX
  have c0 := Blk.cellAt (i := 0) D0 rfl
  have c1 := Blk.cellAt (i := 1) D0 rfl
  have c2 := Blk.cellAt (i := 0) D1 rfl
  have c3 := Blk.cellAt (i := 1) D1 rfl
  have c4 := Blk.cellAt (i := 0) D2 rfl
  have c5 := Blk.cellAt (i := 1) D2 rfl
  simp only [List.getElem_toArray, List.getElem_cons_zero, List.getElem_cons_succ] at c0 c1 c2 c3 c4 c5
  clear D0 D1 D2
  go_wp2
  exact bodyPost_ret (v := .tuple #[.agg #[.int .i64 (symK n1).1, .bool (symK n1).2], .agg #[.int .i64 (symK n2).1, .bool (symK n2).2], .agg #[.int .i64 (symK n3).1, .bool (symK n3).2]]) (by simp [results, Try.results29, go_sem, c0, c1, c2, c3, c4, c5]) rfl ⟨n1, n2, n3, rfl, h1, h2, h3, HB.out⟩
end Go.Proofs.Ytekkgpanmccdgaa
