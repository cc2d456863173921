/-
  Texts Uv Uw Ux Mb Mc Tt, joined.
-/
import Derived.Test.YtfdgijmmgllmgaaGreatR28
import Derived.Test.YtfdgijmmgllmgaaGreatR12
import Derived.Test.YtfdgijmmgllmgaaGreatR05
import Derived.Deep.QuietTactic
import Derived.BigQuiet
import Derived.Test.YtfdgijmmgllmgaaGreatR10
import Derived.Deep.RegionHeld3
import Derived.Test.YtfdgijmmgllmgaaGreatR21
import Derived.Test.YtfdgijmmgllmgaaGreatR09
import Derived.Deep.DeepCutAuto
namespace Go.Proofs.YtfdgijmmgllmgaaGreat
open Go.ChangeShapes Go.WideShapes Go.ChangeAt Go.RowKit Go.Joins
set_option linter.unusedSimpArgs false
set_option linter.unusedVariables false
set_option maxRecDepth 100000
attribute [local go_sem] store_f
open Ieee Go.Lib
attribute [local go_sem] store_c
theorem chainG {S T : Shw} {l : List Ev} {d : Nat} (G : Good S) (hl : ∀ e ∈ l, e.Ok) (hd : d ≤ l.length) (h : runE S (l.take d) = some T) (hno : d < l.length → doE T (l.getD d default) = none) (hc : cost (S.log ++ l) ≤ 10) (hn : S.log.length + l.length ≤ 24) :
    Chain 9 (fun j => (stAt S l j).w) (fun j => (stAt S l j).bds.length) (fun j => (stAt S l j).log.length) (l.map Ev.w) l.length d := by
  have hst : ∀ j, j ≤ d → runE S (l.take j) = some (stAt S l j) := fun j hj => by
    have h1 := stAt_run h j
    rw [List.take_take, Nat.min_eq_left hj] at h1
    rw [h1]
    unfold stAt
    rw [List.take_take, Nat.min_eq_left hj]
  have hcj : ∀ j, cost (S.log ++ l.take j) ≤ 10 := fun j => by
    rw [cost_append] at hc ⊢
    have : cost l = cost (l.take j) + cost (l.drop j) := by rw [← cost_append, List.take_append_drop]
    omega
  have hg : ∀ j, j ≤ d → Good (stAt S l j) := fun j hj => good_run G (fun e he => hl e (List.mem_of_mem_take he)) (hst j hj) (hcj j) (by simp; omega)
  have hlog : ∀ j, j ≤ d → (stAt S l j).log = S.log ++ l.take j := fun j hj => (runE_log (hst j hj)).1
  have hT : stAt S l d = T := by
    have := hst d (Nat.le_refl _)
    rw [h] at this
    exact (Option.some.inj this).symm
  have hlt : ∀ j, j < l.length → (l.getD j default).Ok := fun j hj => hl _ (getD_mem hj)
  have hw : ∀ j, j < l.length → (l.map Ev.w).getD j default = (l.getD j default).w := fun j hj => getD_map Ev.w _ hj
  refine ⟨by simp, hd, by omega, fun j hj => ?_, fun hj => ?_⟩
  · have hjl : j < l.length := by omega
    have e1 : l.take (j + 1) = l.take j ++ [l.getD j default] := by
      rw [List.take_succ_eq_append_getElem hjl]; simp [List.getD, hjl]
    have h2 := hst (j + 1) (by omega)
    rw [e1, runE_append, hst j (by omega)] at h2
    simp only [Option.bind_some, runE] at h2
    have h3 : doE (stAt S l j) (l.getD j default) = some (stAt S l (j + 1)) := by
      cases hx : doE (stAt S l j) (l.getD j default) with
      | none => rw [hx] at h2; simp at h2
      | some U => rw [hx] at h2; simpa using h2
    have hlen := hlog j (by omega)
    rw [hw j hjl]
    refine doE_some (hg j (by omega)) (hlt j hjl) h3 ?_ ?_
    · rw [hlen, List.append_assoc, ← e1]; exact hcj (j + 1)
    · rw [hlen]; simp; omega
  · rw [hw d hj]
    refine doE_none (hg d (Nat.le_refl _)) (hlt d hj) (by rw [hT]; exact hno hj) ?_
    rw [hlog d (Nat.le_refl _)]; simp; omega
theorem runS_all {S T : Shw} {l : List Ev} (G : Good S) (hl : ∀ e ∈ l, e.Ok) (h : runE S l = some T) (hc : cost (S.log ++ l) ≤ 10) (hn : S.log.length + l.length ≤ 24) :
    RunSM 14 S.w S.bds.length S.bds.length S.log.length (l.map Ev.w) l.length T.w T.bds.length T.bds.length T.log.length l.length := by
  have C := chainG G hl (Nat.le_refl _) (by rw [List.take_length]; exact h) (fun h => absurd h (Nat.lt_irrefl _)) hc hn
  have R := runS G.copy C
  rw [stAt_all h] at R
  exact R
structure NewM (F : FuncId) (kind size : Int) (step : Nat) (c : Lit) (s : Sho) : Prop where
  call : ∀ w : World, Calls Tryz.prog F #[.int .i64 kind, .int .i64 size, .float .f32 step, .agg #[.float .f32 c.r, .float .f32 c.g, .float .f32 c.b]] w fun r w' => r = .returned (.tuple #[.agg #[.int .i64 s.size, .float .f32 s.step, .float .f32 s.lit.r, .float .f32 s.lit.g, .float .f32 s.lit.b, .slice Option.none 0 0, .int .i64 s.kind, .complex .f32 s.g1 s.g2, .float .f32 0, .slice Option.none 0 0, .int .i64 s.ticks, .slice Option.none 0 0], .bool true]) ∧ Below w.heap.size w w'
def bare (kind size : Int) (step : Nat) (c : Lit) : Sho := ⟨size, step, c, [], kind, 0, 0, [], 0, []⟩
theorem bare_in (W : World) (kind size : Int) (step : Nat) (c : Lit) : ShoIn W (bare kind size step c) Option.none Option.none Option.none := ⟨.inl rfl, .inl rfl, .inl rfl⟩
set_option maxHeartbeats 16000000 in
theorem newM {kind size : Int} {step : Nat} {c : Lit} (S : ShIs 10 (bare kind size step c) 0 0 0 true) : NewM 13 kind size step c (bare kind size step c) := ⟨fun w => by
  go_enter Tryz.func13, Tryz.ntmps13
  go_wp2_with fail
  generalize hX : ((w.alloc (.cells #[.float .f32 c.r, .float .f32 c.g, .float .f32 c.b] 26)).alloc (.cells #[.int .i64 0, .float .f32 0, .float .f32 0, .float .f32 0, .float .f32 0, .slice Option.none 0 0, .int .i64 0, .complex .f32 0 0, .float .f32 0, .slice Option.none 0 0, .int .i64 0, .slice Option.none 0 0] 34)).alloc (.cells #[.int .i64 size, .float .f32 step, .float .f32 c.r, .float .f32 c.g, .float .f32 c.b, .slice Option.none 0 0, .int .i64 kind, .complex .f32 0 0, .float .f32 0, .slice Option.none 0 0, .int .i64 0, .slice Option.none 0 0] 34) = X
  have R0 : Hid (Blk X (w.heap.size + 1) #[.int .i64 0, .float .f32 0, .float .f32 0, .float .f32 0, .float .f32 0, .slice Option.none 0 0, .int .i64 0, .complex .f32 0 0, .float .f32 0, .slice Option.none 0 0, .int .i64 0, .slice Option.none 0 0] 34) := by rw [← hX]; exact (Blk.newAt (by simp)).alloc
  have B0 : Hid (Blk X (w.heap.size + 1 + 1) #[.int .i64 size, .float .f32 step, .float .f32 c.r, .float .f32 c.g, .float .f32 c.b, .slice Option.none 0 0, .int .i64 kind, .complex .f32 0 0, .float .f32 0, .slice Option.none 0 0, .int .i64 0, .slice Option.none 0 0] 34) := by rw [← hX]; exact Blk.newAt (by simp)
  have G0 : Hid (Below w.heap.size w X) := by rw [← hX]; show Below w.heap.size w _; (repeat' (first | (with_reducible exact Below.refl _ _) | (with_reducible assumption) | (with_reducible refine Below.alloc ?_ ?_ _) | (with_reducible refine Below.drew ?_) | (with_reducible refine Below.setCell ?_ ?_ _) | (with_reducible refine Below.trans ?_ (Below.mono (by assumption) ?_)) | (with_reducible exact Nat.le_refl _) | omega | (simp only [World.size_alloc, World.size_setCell, World.size_drew]; omega) | (simp; omega) | (simp; done)))
  clear hX
  refine (S.call _ Option.none Option.none Option.none 0 0 0 (bare_in _ _ _ _ _)).mono ?_
  rintro r w1 ⟨rfl, hb⟩
  have B1 := B0.out.below hb
  have R1 := R0.out.below hb
  have G1 : Hid (Below w.heap.size w w1) := G0.out.trans (hb.mono G0.out.size)
  clear hb R0 B0 G0 S
  (obtain ⟨p0, p1, p2, p3, p4, p5, p6, p7, p8, p9, p10, p11⟩ := blk12 (B1))
  (obtain ⟨q0, q1, q2, q3, q4, q5, q6, q7, q8, q9, q10, q11⟩ := blk12 (R1))
  (have h0 := R1.free 0; have h1 := R1.free 1; have h2 := R1.free 2; have h3 := R1.free 3; have h4 := R1.free 4; have h5 := R1.free 5; have h6 := R1.free 6; have h7 := R1.free 7; have h8 := R1.free 8; have h9 := R1.free 9; have h10 := R1.free 10; have h11 := R1.free 11)
  have l1 := R1.lt
  have l2 := B1.lt
  have P5 := Lib.hid (put_z (t := bare kind size step c) (x' := .slice Option.none 0 0) (y' := .slice Option.none 0 0) (z' := .slice Option.none 0 0) R1)
  clear R1 B1
  simp only [bare] at P5
  go_wp2_with fail
  (obtain ⟨e0, e1, e2, e3, e4, e5, e6, e7, e8, e9, e10, e11⟩ := blk12 (P5.out))
  refine bodyPost_ret (v := .tuple #[.agg #[.int .i64 (bare kind size step c).size, .float .f32 (bare kind size step c).step, .float .f32 (bare kind size step c).lit.r, .float .f32 (bare kind size step c).lit.g, .float .f32 (bare kind size step c).lit.b, .slice Option.none 0 0, .int .i64 (bare kind size step c).kind, .complex .f32 (bare kind size step c).g1 (bare kind size step c).g2, .float .f32 0, .slice Option.none 0 0, .int .i64 (bare kind size step c).ticks, .slice Option.none 0 0], .bool true]) (by simp [results, Tryz.results13, go_sem, bare, e0, e1, e2, e3, e4, e5, e6, e7, e8, e9, e10, e11]) rfl ⟨rfl, ?_⟩
  exact below12 G1.out (by omega)⟩
structure RepM (F : FuncId) (s : Sho) (N M K : Nat) (t : Sho) (N' M' K' : Nat) : Prop where
  call : ∀ (w : World) (a b l : Option Addr) (ca cb cl : Nat), ShoIn w s a b l → Calls Tryz.prog F #[.agg #[.int .i64 s.size, .float .f32 s.step, .float .f32 s.lit.r, .float .f32 s.lit.g, .float .f32 s.lit.b, .slice a N ca, .int .i64 s.kind, .complex .f32 s.g1 s.g2, .float .f32 0, .slice b M cb, .int .i64 s.ticks, .slice l K cl]] w fun r w' => ∃ a' b' l' ca' cb' cl', ShoRet w r w' t N' M' K' a' b' l' ca' cb' cl' true
set_option maxHeartbeats 32000000 in
theorem repM {s t : Sho} {N M K N' M' K' : Nat} (S : ShIs 10 s N M K true) (W : NewM 13 0 s.size s.step lit0 (bare 0 s.size s.step lit0)) (R : RunSM 14 (bare 0 s.size s.step lit0) 0 0 0 s.log K t N' M' K' K) : RepM 12 s N M K t N' M' K' := ⟨fun w a b l ca cb cl hr => by
  have HR := Lib.hid hr
  clear hr
  go_enter Tryz.func12, Tryz.ntmps12
  go_wp2_with fail
  generalize hX : (w.alloc (.cells #[.int .i64 s.size, .float .f32 s.step, .float .f32 s.lit.r, .float .f32 s.lit.g, .float .f32 s.lit.b, .slice a N ca, .int .i64 s.kind, .complex .f32 s.g1 s.g2, .float .f32 0, .slice b M cb, .int .i64 s.ticks, .slice l K cl] 34)).alloc (.cells #[.int .i64 0, .float .f32 0, .float .f32 0, .float .f32 0, .float .f32 0, .slice Option.none 0 0, .int .i64 0, .complex .f32 0 0, .float .f32 0, .slice Option.none 0 0, .int .i64 0, .slice Option.none 0 0] 34) = X
  have B0 : Hid (Blk X w.heap.size #[.int .i64 s.size, .float .f32 s.step, .float .f32 s.lit.r, .float .f32 s.lit.g, .float .f32 s.lit.b, .slice a N ca, .int .i64 s.kind, .complex .f32 s.g1 s.g2, .float .f32 0, .slice b M cb, .int .i64 s.ticks, .slice l K cl] 34) := by rw [← hX]; exact (Blk.new _ _ _).alloc
  have R0 : Hid (Blk X (w.heap.size + 1) #[.int .i64 0, .float .f32 0, .float .f32 0, .float .f32 0, .float .f32 0, .slice Option.none 0 0, .int .i64 0, .complex .f32 0 0, .float .f32 0, .slice Option.none 0 0, .int .i64 0, .slice Option.none 0 0] 34) := by rw [← hX]; exact Blk.newAt (by simp)
  have I0 : Hid (ShoIn X s a b l) := by rw [← hX]; exact HR.out.alloc.alloc
  have G0 : Hid (Below w.heap.size w X) := by rw [← hX]; show Below w.heap.size w _; (repeat' (first | (with_reducible exact Below.refl _ _) | (with_reducible assumption) | (with_reducible refine Below.alloc ?_ ?_ _) | (with_reducible refine Below.drew ?_) | (with_reducible refine Below.setCell ?_ ?_ _) | (with_reducible refine Below.trans ?_ (Below.mono (by assumption) ?_)) | (with_reducible exact Nat.le_refl _) | omega | (simp only [World.size_alloc, World.size_setCell, World.size_drew]; omega) | (simp; omega) | (simp; done)))
  clear hX HR
  refine (S.call _ _ _ _ _ _ _ I0.out).mono ?_
  rintro r w1 ⟨rfl, hb⟩
  have B1 := Lib.hid (B0.out.below hb)
  have R1 := Lib.hid (R0.out.below hb)
  have I1 := Lib.hid (I0.out.below hb)
  have G1 : Hid (Below w.heap.size w w1) := G0.out.trans (hb.mono G0.out.size)
  clear hb B0 R0 I0 G0 S
  (obtain ⟨p0, p1, p2, p3, p4, p5, p6, p7, p8, p9, p10, p11⟩ := blk12 (B1.out))
  have l1 := B1.out.lt
  go_wp2_with fail
  refine (W.call _).mono ?_
  rintro r w2 ⟨rfl, hb⟩
  have B2 := Lib.hid (B1.out.below hb)
  have R2 := Lib.hid (R1.out.below hb)
  have I2 := Lib.hid (I1.out.below hb)
  have G2 : Hid (Below w.heap.size w w2) := G1.out.trans (hb.mono G1.out.size)
  have B2a := B2.out.alloc (o := .cells #[.int .i64 (bare 0 s.size s.step lit0).size, .float .f32 (bare 0 s.size s.step lit0).step, .float .f32 (bare 0 s.size s.step lit0).lit.r, .float .f32 (bare 0 s.size s.step lit0).lit.g, .float .f32 (bare 0 s.size s.step lit0).lit.b, .slice Option.none 0 0, .int .i64 (bare 0 s.size s.step lit0).kind, .complex .f32 (bare 0 s.size s.step lit0).g1 (bare 0 s.size s.step lit0).g2, .float .f32 0, .slice Option.none 0 0, .int .i64 (bare 0 s.size s.step lit0).ticks, .slice Option.none 0 0] 34)
  clear hb B1 R1 I1 G1 W p0 p1 p2 p3 p4 p5 p6 p7 p8 p9 p10 p11 l1
  (obtain ⟨p0, p1, p2, p3, p4, p5, p6, p7, p8, p9, p10, p11⟩ := blk12 (B2a))
  have l1 := B2.out.lt
  clear B2a
  simp only [bare] at p0 p1 p2 p3 p4 p5 p6 p7 p8 p9 p10 p11 ⊢
  go_wp2_with fail
  refine (R.call _ Option.none Option.none Option.none l 0 0 0 cl (bare_in _ _ _ _ _) (evs_of_lies (I2.out.alloc).lg)).mono ?_
  rintro r w3 ⟨a3, b3, l3, ca3, cb3, cl3, ⟨rfl, hI3, hb⟩⟩
  have I3 := Lib.hid hI3
  have BA := (B2.out.alloc.below hb).alloc (o := .cells #[.int .i64 t.size, .float .f32 t.step, .float .f32 t.lit.r, .float .f32 t.lit.g, .float .f32 t.lit.b, .slice a3 N' ca3, .int .i64 t.kind, .complex .f32 t.g1 t.g2, .float .f32 0, .slice b3 M' cb3, .int .i64 t.ticks, .slice l3 K' cl3] 34)
  have RA := (R2.out.alloc.below hb).alloc (o := .cells #[.int .i64 t.size, .float .f32 t.step, .float .f32 t.lit.r, .float .f32 t.lit.g, .float .f32 t.lit.b, .slice a3 N' ca3, .int .i64 t.kind, .complex .f32 t.g1 t.g2, .float .f32 0, .slice b3 M' cb3, .int .i64 t.ticks, .slice l3 K' cl3] 34)
  have s2 := G2.out.size
  have G3 : Hid (Below w.heap.size w w3) := (G2.out.alloc s2 _).trans (hb.mono (by simp; omega))
  clear hI3 hb R2 B2 I2 G2 R p0 p1 p2 p3 p4 p5 p6 p7 p8 p9 p10 p11 l1
  (obtain ⟨p0, p1, p2, p3, p4, p5, p6, p7, p8, p9, p10, p11⟩ := blk12 (BA))
  (obtain ⟨q0, q1, q2, q3, q4, q5, q6, q7, q8, q9, q10, q11⟩ := blk12 (RA))
  (have h0 := RA.free 0; have h1 := RA.free 1; have h2 := RA.free 2; have h3 := RA.free 3; have h4 := RA.free 4; have h5 := RA.free 5; have h6 := RA.free 6; have h7 := RA.free 7; have h8 := RA.free 8; have h9 := RA.free 9; have h10 := RA.free 10; have h11 := RA.free 11)
  have l1 := RA.lt
  have l2 := BA.lt
  have P5 := Lib.hid (put_z (t := t) (x' := .slice a3 N' ca3) (y' := .slice b3 M' cb3) (z' := .slice l3 K' cl3) RA)
  clear RA BA
  go_wp2_with fail
  (obtain ⟨e0, e1, e2, e3, e4, e5, e6, e7, e8, e9, e10, e11⟩ := blk12 (P5.out))
  refine bodyPost_ret (v := .tuple #[.agg #[.int .i64 t.size, .float .f32 t.step, .float .f32 t.lit.r, .float .f32 t.lit.g, .float .f32 t.lit.b, .slice a3 N' ca3, .int .i64 t.kind, .complex .f32 t.g1 t.g2, .float .f32 0, .slice b3 M' cb3, .int .i64 t.ticks, .slice l3 K' cl3], .bool true]) (by simp [results, Tryz.results12, go_sem, e0, e1, e2, e3, e4, e5, e6, e7, e8, e9, e10, e11]) rfl ⟨a3, b3, l3, ca3, cb3, cl3, ⟨rfl, ?_, ?_⟩⟩
  · exact I3.out.alloc.grownAt grown12 q1
  · exact below12 (G3.out.alloc (by have := G3.out.size; omega) _) (by omega)⟩
end Go.Proofs.YtfdgijmmgllmgaaGreat
namespace Go.Proofs.YtfdgijmmgllmgaaGreat
open Go.ChangeShapes Go.WideShapes Go.ChangeAt Go.RowKit Go.Joins
set_option linter.unusedSimpArgs false
set_option linter.unusedVariables false
set_option maxRecDepth 100000
attribute [local go_sem] store_f
open Ieee Go.Lib
attribute [local go_sem] store_c run_equalIn_c run_equalIn_g
structure EqSh (L : List Shd) : Prop where
  call : ∀ (w : World) (a b : Option Addr) (ca cb : Nat), LiesZ w a (shCells L) → LiesZ w b (shCells L) → Calls Tryz.prog 36 #[.slice a L.length ca, .slice b L.length cb] w fun e w' => e = .returned (.bool true) ∧ Below w.heap.size w w'
structure EqEv (L : List Evw) : Prop where
  call : ∀ (w : World) (a b : Option Addr) (ca cb : Nat), LiesZ w a (evCells L) → LiesZ w b (evCells L) → Calls Tryz.prog 37 #[.slice a L.length ca, .slice b L.length cb] w fun e w' => e = .returned (.bool true) ∧ Below w.heap.size w w'
theorem sh_nil {l : List Shd} (h : shCells l = []) : l = [] := flat_nil (f := Shd.cells) (m := 7) (by omega) (fun _ => rfl) h
structure ShAt (W : World) (b o : Nat) (s : Shd) : Prop where
  c0 : W.cell? ⟨b, o, Option.none⟩ = some (.complex .f32 s.a1 s.a2)
  c1 : W.cell? ⟨b, o + 1, Option.none⟩ = some (.complex .f32 s.b1 s.b2)
  c2 : W.cell? ⟨b, o + 2, Option.none⟩ = some (.complex .f32 s.c1 s.c2)
  c3 : W.cell? ⟨b, o + 3, Option.none⟩ = some (.float .f32 s.r)
  c4 : W.cell? ⟨b, o + 4, Option.none⟩ = some (.float .f32 s.g)
  c5 : W.cell? ⟨b, o + 5, Option.none⟩ = some (.float .f32 s.b)
  c6 : W.cell? ⟨b, o + 6, Option.none⟩ = some (.float .f32 s.k)
theorem shAt {W : World} {b off : Nat} {l : List Shd} (h : LieAt W b off (shCells l)) {k : Nat} (hk : k < l.length) : ShAt W b (off + k * 7) (l.getD k default) := by
  have hf : ∀ x : Shd, x.cells.length = 7 := fun _ => rfl
  refine ⟨?_, ?_, ?_, ?_, ?_, ?_, ?_⟩
  · exact h.get hf hk (j := 0) rfl
  · exact h.get hf hk (j := 1) rfl
  · exact h.get hf hk (j := 2) rfl
  · exact h.get hf hk (j := 3) rfl
  · exact h.get hf hk (j := 4) rfl
  · exact h.get hf hk (j := 5) rfl
  · exact h.get hf hk (j := 6) rfl
set_option maxHeartbeats 8000000 in
theorem eqSh {L : List Shd} (hn : L.length ≤ 12) (hf : ∀ s ∈ L, s.Fin) : EqSh L := ⟨fun w a b ca cb h1 h2 => by
  have R1 := Lib.hid h1
  have R2 := Lib.hid h2
  have HF := Lib.hid hf
  obtain ⟨N, hN⟩ : ∃ N, N = L.length := ⟨_, rfl⟩
  have HN := Lib.hid hN
  rw [← hN] at hn ⊢
  clear h1 h2 hf hN
  go_enter Tryz.func36, Tryz.ntmps36
  go_wp2_with fail
  go_loopw [13] (fun i wr => ∃ j : Nat, j ≤ N ∧ i = .int .i64 j ∧ Below w.heap.size w wr) (fun i _ => N - (intOf i).toNat)
  case atStart => exact ⟨0, by omega, rfl, Below.refl _ _⟩
  case round =>
    obtain ⟨j, hj, rfl, hbel⟩ := hrel
    by_cases hlt : j < N
    · rcases R1.out with hnil | ⟨g, rfl, hr1⟩
      · exfalso; have := HN.out; rw [sh_nil hnil] at this; simp at this; omega
      rcases R2.out with hnil | ⟨k, rfl, hr2⟩
      · exfalso; have := HN.out; rw [sh_nil hnil] at this; simp at this; omega
      have EA := shAt (hr1.below hbel) (k := j) (by have := HN.out; omega)
      have EB := shAt (hr2.below hbel) (k := j) (by have := HN.out; omega)
      have op := fun w => run_eq_shd (HF.out (L.getD j default) (getD_mem (by have := HN.out; omega))) w
      obtain ⟨s, hs⟩ : ∃ s, L.getD j default = s := ⟨_, rfl⟩
      rw [hs] at EA EB
      simp only [hs] at op
      rw [Nat.zero_add] at EA EB
      obtain ⟨c0, c1, c2, c3, c4, c5, c6⟩ := EA
      obtain ⟨d0, d1, d2, d3, d4, d5, d6⟩ := EB
      have hj0 : (0 : Int) ≤ (j : Int) := by omega
      have hj1 : (j : Int) < (N : Int) := by omega
      clear hr1 hr2 hs
      go_wp2_with fail
      go_quiet (fail)
      go_wp2
      have hds := hbel.size
      go_roundw
      case rel => exact ⟨j + 1, by omega, by go_num, hbel.trans (below_draws _ _ _)⟩
      case measure => simp [intOf]; omega
    · have hjm : j = N := by omega
      subst hjm
      go_wp2
      go_ret
      exact ⟨rfl, hbel⟩⟩
set_option maxHeartbeats 8000000 in
theorem eqEv {L : List Evw} (hn : L.length ≤ 32) (hf : ∀ s ∈ L, s.Fin) : EqEv L := ⟨fun w a b ca cb h1 h2 => by
  have R1 := Lib.hid h1
  have R2 := Lib.hid h2
  have HF := Lib.hid hf
  obtain ⟨N, hN⟩ : ∃ N, N = L.length := ⟨_, rfl⟩
  have HN := Lib.hid hN
  rw [← hN] at hn ⊢
  clear h1 h2 hf hN
  go_enter Tryz.func37, Tryz.ntmps37
  go_wp2_with fail
  go_loopw [13] (fun i wr => ∃ j : Nat, j ≤ N ∧ i = .int .i64 j ∧ Below w.heap.size w wr) (fun i _ => N - (intOf i).toNat)
  case atStart => exact ⟨0, by omega, rfl, Below.refl _ _⟩
  case round =>
    obtain ⟨j, hj, rfl, hbel⟩ := hrel
    by_cases hlt : j < N
    · rcases R1.out with hnil | ⟨g, rfl, hr1⟩
      · exfalso; have := HN.out; rw [ev_nil hnil] at this; simp at this; omega
      rcases R2.out with hnil | ⟨k, rfl, hr2⟩
      · exfalso; have := HN.out; rw [ev_nil hnil] at this; simp at this; omega
      have EA := evAt (hr1.below hbel) (k := j) (by have := HN.out; omega)
      have EB := evAt (hr2.below hbel) (k := j) (by have := HN.out; omega)
      have op := fun w => run_eq_ev (HF.out (L.getD j default) (getD_mem (by have := HN.out; omega))) w
      obtain ⟨s, hs⟩ : ∃ s, L.getD j default = s := ⟨_, rfl⟩
      rw [hs] at EA EB
      simp only [hs] at op
      rw [Nat.zero_add] at EA EB
      obtain ⟨c0, c1, c2, c3, c4, c5, c6, c7, c8, c9, c10, c11, c12⟩ := EA
      obtain ⟨d0, d1, d2, d3, d4, d5, d6, d7, d8, d9, d10, d11, d12⟩ := EB
      have hj0 : (0 : Int) ≤ (j : Int) := by omega
      have hj1 : (j : Int) < (N : Int) := by omega
      clear hr1 hr2 hs
      go_wp2_with fail
      go_quiet (fail)
      go_wp2
      have hds := hbel.size
      go_roundw
      case rel => exact ⟨j + 1, by omega, by go_num, hbel.trans (below_draws _ _ _)⟩
      case measure => simp [intOf]; omega
    · have hjm : j = N := by omega
      subst hjm
      go_wp2
      go_ret
      exact ⟨rfl, hbel⟩⟩
end Go.Proofs.YtfdgijmmgllmgaaGreat
namespace Go.Proofs.YtfdgijmmgllmgaaGreat
open Go.ChangeShapes Go.WideShapes Go.ChangeAt Go.RowKit Go.Joins
set_option linter.unusedSimpArgs false
set_option linter.unusedVariables false
set_option maxRecDepth 100000
attribute [local go_sem] store_f
open Ieee Go.Lib
attribute [local go_sem] store_c run_equalIn_c run_equalIn_g
structure Sho.Fin (s : Sho) : Prop where
  step : Fin32 s.step
  lit : s.lit.Fin
  shs : ∀ x ∈ s.shs, x.Fin
  g1 : Fin32 s.g1
  g2 : Fin32 s.g2
  bds : ∀ x ∈ s.bds, x.Fin
  log : ∀ x ∈ s.log, x.Fin
structure SameSM (F : FuncId) (s : Sho) (N M K : Nat) : Prop where
  call : ∀ (w : World) (a b l a' b' l' : Option Addr) (ca cb cl ca' cb' cl' : Nat), ShoIn w s a b l → ShoIn w s a' b' l' → Calls Tryz.prog F #[.agg #[.int .i64 s.size, .float .f32 s.step, .float .f32 s.lit.r, .float .f32 s.lit.g, .float .f32 s.lit.b, .slice a N ca, .int .i64 s.kind, .complex .f32 s.g1 s.g2, .float .f32 0, .slice b M cb, .int .i64 s.ticks, .slice l K cl], .agg #[.int .i64 s.size, .float .f32 s.step, .float .f32 s.lit.r, .float .f32 s.lit.g, .float .f32 s.lit.b, .slice a' N ca', .int .i64 s.kind, .complex .f32 s.g1 s.g2, .float .f32 0, .slice b' M cb', .int .i64 s.ticks, .slice l' K cl']] w fun r w' => r = .returned (.bool true) ∧ Below w.heap.size w w'
structure TwoSho (w W : World) (s : Sho) (N M K : Nat) (a b l a' b' l' : Option Addr) (ca cb cl ca' cb' cl' : Nat) : Prop where
  x : Blk W w.heap.size #[.int .i64 s.size, .float .f32 s.step, .float .f32 s.lit.r, .float .f32 s.lit.g, .float .f32 s.lit.b, .slice a N ca, .int .i64 s.kind, .complex .f32 s.g1 s.g2, .float .f32 0, .slice b M cb, .int .i64 s.ticks, .slice l K cl] 34
  y : Blk W (w.heap.size + 1) #[.int .i64 s.size, .float .f32 s.step, .float .f32 s.lit.r, .float .f32 s.lit.g, .float .f32 s.lit.b, .slice a' N ca', .int .i64 s.kind, .complex .f32 s.g1 s.g2, .float .f32 0, .slice b' M cb', .int .i64 s.ticks, .slice l' K cl'] 34
  ix : ShoIn W s a b l
  iy : ShoIn W s a' b' l'
  below : Below w.heap.size w W
theorem TwoSho.mono {w W W1 : World} {s : Sho} {N M K : Nat} {a b l a' b' l' : Option Addr} {ca cb cl ca' cb' cl' : Nat} (h : TwoSho w W s N M K a b l a' b' l' ca cb cl ca' cb' cl') (hb : Below W.heap.size W W1) : TwoSho w W1 s N M K a b l a' b' l' ca cb cl ca' cb' cl' :=
  ⟨h.x.below hb, h.y.below hb, h.ix.below hb, h.iy.below hb, h.below.trans (hb.mono h.below.size)⟩
set_option maxHeartbeats 32000000 in
theorem sameS {s : Sho} {N M K : Nat} (L : ShoLen s N M K) (FF : s.Fin) : SameSM 11 s N M K := ⟨fun w a b l a' b' l' ca cb cl ca' cb' cl' h1 h2 => by
  have E1 := (eqSh (L := s.shs) (by rw [L.n]; exact L.n12) FF.shs).call
  have E2 := (sameT (kind := s.kind) (g1 := s.g1) (g2 := s.g2) (ls := 0) L.m L.m8 FF.bds FF.g1 FF.g2 fin0).call
  have E3 := (eqEv (L := s.log) (by rw [L.k]; have := L.k24; omega) FF.log).call
  rw [L.n] at E1
  rw [L.k] at E3
  have Y1 := Lib.hid E1
  have Y2 := Lib.hid E2
  have Y3 := Lib.hid E3
  have e1 := order_self FF.step
  have opc : ∀ w, (Op.equalIn 10000 26 (.agg #[.float .f32 s.lit.r, .float .f32 s.lit.g, .float .f32 s.lit.b]) (.agg #[.float .f32 s.lit.r, .float .f32 s.lit.g, .float .f32 s.lit.b])).run Tryz.prog w = .ok true w := fun w => run_eq_colD FF.lit.r FF.lit.g FF.lit.b 9998 w
  have T0 : Hid (TwoSho w ((w.alloc (.cells #[.int .i64 s.size, .float .f32 s.step, .float .f32 s.lit.r, .float .f32 s.lit.g, .float .f32 s.lit.b, .slice a N ca, .int .i64 s.kind, .complex .f32 s.g1 s.g2, .float .f32 0, .slice b M cb, .int .i64 s.ticks, .slice l K cl] 34)).alloc (.cells #[.int .i64 s.size, .float .f32 s.step, .float .f32 s.lit.r, .float .f32 s.lit.g, .float .f32 s.lit.b, .slice a' N ca', .int .i64 s.kind, .complex .f32 s.g1 s.g2, .float .f32 0, .slice b' M cb', .int .i64 s.ticks, .slice l' K cl'] 34)) s N M K a b l a' b' l' ca cb cl ca' cb' cl') :=
    ⟨(Blk.new _ _ _).alloc, Blk.newAt (by simp), h1.alloc.alloc, h2.alloc.alloc, ((Below.refl _ _).alloc (Nat.le_refl _) _).alloc (by simp) _⟩
  clear h1 h2 E1 E2 E3 L FF
  go_enter Tryz.func11, Tryz.ntmps11
  go_wp2_with fail
  refine (Y1.out _ _ _ _ _ T0.out.ix.sh T0.out.iy.sh).mono ?_
  rintro r w1 ⟨rfl, hb⟩
  have T1 := Lib.hid (T0.out.mono hb)
  clear hb T0 Y1
  (obtain ⟨p0, p1, p2, p3, p4, p5, p6, p7, p8, p9, p10, p11⟩ := blk12 (T1.out.x))
  (obtain ⟨q0, q1, q2, q3, q4, q5, q6, q7, q8, q9, q10, q11⟩ := blk12 (T1.out.y))
  have l1 := T1.out.x.lt
  have l2 := T1.out.y.lt
  go_wp2_with fail
  refine (Y2.out _ _ _ _ _ (bwIn_of_lies T1.out.ix.bd) (bwIn_of_lies T1.out.iy.bd)).mono ?_
  rintro r w2 ⟨rfl, hb⟩
  have T2 := Lib.hid (T1.out.mono hb)
  clear hb T1 Y2 p0 p1 p2 p3 p4 p5 p6 p7 p8 p9 p10 p11 q0 q1 q2 q3 q4 q5 q6 q7 q8 q9 q10 q11 l1 l2
  (obtain ⟨p0, p1, p2, p3, p4, p5, p6, p7, p8, p9, p10, p11⟩ := blk12 (T2.out.x))
  (obtain ⟨q0, q1, q2, q3, q4, q5, q6, q7, q8, q9, q10, q11⟩ := blk12 (T2.out.y))
  have l1 := T2.out.x.lt
  have l2 := T2.out.y.lt
  go_wp2_with fail
  refine (Y3.out _ _ _ _ _ T2.out.ix.lg T2.out.iy.lg).mono ?_
  rintro r w3 ⟨rfl, hb⟩
  have T3 := Lib.hid (T2.out.mono hb)
  clear hb T2 Y3 p0 p1 p2 p3 p4 p5 p6 p7 p8 p9 p10 p11 q0 q1 q2 q3 q4 q5 q6 q7 q8 q9 q10 q11 l1 l2
  go_wp2
  go_ret
  exact ⟨rfl, T3.out.below⟩⟩
theorem bw_fin (b : PtW × PtW) : (wd b).Fin := ⟨b.1.2.1.cl.fin, b.1.2.2.cl.fin, b.2.2.1.cl.fin, b.2.2.2.cl.fin⟩
theorem Good.fin {S : Shw} (G : Good S) : S.w.Fin := by
  have F := G.fine
  obtain ⟨i, hi, hs⟩ := F.st
  refine ⟨?_, Lit.Ok.fin F.lit, fun x hx => (F.shs x hx).fin, S.g.2.1.cl.fin, S.g.2.2.cl.fin, fun x hx => ?_, fun x hx => ?_⟩
  · show Fin32 S.step
    rw [hs]
    rcases (by omega : i = 0 ∨ i = 1 ∨ i = 2 ∨ i = 3 ∨ i = 4) with rfl | rfl | rfl | rfl | rfl <;> exact fin_of_lt (by decide)
  · obtain ⟨b, _, rfl⟩ := List.mem_map.1 hx
    exact bw_fin b
  · obtain ⟨e, he, rfl⟩ := List.mem_map.1 hx
    exact (F.log e he).fin
theorem Good.same {S : Shw} (G : Good S) : SameSM 11 S.w S.bds.length S.bds.length S.log.length := sameS G.lens G.fin
theorem Fine.start {S : Shw} (F : Fine S) : Good (start S.size S.step) := good_start F.s1 F.s5 F.st
theorem Fine.new {S : Shw} (F : Fine S) : NewM 13 0 S.size S.step lit0 (bare 0 S.size S.step lit0) := newM F.start.is
theorem Told.good {S : Shw} (T : Told S) (hc : cost S.log ≤ 10) (hn : S.log.length ≤ 24) : Good S :=
  good_run T.fine.start T.fine.log T.came (by simpa [start] using hc) (by simpa [start] using hn)
theorem Told.replay {S : Shw} (T : Told S) (hc : cost S.log ≤ 10) (hn : S.log.length ≤ 24) : RepM 12 S.w S.bds.length S.bds.length S.log.length S.w S.bds.length S.bds.length S.log.length :=
  repM (T.good hc hn).is T.fine.new (runS_all T.fine.start T.fine.log T.came (by simpa [start] using hc) (by simpa [start] using hn))
end Go.Proofs.YtfdgijmmgllmgaaGreat
namespace Go.Proofs.YtfdgijmmgllmgaaGreat
open Go.ChangeShapes Go.WideShapes Go.ChangeAt Go.RowKit Go.Joins
set_option linter.unusedSimpArgs false
set_option linter.unusedVariables false
set_option maxRecDepth 100000
attribute [local go_sem] store_f
open Ieee
attribute [local go_sem] store_c
structure LieM (x lo hi : Int) (b : Bool) : Prop where
  call : ∀ w : World, Calls Tryz.prog 101 #[.int .i64 x, .int .i64 lo, .int .i64 hi] w fun e w' => e = .returned (.bool b) ∧ Below w.heap.size w w'
theorem lieM_yes {x lo hi : Int} (h : lo ≤ x) (h' : x ≤ hi) : LieM x lo hi true := ⟨fun w => by
  have H := l1In_s x lo hi w
  rwa [lieB_yes h h'] at H⟩
theorem lieM_no {x lo hi : Int} (h : ¬ (lo ≤ x ∧ x ≤ hi)) : LieM x lo hi false := ⟨fun w => by
  have H := l1In_s x lo hi w
  rwa [lieB_no h] at H⟩
end Go.Proofs.YtfdgijmmgllmgaaGreat
namespace Go.Proofs.YtfdgijmmgllmgaaGreat
open Go.ChangeShapes Go.WideShapes Go.ChangeAt Go.RowKit Go.Joins
set_option linter.unusedSimpArgs false
set_option linter.unusedVariables false
set_option maxRecDepth 100000
attribute [local go_sem] store_f
open Ieee
structure Lit.W (c : Lit) : Prop where
  r : c.r < 4294967296
  g : c.g < 4294967296
  b : c.b < 4294967296
theorem Lit.Ok.w {c : Lit} (h : c.Ok) : c.W := ⟨by have := h.r; omega, by have := h.g; omega, by have := h.b; omega⟩
structure ColS (c : Lit) (p : Bool) : Prop where
  call : ∀ w : World, Calls Tryz.prog 103 #[.agg #[.float .f32 c.r, .float .f32 c.g, .float .f32 c.b]] w fun e w' => e = .returned (.bool p) ∧ Below w.heap.size w w'
theorem colS_of {c : Lit} (h : c.W) : ColS c c.isB := ⟨fun w => isColour_s c.r c.g c.b h.r h.g h.b w⟩
end Go.Proofs.YtfdgijmmgllmgaaGreat
namespace Go.Proofs.YtfdgijmmgllmgaaGreat
open Go.ChangeShapes Go.WideShapes Go.ChangeAt Go.RowKit Go.Joins
set_option linter.unusedSimpArgs false
set_option linter.unusedVariables false
set_option maxRecDepth 100000
attribute [local go_sem] store_f
open Ieee Go.Lib
attribute [local go_sem] store_c
def BwBlk (W : World) (g N : Nat) (F : Nat → Bw) : Prop := ∃ cur, Blk W g cur 59 ∧ N * 2 ≤ cur.size ∧ ∀ k, k < N → cur[k * 2]? = some (.complex .f32 (F k).a1 (F k).a2) ∧ cur[k * 2 + 1]? = some (.complex .f32 (F k).v1 (F k).v2)
theorem BwBlk.below {W w1 : World} {g N : Nat} {F : Nat → Bw} (h : BwBlk W g N F) (hb : Below W.heap.size W w1) : BwBlk w1 g N F := by
  obtain ⟨cur, h1, h2⟩ := h
  exact ⟨cur, h1.below hb, h2⟩
theorem BwBlk.alloc {W : World} {g N : Nat} {F : Nat → Bw} {o : Obj} (h : BwBlk W g N F) : BwBlk (W.alloc o) g N F := by
  obtain ⟨cur, h1, h2⟩ := h
  exact ⟨cur, h1.alloc, h2⟩
theorem BwBlk.other {W : World} {g N : Nat} {F : Nat → Bw} {a : Addr} {v : Value} (h : BwBlk W g N F) (hne : g ≠ a.block) : BwBlk (W.setCell a v) g N F := by
  obtain ⟨cur, h1, h2⟩ := h
  exact ⟨cur, h1.other hne, h2⟩
theorem BwBlk.lt {W : World} {g N : Nat} {F : Nat → Bw} (h : BwBlk W g N F) : g < W.heap.size := by
  obtain ⟨cur, h1, _⟩ := h
  exact h1.lt
theorem BwBlk.free {W : World} {g N : Nat} {F : Nat → Bw} (h : BwBlk W g N F) (i : Nat) : W.frozen? ⟨g, i, Option.none⟩ = false := by
  obtain ⟨cur, h1, _⟩ := h
  exact h1.free i
theorem BwBlk.cell {W : World} {g N : Nat} {F : Nat → Bw} (h : BwBlk W g N F) {k : Nat} (hk : k < N) : W.cell? ⟨g, k * 2, Option.none⟩ = some (.complex .f32 (F k).a1 (F k).a2) ∧ W.cell? ⟨g, k * 2 + 1, Option.none⟩ = some (.complex .f32 (F k).v1 (F k).v2) := by
  obtain ⟨cur, h1, _, h3⟩ := h
  exact ⟨(h1.cell _).trans (h3 k hk).1, (h1.cell _).trans (h3 k hk).2⟩
theorem BwBlk.set {W : World} {g N k : Nat} {F F' : Nat → Bw} {b : Bw} (h : BwBlk W g N F) (hk : k < N) (hF : ∀ i, i < N → F' i = if i = k then b else F i) :
    BwBlk ((W.setCell ⟨g, k * 2, Option.none⟩ (.complex .f32 b.a1 b.a2)).setCell ⟨g, k * 2 + 1, Option.none⟩ (.complex .f32 b.v1 b.v2)) g N F' := by
  obtain ⟨cur, h1, h2, h3⟩ := h
  refine ⟨_, h1.set.set, by simpa using h2, fun i hi => ?_⟩
  rw [hF i hi]
  simp only [Array.getElem?_setIfInBounds, Array.size_setIfInBounds]
  by_cases e : i = k
  · subst e
    simp
    omega
  · have e1 : ¬ k * 2 = i * 2 := by omega
    have e2 : ¬ k * 2 + 1 = i * 2 := by omega
    have e3 : ¬ k * 2 = i * 2 + 1 := by omega
    have e4 : ¬ k * 2 + 1 = i * 2 + 1 := by omega
    simp only [e, e1, e2, e3, e4, if_false]
    exact h3 i hi
theorem bwBlk_of {W : World} {B g c N : Nat} {L : List Bw} (h : W.ownsRow B 59 2 (.slice (some ⟨g, 0, Option.none⟩) N c) N (bwCells L)) (hL : L.length = N) : BwBlk W g N (fun k => L.getD k default) := by
  have hr := bwRow_of h hL
  obtain ⟨_, h2⟩ := h
  rcases h2 with ⟨e, _⟩ | ⟨g', cap', cur, e, _, hb, hle, _, hs, _⟩
  · simp at e
  · simp only [Value.slice.injEq, Option.some.injEq, Addr.mk.injEq] at e
    obtain ⟨⟨rfl, _⟩, _, rfl⟩ := e
    have hb2 : Blk W g cur 59 := hb
    refine ⟨cur, hb2, by rw [hs]; exact Nat.mul_le_mul_right _ hle, fun k hk => ?_⟩
    rw [← hb2.cell, ← hb2.cell]
    exact hr k (by omega)
theorem BwBlk.row {W : World} {g N : Nat} {F : Nat → Bw} {L : List Bw} (h : BwBlk W g N F) (hL : L.length = N) (hF : ∀ k, k < N → F k = L.getD k default) : BwRow W g L := fun k hk => by
  rw [← hF k (by omega)]
  exact h.cell (by omega)
end Go.Proofs.YtfdgijmmgllmgaaGreat
