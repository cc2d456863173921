/-
  Texts Wn Wo, joined.
-/
import Derived.Test.YtfdgijmmgllmgaaGreatS33
import Derived.Deep.RegionHeld3
namespace Go.Proofs.YtfdgijmmgllmgaaGreat
open Go.ChangeShapes Go.WideShapes Go.ChangeAt Go.RowKit Go.Joins
set_option linter.unusedSimpArgs false
set_option linter.unusedVariables false
set_option maxRecDepth 100000
attribute [local go_sem] store_f
open Ieee Go.Lib
attribute [local go_sem] store_c
/-- A row that is owned is no longer than there is room. -/
theorem own_cap {W : World} {B T sz n c : Nat} {a : Option Addr} {xs : List Value} (h : W.ownsRow B T sz (.slice a n c) n xs) : n ≤ c := by
  rcases h.2 with ⟨e, e0⟩ | ⟨g', cap, cur, e1, hb, hg, hnc, _⟩
  · omega
  · cases e1; exact hnc
/-- DoEvent of the model: the log has room. -/
structure DoMC (F : FuncId) (s : Sho) (N M K : Nat) (e : Evw) (t : Sho) (N' M' K' : Nat) (p : Bool) : Prop where
  call : ∀ (w : World) (a b l : Option Addr) (ca cb cl : Nat), ShoIn w s a b l → Calls Tryz.prog F #[.agg #[.int .i64 s.size, .float .f32 s.step, .float .f32 s.lit.r, .float .f32 s.lit.g, .float .f32 s.lit.b, .slice a N ca, .int .i64 s.kind, .complex .f32 s.g1 s.g2, .float .f32 0, .slice b M cb, .int .i64 s.ticks, .slice l K cl], .agg #[.int .i64 e.kind, .int .i64 e.n, .complex .f32 e.z1 e.z2, .complex .f32 e.s.a1 e.s.a2, .complex .f32 e.s.b1 e.s.b2, .complex .f32 e.s.c1 e.s.c2, .float .f32 e.s.r, .float .f32 e.s.g, .float .f32 e.s.b, .float .f32 e.s.k, .float .f32 e.l.r, .float .f32 e.l.g, .float .f32 e.l.b]] w fun r w' => ∃ a' b' l' ca' cb' cl', ShoRet w r w' t N' M' K' a' b' l' ca' cb' cl' p ∧ K' ≤ cl'
set_option maxHeartbeats 32000000 in
theorem do_no1S {s : Sho} {N M K : Nat} {e : Evw} (C : CopyS 39 s N M K) (S : ShIs 75 s N M K true) (V : EvIs 76 e false) : DoMC 40 s N M K e s N M K false := ⟨fun w a b l ca cb cl hr => by
  have D0 := Lib.hid (DoBox.start w s N M K e a b l ca cb cl hr)
  clear hr
  go_enter Tryz.func40, Tryz.ntmps40
  go_wp2_with fail
  generalize ((w.alloc (.cells #[.int .i64 s.size, .float .f32 s.step, .float .f32 s.lit.r, .float .f32 s.lit.g, .float .f32 s.lit.b, .slice a N ca, .int .i64 s.kind, .complex .f32 s.g1 s.g2, .float .f32 0, .slice b M cb, .int .i64 s.ticks, .slice l K cl] 34)).alloc (.cells #[.int .i64 e.kind, .int .i64 e.n, .complex .f32 e.z1 e.z2, .complex .f32 e.s.a1 e.s.a2, .complex .f32 e.s.b1 e.s.b2, .complex .f32 e.s.c1 e.s.c2, .float .f32 e.s.r, .float .f32 e.s.g, .float .f32 e.s.b, .float .f32 e.s.k, .float .f32 e.l.r, .float .f32 e.l.g, .float .f32 e.l.b] 38)).alloc (.cells #[.int .i64 0, .float .f32 0, .float .f32 0, .float .f32 0, .float .f32 0, .slice Option.none 0 0, .int .i64 0, .complex .f32 0 0, .float .f32 0, .slice Option.none 0 0, .int .i64 0, .slice Option.none 0 0] 34) = X at *
  refine (S.call _ _ _ _ _ _ _ D0.out.inn).mono ?_
  rintro r w1 ⟨rfl, hb⟩
  have D1 := Lib.hid (D0.out.mono hb)
  clear hb D0 S
  (have c0 := Blk.cellAt (i := 0) D1.out.ev rfl; have c1 := Blk.cellAt (i := 1) D1.out.ev rfl; have c2 := Blk.cellAt (i := 2) D1.out.ev rfl; have c3 := Blk.cellAt (i := 3) D1.out.ev rfl; have c4 := Blk.cellAt (i := 4) D1.out.ev rfl; have c5 := Blk.cellAt (i := 5) D1.out.ev rfl; have c6 := Blk.cellAt (i := 6) D1.out.ev rfl; have c7 := Blk.cellAt (i := 7) D1.out.ev rfl; have c8 := Blk.cellAt (i := 8) D1.out.ev rfl; have c9 := Blk.cellAt (i := 9) D1.out.ev rfl; have c10 := Blk.cellAt (i := 10) D1.out.ev rfl; have c11 := Blk.cellAt (i := 11) D1.out.ev rfl; have c12 := Blk.cellAt (i := 12) D1.out.ev rfl; simp only [List.getElem_toArray, List.getElem_cons_zero, List.getElem_cons_succ] at c0 c1 c2 c3 c4 c5 c6 c7 c8 c9 c10 c11 c12)
  have l0 := D1.out.ev.lt
  go_wp2_with fail
  refine (V.call _).mono ?_
  rintro r w2 ⟨rfl, hb⟩
  have D2 := Lib.hid (D1.out.mono hb)
  clear hb D1 V c0 c1 c2 c3 c4 c5 c6 c7 c8 c9 c10 c11 c12 l0
  (have p0 := Blk.cellAt (i := 0) D2.out.sh rfl; have p1 := Blk.cellAt (i := 1) D2.out.sh rfl; have p2 := Blk.cellAt (i := 2) D2.out.sh rfl; have p3 := Blk.cellAt (i := 3) D2.out.sh rfl; have p4 := Blk.cellAt (i := 4) D2.out.sh rfl; have p5 := Blk.cellAt (i := 5) D2.out.sh rfl; have p6 := Blk.cellAt (i := 6) D2.out.sh rfl; have p7 := Blk.cellAt (i := 7) D2.out.sh rfl; have p8 := Blk.cellAt (i := 8) D2.out.sh rfl; have p9 := Blk.cellAt (i := 9) D2.out.sh rfl; have p10 := Blk.cellAt (i := 10) D2.out.sh rfl; have p11 := Blk.cellAt (i := 11) D2.out.sh rfl; simp only [List.getElem_toArray, List.getElem_cons_zero, List.getElem_cons_succ] at p0 p1 p2 p3 p4 p5 p6 p7 p8 p9 p10 p11)
  have l0 := D2.out.sh.lt
  go_wp2_with fail
  refine (C.call _ _ _ _ _ _ _ D2.out.inn).mono ?_
  rintro r w9 ⟨a2, b2, l2, ca2, cb2, cl2, ⟨rfl, hown, hb⟩⟩
  have D9 := Lib.hid (D2.out.mono hb)
  have O2 := Lib.hid hown.in_
  have KC := Lib.hid (own_cap hown.lg)
  clear hb hown D2 C p0 p1 p2 p3 p4 p5 p6 p7 p8 p9 p10 p11 l0
  (have q0 := Blk.cellAt (i := 0) D9.out.res rfl; have q1 := Blk.cellAt (i := 1) D9.out.res rfl; have q2 := Blk.cellAt (i := 2) D9.out.res rfl; have q3 := Blk.cellAt (i := 3) D9.out.res rfl; have q4 := Blk.cellAt (i := 4) D9.out.res rfl; have q5 := Blk.cellAt (i := 5) D9.out.res rfl; have q6 := Blk.cellAt (i := 6) D9.out.res rfl; have q7 := Blk.cellAt (i := 7) D9.out.res rfl; have q8 := Blk.cellAt (i := 8) D9.out.res rfl; have q9 := Blk.cellAt (i := 9) D9.out.res rfl; have q10 := Blk.cellAt (i := 10) D9.out.res rfl; have q11 := Blk.cellAt (i := 11) D9.out.res rfl; simp only [List.getElem_toArray, List.getElem_cons_zero, List.getElem_cons_succ] at q0 q1 q2 q3 q4 q5 q6 q7 q8 q9 q10 q11)
  (have h0 := D9.out.res.free 0; have h1 := D9.out.res.free 1; have h2 := D9.out.res.free 2; have h3 := D9.out.res.free 3; have h4 := D9.out.res.free 4; have h5 := D9.out.res.free 5; have h6 := D9.out.res.free 6; have h7 := D9.out.res.free 7; have h8 := D9.out.res.free 8; have h9 := D9.out.res.free 9; have h10 := D9.out.res.free 10; have h11 := D9.out.res.free 11)
  have l2' := D9.out.res.lt
  have P5 := Lib.hid (put_z (t := s) (x' := .slice a2 N ca2) (y' := .slice b2 M cb2) (z' := .slice l2 K cl2) D9.out.res)
  go_wp2_with fail
  (have e0 := Blk.cellAt (i := 0) P5.out rfl; have e1 := Blk.cellAt (i := 1) P5.out rfl; have e2 := Blk.cellAt (i := 2) P5.out rfl; have e3 := Blk.cellAt (i := 3) P5.out rfl; have e4 := Blk.cellAt (i := 4) P5.out rfl; have e5 := Blk.cellAt (i := 5) P5.out rfl; have e6 := Blk.cellAt (i := 6) P5.out rfl; have e7 := Blk.cellAt (i := 7) P5.out rfl; have e8 := Blk.cellAt (i := 8) P5.out rfl; have e9 := Blk.cellAt (i := 9) P5.out rfl; have e10 := Blk.cellAt (i := 10) P5.out rfl; have e11 := Blk.cellAt (i := 11) P5.out rfl; simp only [List.getElem_toArray, List.getElem_cons_zero, List.getElem_cons_succ] at e0 e1 e2 e3 e4 e5 e6 e7 e8 e9 e10 e11)
  have hB := D9.out.below
  refine bodyPost_ret (v := .tuple #[.agg #[.int .i64 s.size, .float .f32 s.step, .float .f32 s.lit.r, .float .f32 s.lit.g, .float .f32 s.lit.b, .slice a2 N ca2, .int .i64 s.kind, .complex .f32 s.g1 s.g2, .float .f32 0, .slice b2 M cb2, .int .i64 s.ticks, .slice l2 K cl2], .bool false]) (by simp [results, Tryz.results40, go_sem, e0, e1, e2, e3, e4, e5, e6, e7, e8, e9, e10, e11]) rfl ⟨a2, b2, l2, ca2, cb2, cl2, ⟨rfl, O2.out.grownAt grown12 q1, below12 hB (by omega)⟩, KC.out⟩⟩
set_option maxHeartbeats 16000000 in
theorem newMS {kind size : Int} {step : Nat} {c : Lit} (S : ShIs 75 (bare kind size step c) 0 0 0 true) : NewM 57 kind size step c (bare kind size step c) := ⟨fun w => by
  go_enter Tryz.func57, Tryz.ntmps57
  go_wp2_with fail
  generalize hX : ((w.alloc (.cells #[.float .f32 c.r, .float .f32 c.g, .float .f32 c.b] 26)).alloc (.cells #[.int .i64 0, .float .f32 0, .float .f32 0, .float .f32 0, .float .f32 0, .slice Option.none 0 0, .int .i64 0, .complex .f32 0 0, .float .f32 0, .slice Option.none 0 0, .int .i64 0, .slice Option.none 0 0] 34)).alloc (.cells #[.int .i64 size, .float .f32 step, .float .f32 c.r, .float .f32 c.g, .float .f32 c.b, .slice Option.none 0 0, .int .i64 kind, .complex .f32 0 0, .float .f32 0, .slice Option.none 0 0, .int .i64 0, .slice Option.none 0 0] 34) = X
  have R0 : Hid (Blk X (w.heap.size + 1) #[.int .i64 0, .float .f32 0, .float .f32 0, .float .f32 0, .float .f32 0, .slice Option.none 0 0, .int .i64 0, .complex .f32 0 0, .float .f32 0, .slice Option.none 0 0, .int .i64 0, .slice Option.none 0 0] 34) := by rw [← hX]; exact (Blk.newAt (by simp)).alloc
  have B0 : Hid (Blk X (w.heap.size + 1 + 1) #[.int .i64 size, .float .f32 step, .float .f32 c.r, .float .f32 c.g, .float .f32 c.b, .slice Option.none 0 0, .int .i64 kind, .complex .f32 0 0, .float .f32 0, .slice Option.none 0 0, .int .i64 0, .slice Option.none 0 0] 34) := by rw [← hX]; exact Blk.newAt (by simp)
  have G0 : Hid (Below w.heap.size w X) := by rw [← hX]; show Below w.heap.size w _; (repeat' (first | (with_reducible exact Below.refl _ _) | (with_reducible assumption) | (with_reducible refine Below.alloc ?_ ?_ _) | (with_reducible refine Below.drew ?_) | (with_reducible refine Below.setCell ?_ ?_ _) | (with_reducible refine Below.trans ?_ (Below.mono (by assumption) ?_)) | (with_reducible exact Nat.le_refl _) | omega | (simp only [World.size_alloc, World.size_setCell, World.size_drew]; omega) | (simp; omega) | (simp; done)))
  clear hX
  refine (S.call _ Option.none Option.none Option.none 0 0 0 (bare_in _ _ _ _ _)).mono ?_
  rintro r w1 ⟨rfl, hb⟩
  have B1 := B0.out.below hb
  have R1 := R0.out.below hb
  have G1 : Hid (Below w.heap.size w w1) := G0.out.trans (hb.mono G0.out.size)
  clear hb R0 B0 G0 S
  (have p0 := Blk.cellAt (i := 0) B1 rfl; have p1 := Blk.cellAt (i := 1) B1 rfl; have p2 := Blk.cellAt (i := 2) B1 rfl; have p3 := Blk.cellAt (i := 3) B1 rfl; have p4 := Blk.cellAt (i := 4) B1 rfl; have p5 := Blk.cellAt (i := 5) B1 rfl; have p6 := Blk.cellAt (i := 6) B1 rfl; have p7 := Blk.cellAt (i := 7) B1 rfl; have p8 := Blk.cellAt (i := 8) B1 rfl; have p9 := Blk.cellAt (i := 9) B1 rfl; have p10 := Blk.cellAt (i := 10) B1 rfl; have p11 := Blk.cellAt (i := 11) B1 rfl; simp only [List.getElem_toArray, List.getElem_cons_zero, List.getElem_cons_succ] at p0 p1 p2 p3 p4 p5 p6 p7 p8 p9 p10 p11)
  (have q0 := Blk.cellAt (i := 0) R1 rfl; have q1 := Blk.cellAt (i := 1) R1 rfl; have q2 := Blk.cellAt (i := 2) R1 rfl; have q3 := Blk.cellAt (i := 3) R1 rfl; have q4 := Blk.cellAt (i := 4) R1 rfl; have q5 := Blk.cellAt (i := 5) R1 rfl; have q6 := Blk.cellAt (i := 6) R1 rfl; have q7 := Blk.cellAt (i := 7) R1 rfl; have q8 := Blk.cellAt (i := 8) R1 rfl; have q9 := Blk.cellAt (i := 9) R1 rfl; have q10 := Blk.cellAt (i := 10) R1 rfl; have q11 := Blk.cellAt (i := 11) R1 rfl; simp only [List.getElem_toArray, List.getElem_cons_zero, List.getElem_cons_succ] at q0 q1 q2 q3 q4 q5 q6 q7 q8 q9 q10 q11)
  (have h0 := R1.free 0; have h1 := R1.free 1; have h2 := R1.free 2; have h3 := R1.free 3; have h4 := R1.free 4; have h5 := R1.free 5; have h6 := R1.free 6; have h7 := R1.free 7; have h8 := R1.free 8; have h9 := R1.free 9; have h10 := R1.free 10; have h11 := R1.free 11)
  have l1 := R1.lt
  have l2 := B1.lt
  have P5 := Lib.hid (put_z (t := bare kind size step c) (x' := .slice Option.none 0 0) (y' := .slice Option.none 0 0) (z' := .slice Option.none 0 0) R1)
  clear R1 B1
  simp only [bare] at P5
  go_wp2_with fail
  (have e0 := Blk.cellAt (i := 0) P5.out rfl; have e1 := Blk.cellAt (i := 1) P5.out rfl; have e2 := Blk.cellAt (i := 2) P5.out rfl; have e3 := Blk.cellAt (i := 3) P5.out rfl; have e4 := Blk.cellAt (i := 4) P5.out rfl; have e5 := Blk.cellAt (i := 5) P5.out rfl; have e6 := Blk.cellAt (i := 6) P5.out rfl; have e7 := Blk.cellAt (i := 7) P5.out rfl; have e8 := Blk.cellAt (i := 8) P5.out rfl; have e9 := Blk.cellAt (i := 9) P5.out rfl; have e10 := Blk.cellAt (i := 10) P5.out rfl; have e11 := Blk.cellAt (i := 11) P5.out rfl; simp only [List.getElem_toArray, List.getElem_cons_zero, List.getElem_cons_succ] at e0 e1 e2 e3 e4 e5 e6 e7 e8 e9 e10 e11)
  refine bodyPost_ret (v := .tuple #[.agg #[.int .i64 (bare kind size step c).size, .float .f32 (bare kind size step c).step, .float .f32 (bare kind size step c).lit.r, .float .f32 (bare kind size step c).lit.g, .float .f32 (bare kind size step c).lit.b, .slice Option.none 0 0, .int .i64 (bare kind size step c).kind, .complex .f32 (bare kind size step c).g1 (bare kind size step c).g2, .float .f32 0, .slice Option.none 0 0, .int .i64 (bare kind size step c).ticks, .slice Option.none 0 0], .bool true]) (by simp [results, Tryz.results57, go_sem, bare, e0, e1, e2, e3, e4, e5, e6, e7, e8, e9, e10, e11]) rfl ⟨rfl, ?_⟩
  exact below12 G1.out (by omega)⟩
end Go.Proofs.YtfdgijmmgllmgaaGreat
namespace Go.Proofs.YtfdgijmmgllmgaaGreat
open Go.ChangeShapes Go.WideShapes Go.ChangeAt Go.RowKit Go.Joins
set_option linter.unusedSimpArgs false
set_option linter.unusedVariables false
set_option maxRecDepth 100000
attribute [local go_sem] store_f
open Ieee Go.Lib
attribute [local go_sem] store_c
theorem stepB_s0 {i : Nat} (hi : i < 5) : (FloatKind.f32.format.order (stepB i) 0 == some .lt) = false ∧ (FloatKind.f32.format.order (stepB i) 0 == some .eq) = false ∧ (FloatKind.f32.format.order (stepB i) 1132462080 == some .gt) = false := by
  rcases (by omega : i = 0 ∨ i = 1 ∨ i = 2 ∨ i = 3 ∨ i = 4) with rfl | rfl | rfl | rfl | rfl <;> exact ⟨by kernel_rfl, by kernel_rfl, by kernel_rfl⟩
theorem Good.askS {S : Shw} (G : Good S) : ShAskS S.w S.bds.length S.bds.length S.log.length true := by
  have F := G.fine
  have k3 := F.kin
  obtain ⟨i, hi, hs⟩ := F.st
  obtain ⟨s0, s1, s2⟩ := stepB_s0 hi
  rw [← hs] at s0 s1 s2
  have T := tumS (kind := S.kind) (g := S.g) (l := S.bds) (by omega) (by omega) F.few (fun b hb => (F.bds b hb).2.2.2)
  refine ⟨lieM_yes (by show (1 : Int) ≤ (S.size : Int); have := F.s1; omega) (by show (S.size : Int) ≤ 8; have := F.s5; omega), fun w => l1Single_yes _ w (sub_self G.fin.step), s0, s1, s2, colS_ok F.lit, aresS F.len (by have := F.few; omega) F.shs, fun w a cap hr => T.call w a cap hr, fun _ => rfl, lieM_yes (by show (0 : Int) ≤ (S.ticks : Int); omega) (by show (S.ticks : Int) ≤ 200; have := F.ticks; have := G.len; omega), fun _ => G.len, by simp [Shw.w], fun _ e he => ?_⟩
  obtain ⟨x, hx, rfl⟩ := List.mem_map.1 he
  have K := evS_of (F.log x hx)
  rw [G.yes x hx] at K
  exact K
theorem Good.isS {S : Shw} (G : Good S) : ShIs 75 S.w S.bds.length S.bds.length S.log.length true := shIsS G.askS
theorem Good.copyS {S : Shw} (G : Good S) : CopyS 39 S.w S.bds.length S.bds.length S.log.length := copyShowS G.lens
theorem Fine.newS {S : Shw} (F : Fine S) : NewM 57 0 S.size S.step lit0 (bare 0 S.size S.step lit0) := newMS F.start.isS
/-- An event that is none. -/
theorem doE_no1S {S : Shw} {e : Ev} (G : Good S) (he : e.Ok) (h : e.yes = false) : DoMC 40 S.w S.bds.length S.bds.length S.log.length e.w S.w S.bds.length S.bds.length S.log.length false := by
  have V := evS_of he
  rw [h] at V
  exact do_no1S G.copyS G.isS V
set_option maxHeartbeats 16000000 in
theorem tumNoS {kind : Int} {g1 g2 N : Nat} (h0 : 0 ≤ kind) (h3 : kind ≤ 3) (P : PtS g1 g2) (h8 : 8 < N) (w : World) (a : Option Addr) (cap : Nat) : Calls Tryz.prog 105 #[.agg #[.int .i64 kind, .complex .f32 g1 g2, .float .f32 0, .slice a N cap]] w fun e w' => e = .returned (.bool false) ∧ Below w.heap.size w w' := by
  have YK := lieM_yes h0 h3
  have YS := partS_ok (x := 0) (by omega)
  have hd : decide ((8 : Int) < (N : Int)) = true := by simp; omega
  go_enter Tryz.func105, Tryz.ntmps105
  go_wp2_with fail
  have M0 : Hid (Blk (w.alloc (.cells #[.int .i64 kind, .complex .f32 g1 g2, .float .f32 0, .slice a N cap] 31)) w.heap.size #[.int .i64 kind, .complex .f32 g1 g2, .float .f32 0, .slice a N cap] 31) := Blk.new _ _ _
  have G0 : Hid (Below w.heap.size w (w.alloc (.cells #[.int .i64 kind, .complex .f32 g1 g2, .float .f32 0, .slice a N cap] 31))) := (Below.refl _ _).alloc (Nat.le_refl _) _
  refine (YK.call _).mono ?_
  rintro e w1 ⟨rfl, hb⟩
  have M1 := Lib.hid (M0.out.below hb)
  have G1 : Hid (Below w.heap.size w w1) := G0.out.trans (hb.mono G0.out.size)
  clear hb M0 G0 YK
  (have m0 := Blk.cellAt (i := 0) M1.out rfl; have m1 := Blk.cellAt (i := 1) M1.out rfl; have m2 := Blk.cellAt (i := 2) M1.out rfl; have m3 := Blk.cellAt (i := 3) M1.out rfl; simp only [List.getElem_toArray, List.getElem_cons_zero, List.getElem_cons_succ] at m0 m1 m2 m3)
  have l1 := M1.out.lt
  go_wp2_with fail
  refine (P.call _).mono ?_
  rintro e w2 ⟨rfl, hb⟩
  have M2 := Lib.hid (M1.out.below hb)
  have G2 : Hid (Below w.heap.size w w2) := G1.out.trans (hb.mono G1.out.size)
  clear hb M1 G1 m0 m1 m2 m3 P l1
  (have m0 := Blk.cellAt (i := 0) M2.out rfl; have m1 := Blk.cellAt (i := 1) M2.out rfl; have m2 := Blk.cellAt (i := 2) M2.out rfl; have m3 := Blk.cellAt (i := 3) M2.out rfl; simp only [List.getElem_toArray, List.getElem_cons_zero, List.getElem_cons_succ] at m0 m1 m2 m3)
  have l1 := M2.out.lt
  go_wp2_with fail
  refine (YS.call _).mono ?_
  rintro e w3 ⟨rfl, hb⟩
  have M3 := Lib.hid (M2.out.below hb)
  have G3 : Hid (Below w.heap.size w w3) := G2.out.trans (hb.mono G2.out.size)
  clear hb M2 G2 m0 m1 m2 m3 YS l1
  (have m0 := Blk.cellAt (i := 0) M3.out rfl; have m1 := Blk.cellAt (i := 1) M3.out rfl; have m2 := Blk.cellAt (i := 2) M3.out rfl; have m3 := Blk.cellAt (i := 3) M3.out rfl; simp only [List.getElem_toArray, List.getElem_cons_zero, List.getElem_cons_succ] at m0 m1 m2 m3)
  have l1 := M3.out.lt
  go_wp2
  go_ret
  exact ⟨rfl, G3.out⟩
end Go.Proofs.YtfdgijmmgllmgaaGreat
