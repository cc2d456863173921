/-
  Texts Wp, joined.
-/
import Derived.Test.YtfdgijmmgllmgaaGreatDoorS31
import Derived.Deep.AppendLies
import Derived.Deep.DeepCutAuto
import Derived.Deep.RegionHeld3
namespace Go.Proofs.YtfdgijmmgllmgaaGreatDoor
open Go.ChangeShapes Go.WideShapes Go.ChangeAt Go.RowKit Go.Joins
set_option linter.unusedSimpArgs false
set_option linter.unusedVariables false
set_option maxRecDepth 100000
attribute [local go_sem] store_f
open Ieee Go.Lib
attribute [local go_sem] store_c
structure DoRow (W : World) (B : Nat) (t : Sho) (N M K : Nat) (a b l : Option Addr) (ca cb cl : Nat) : Prop where
  sh : W.ownsRow B 36 7 (.slice a N ca) N (shCells t.shs)
  bd : LiesZ W b (bwCells t.bds)
  apart : ∀ g, l = some ⟨g, 0, Option.none⟩ → b = some ⟨g, 0, Option.none⟩ → t.bds = []
  lg : W.ownsRow B 38 13 (.slice l K cl) K (evCells t.log)
theorem DoRow.alloc {W : World} {B : Nat} {t : Sho} {N M K : Nat} {a b l : Option Addr} {ca cb cl : Nat} {o : Obj} (h : DoRow W B t N M K a b l ca cb cl) : DoRow (W.alloc o) B t N M K a b l ca cb cl :=
  ⟨h.sh.alloc _, h.bd.alloc, h.apart, h.lg.alloc _⟩
theorem DoRow.grownP {W w1 : World} {B : Nat} {t : Sho} {N M K P x : Nat} {a b l : Option Addr} {ca cb cl : Nat} {cs : Array Value} (h : DoRow W B t N M K a b l ca cb cl) (hb : Blk W P cs 34) (hc : cs[1]? = some (.float .f32 x)) (hg : W.grownBy w1 (some P)) : DoRow w1 B t N M K a b l ca cb cl := by
  refine ⟨owns_other hg h.sh (owns_blk h.sh hb (by decide)), h.bd.grownAt hg ((hb.cell 1).trans hc) fun h0 => ?_, h.apart, owns_other hg h.lg (owns_blk h.lg hb (by decide))⟩
  obtain ⟨u, e, hu⟩ := bw_at1 _ h0
  exact ⟨u, e, hu x⟩
theorem DoOut.row {w : World} {B : Nat} {r : Ending} {w' : World} {t : Sho} {N M K : Nat} {a b l : Option Addr} {ca cb cl : Nat} {p : Bool} (h : DoOut w B r w' t N M K a b l ca cb cl p) : DoRow w' B t N M K a b l ca cb cl :=
  ⟨h.sh, h.bd, h.apart, h.lg⟩
theorem LiesZ.keepL {W w1 : World} {B : Nat} {b l : Option Addr} {L : List Bw} {E : List Value} {K cl : Nat} (h : LiesZ W b (bwCells L)) (hv : W.ownsRow B 38 13 (.slice l K cl) K E) (hg : W.grownBy w1 (Value.slice l K cl).ownBlock) (ap : ∀ g, l = some ⟨g, 0, Option.none⟩ → b = some ⟨g, 0, Option.none⟩ → L = []) : LiesZ w1 b (bwCells L) := by
  rcases ownsRow_forms hv with ⟨e, h0⟩ | ⟨g, c, e⟩
  · cases e
    rcases h with h | ⟨k, e, h⟩
    · exact .inl h
    · exact .inr ⟨k, e, h.grown hg (fun e' => by cases e')⟩
  · cases e
    by_cases hb : b = some ⟨g, 0, Option.none⟩
    · rw [ap g rfl hb]; exact .inl rfl
    · exact h.grownN hg hb
structure DoMid (X W : World) (q B : Nat) (t : Sho) (N M K : Nat) (a b l : Option Addr) (ca cb cl : Nat) : Prop where
  box : Blk W q #[.int .i64 t.size, .float .f32 t.step, .float .f32 t.lit.r, .float .f32 t.lit.g, .float .f32 t.lit.b, .slice a N ca, .int .i64 t.kind, .complex .f32 t.g1 t.g2, .float .f32 0, .slice b M cb, .int .i64 t.ticks, .slice l K cl] 34
  row : DoRow W B t N M K a b l ca cb cl
  below : Below X.heap.size X W
  base : X.heap.size ≤ B
  le : B ≤ W.heap.size
  qge : X.heap.size ≤ q
theorem DoMid.early {X W : World} {q B : Nat} {t : Sho} {N M K : Nat} {a b l : Option Addr} {ca cb cl : Nat} (hz : Blk W q #[.int .i64 0, .float .f32 0, .float .f32 0, .float .f32 0, .float .f32 0, .slice Option.none 0 0, .int .i64 0, .complex .f32 0 0, .float .f32 0, .slice Option.none 0 0, .int .i64 0, .slice Option.none 0 0] 34) (hr : DoRow W B t N M K a b l ca cb cl) (hb : Below X.heap.size X W) (h1 : X.heap.size ≤ B) (h2 : B ≤ W.heap.size) (h3 : X.heap.size ≤ q) :
    DoMid X ((((((((((((W.setCell ⟨q, 0, Option.none⟩ (.int .i64 t.size)).setCell ⟨q, 1, Option.none⟩ (.float .f32 t.step)).setCell ⟨q, 2, Option.none⟩ (.float .f32 t.lit.r)).setCell ⟨q, 3, Option.none⟩ (.float .f32 t.lit.g)).setCell ⟨q, 4, Option.none⟩ (.float .f32 t.lit.b)).setCell ⟨q, 5, Option.none⟩ (.slice a N ca)).setCell ⟨q, 6, Option.none⟩ (.int .i64 t.kind)).setCell ⟨q, 7, Option.none⟩ (.complex .f32 t.g1 t.g2)).setCell ⟨q, 8, Option.none⟩ (.float .f32 0)).setCell ⟨q, 9, Option.none⟩ (.slice b M cb)).setCell ⟨q, 10, Option.none⟩ (.int .i64 t.ticks)).setCell ⟨q, 11, Option.none⟩ (.slice l K cl)) q B t N M K a b l ca cb cl :=
  ⟨put_z hz, hr.grownP hz rfl grown12, below12 hb h3, h1, by simpa using h2, h3⟩
theorem DoMid.late {X W : World} {B : Nat} {t : Sho} {N M K : Nat} {a b l : Option Addr} {ca cb cl : Nat} (hr : DoRow W B t N M K a b l ca cb cl) (hb : Below X.heap.size X W) (h1 : X.heap.size ≤ B) (h2 : B ≤ W.heap.size) (h3 : X.heap.size ≤ W.heap.size) :
    DoMid X (W.alloc (.cells #[.int .i64 t.size, .float .f32 t.step, .float .f32 t.lit.r, .float .f32 t.lit.g, .float .f32 t.lit.b, .slice a N ca, .int .i64 t.kind, .complex .f32 t.g1 t.g2, .float .f32 0, .slice b M cb, .int .i64 t.ticks, .slice l K cl] 34)) W.heap.size B t N M K a b l ca cb cl :=
  ⟨Blk.new _ _ _, hr.alloc, hb.alloc h3 _, h1, by simp; omega, h3⟩
set_option maxHeartbeats 64000000 in
theorem do_endS {s t u : Sho} {N M K N' M' N2 M2 K2 : Nat} {e : Evw} {oka okb : Bool} (hK : K ≤ 24) (C : CopyS 68 s N M K) (S : ShIs 65 s N M K true) (V : EvIs 67 e true) (D : DoS 69 s N M K e t N' M' oka) (hl : t.log = s.log)
    (S2 : oka = true → ShIs 65 { t with log := s.log ++ [e] } N' M' (K + 1) okb) (hu : ((oka && okb) = false ∧ s = u ∧ N = N2 ∧ M = M2 ∧ K = K2) ∨ ((oka && okb) = true ∧ ({ t with log := s.log ++ [e] } : Sho) = u ∧ N' = N2 ∧ M' = M2 ∧ K + 1 = K2)) : DoMC 35 s N M K e u N2 M2 K2 (oka && okb) := ⟨fun w a b l ca cb cl hr => by
  obtain ⟨i0, hi, hz0, hz1, hz2⟩ := info_parts infoEv
  have S2' := Lib.hid S2
  have D0 := Lib.hid (DoBox.start w s N M K e a b l ca cb cl hr)
  clear hr S2
  go_enter Tryz.func35, Tryz.ntmps35
  go_wp2_with fail
  generalize ((w.alloc (.cells #[.int .i64 s.size, .float .f32 s.step, .float .f32 s.lit.r, .float .f32 s.lit.g, .float .f32 s.lit.b, .slice a N ca, .int .i64 s.kind, .complex .f32 s.g1 s.g2, .float .f32 0, .slice b M cb, .int .i64 s.ticks, .slice l K cl] 34)).alloc (.cells #[.int .i64 e.kind, .int .i64 e.n, .complex .f32 e.z1 e.z2, .complex .f32 e.s.a1 e.s.a2, .complex .f32 e.s.b1 e.s.b2, .complex .f32 e.s.c1 e.s.c2, .float .f32 e.s.r, .float .f32 e.s.g, .float .f32 e.s.b, .float .f32 e.s.k, .float .f32 e.l.r, .float .f32 e.l.g, .float .f32 e.l.b] 38)).alloc (.cells #[.int .i64 0, .float .f32 0, .float .f32 0, .float .f32 0, .float .f32 0, .slice Option.none 0 0, .int .i64 0, .complex .f32 0 0, .float .f32 0, .slice Option.none 0 0, .int .i64 0, .slice Option.none 0 0] 34) = X0 at *
  refine (S.call _ _ _ _ _ _ _ D0.out.inn).mono ?_
  rintro r w1 ⟨rfl, hb⟩
  have D1 := Lib.hid (D0.out.mono hb)
  clear hb D0 S
  (obtain ⟨c0, c1, c2, c3, c4, c5, c6, c7, c8, c9, c10, c11, c12⟩ := blk13 (D1.out.ev))
  have l0 := D1.out.ev.lt
  go_wp2_with fail
  refine (V.call _).mono ?_
  rintro r X ⟨rfl, hb⟩
  have D2 := Lib.hid (D1.out.mono hb)
  clear hb D1 V c0 c1 c2 c3 c4 c5 c6 c7 c8 c9 c10 c11 c12 l0
  go_upto_region 3 with fail
  have hzX := Nat.le_refl X.heap.size
  have hBX : Below X.heap.size X X := Below.refl _ _
  have lx : w.heap.size < X.heap.size := D2.out.sh.lt
  have ly : w.heap.size + 1 < X.heap.size := D2.out.ev.lt
  have hI := D2.out.inn
  (obtain ⟨p0, p1, p2, p3, p4, p5, p6, p7, p8, p9, p10, p11⟩ := blk12 (D2.out.sh))
  (obtain ⟨c0, c1, c2, c3, c4, c5, c6, c7, c8, c9, c10, c11, c12⟩ := blk13 (D2.out.ev))
  go_cut [6, 7] (fun v6 v7 wx => ∃ q B a' b' l' ca' cb' cl', v6 = .pointer (some ⟨q, 0, Option.none⟩) ∧ v7 = .bool oka ∧ DoMid X wx q B t N' M' K a' b' l' ca' cb' cl')
  case first =>
    go_region_held3 (fun wx => Below X.heap.size X wx ∧ X.heap.size ≤ wx.heap.size ∧ w.heap.size < wx.heap.size ∧ w.heap.size + 1 < wx.heap.size ∧ wx.cell? ⟨w.heap.size, 0, Option.none⟩ = some (.int .i64 s.size) ∧ wx.cell? ⟨w.heap.size, 1, Option.none⟩ = some (.float .f32 s.step) ∧ wx.cell? ⟨w.heap.size, 2, Option.none⟩ = some (.float .f32 s.lit.r) ∧ wx.cell? ⟨w.heap.size, 3, Option.none⟩ = some (.float .f32 s.lit.g) ∧ wx.cell? ⟨w.heap.size, 4, Option.none⟩ = some (.float .f32 s.lit.b) ∧ wx.cell? ⟨w.heap.size, 5, Option.none⟩ = some (.slice a N ca) ∧ wx.cell? ⟨w.heap.size, 6, Option.none⟩ = some (.int .i64 s.kind) ∧ wx.cell? ⟨w.heap.size, 7, Option.none⟩ = some (.complex .f32 s.g1 s.g2) ∧ wx.cell? ⟨w.heap.size, 8, Option.none⟩ = some (.float .f32 0) ∧ wx.cell? ⟨w.heap.size, 9, Option.none⟩ = some (.slice b M cb) ∧ wx.cell? ⟨w.heap.size, 10, Option.none⟩ = some (.int .i64 s.ticks) ∧ wx.cell? ⟨w.heap.size, 11, Option.none⟩ = some (.slice l K cl) ∧ wx.cell? ⟨w.heap.size + 1, 0, Option.none⟩ = some (.int .i64 e.kind) ∧ wx.cell? ⟨w.heap.size + 1, 1, Option.none⟩ = some (.int .i64 e.n) ∧ wx.cell? ⟨w.heap.size + 1, 2, Option.none⟩ = some (.complex .f32 e.z1 e.z2) ∧ wx.cell? ⟨w.heap.size + 1, 3, Option.none⟩ = some (.complex .f32 e.s.a1 e.s.a2) ∧ wx.cell? ⟨w.heap.size + 1, 4, Option.none⟩ = some (.complex .f32 e.s.b1 e.s.b2) ∧ wx.cell? ⟨w.heap.size + 1, 5, Option.none⟩ = some (.complex .f32 e.s.c1 e.s.c2) ∧ wx.cell? ⟨w.heap.size + 1, 6, Option.none⟩ = some (.float .f32 e.s.r) ∧ wx.cell? ⟨w.heap.size + 1, 7, Option.none⟩ = some (.float .f32 e.s.g) ∧ wx.cell? ⟨w.heap.size + 1, 8, Option.none⟩ = some (.float .f32 e.s.b) ∧ wx.cell? ⟨w.heap.size + 1, 9, Option.none⟩ = some (.float .f32 e.s.k) ∧ wx.cell? ⟨w.heap.size + 1, 10, Option.none⟩ = some (.float .f32 e.l.r) ∧ wx.cell? ⟨w.heap.size + 1, 11, Option.none⟩ = some (.float .f32 e.l.g) ∧ wx.cell? ⟨w.heap.size + 1, 12, Option.none⟩ = some (.float .f32 e.l.b))
      (((repeat' apply And.intro) <;> first | (with_reducible assumption) | (((repeat (first | (with_reducible assumption) | (with_reducible exact cNewAt (by first | rfl | (simp only [World.size_alloc, World.size_setCell, World.size_drew]; done) | omega) rfl) | (with_reducible exact sNewAt (by first | rfl | (simp only [World.size_alloc, World.size_setCell, World.size_drew]; done) | omega) rfl) | (simp; done) | (with_reducible apply cAlloc) | (with_reducible apply cDrew) | (with_reducible refine cSet (by dsimp only; omega) ?_) | (with_reducible refine cSetOff (by dsimp only; omega) ?_) | (with_reducible apply cSame) | (with_reducible refine cBelow (by assumption) ?_) | (with_reducible apply sAlloc) | (with_reducible apply sDrew) | (with_reducible refine sBelow (by assumption) ?_) | (with_reducible refine sSet (by dsimp only; omega) ?_))); first | done | (simp [*]; done)); done) | (simp only [World.size_alloc, World.size_setCell, World.size_drew]; omega) | omega | (go_keep; done) | ((repeat' (first | (with_reducible exact Below.refl _ _) | (with_reducible assumption) | (with_reducible refine Below.alloc ?_ ?_ _) | (with_reducible refine Below.drew ?_) | (with_reducible refine Below.setCell ?_ ?_ _) | (with_reducible refine Below.trans ?_ (Below.mono (by assumption) ?_)) | (with_reducible exact Nat.le_refl _) | omega | (simp only [World.size_alloc, World.size_setCell, World.size_drew]; omega) | (simp; omega) | (simp; done))); done)))
      (first | (go_at_call 68; (with_reducible refine (C.call _ _ _ _ _ _ _ ?_).mono ?_); (next => exact ShoIn.below hI (And.left (by assumption))); rintro r w4 ⟨a4, b4, l4, ca4, cb4, cl4, ⟨rfl, hown, hb⟩⟩; have hbs := hb.size; (try simp only [World.size_alloc, World.size_setCell, World.size_drew] at hbs hown); have HO : Hid (ShoOwn w4 _ s N M K a4 b4 l4 ca4 cb4 cl4) := hown; clear hown; (try ((first | have hN := Blk.belowAt hb (Blk.drew (Blk.new _ _ _)) | have hN := Blk.belowAt hb (Blk.new _ _ _)); (try simp only [World.size_drew] at hN)))) | (go_at_call 69; (first | (with_reducible refine (D.call _ _ _ _ _ _ _ _ HO.out ?_).mono ?_) | (with_reducible refine (D.call _ _ _ _ _ _ _ _ HO.out.alloc ?_).mono ?_)); (next => first | omega | (simp only [World.size_alloc, World.size_setCell, World.size_drew]; omega)); rintro r w5 ⟨a5, b5, ca5, cb5, hout⟩; obtain rfl := hout.ret; have hs5 := hout.size; (try simp only [World.size_alloc, World.size_setCell, World.size_drew] at hs5); have hb5 := Below.trans (And.left (by assumption)) (hout.below.mono (show X.heap.size ≤ _ by omega)); have HB5 : Hid (Below X.heap.size X w5) := hb5; have HR5 := Lib.hid hout.row; (try ((first | have hN := hout.keep _ _ hN | have hN := hout.keep _ _ (Blk.new _ _ _)); (have y0 := Blk.cellAt (i := 0) hN rfl; have y1 := Blk.cellAt (i := 1) hN rfl; have y2 := Blk.cellAt (i := 2) hN rfl; have y3 := Blk.cellAt (i := 3) hN rfl; have y4 := Blk.cellAt (i := 4) hN rfl; have y5 := Blk.cellAt (i := 5) hN rfl; have y6 := Blk.cellAt (i := 6) hN rfl; have y7 := Blk.cellAt (i := 7) hN rfl; have y8 := Blk.cellAt (i := 8) hN rfl; have y9 := Blk.cellAt (i := 9) hN rfl; have y10 := Blk.cellAt (i := 10) hN rfl; have y11 := Blk.cellAt (i := 11) hN rfl; simp only [List.getElem_toArray, List.getElem_cons_zero, List.getElem_cons_succ] at y0 y1 y2 y3 y4 y5 y6 y7 y8 y9 y10 y11; have z0 := hN.free 0; have z1 := hN.free 1; have z2 := hN.free 2; have z3 := hN.free 3; have z4 := hN.free 4; have z5 := hN.free 5; have z6 := hN.free 6; have z7 := hN.free 7; have z8 := hN.free 8; have z9 := hN.free 9; have z10 := hN.free 10; have z11 := hN.free 11; have zl := hN.lt))); clear hout))
    · rename_i hHeld
      clear hHeld
      go_wp2_with fail
      go_meet
      exact ⟨_, _, _, _, _, _, _, _, rfl, rfl, DoMid.late HR5.out HB5.out (by omega) (by omega) (by omega)⟩
    · rename_i hHeld
      clear hHeld
      go_wp2_with fail
      go_meet
      exact ⟨_, _, _, _, _, _, _, _, rfl, rfl, DoMid.early hN HR5.out HB5.out (by omega) (by omega) (by omega)⟩
    · rename_i hHeld
      clear hHeld
      go_wp2_with fail
      go_meet
      exact ⟨_, _, _, _, _, _, _, _, rfl, rfl, DoMid.early hN HR5.out HB5.out (by omega) (by omega) (by omega)⟩
  case rest =>
    obtain ⟨q, B, a5, b5, l5, ca5, cb5, cl5, rfl, rfl, hM⟩ := hcut
    have M3 := Lib.hid hM
    have D3 := Lib.hid (D2.out.mono hM.below)
    clear hM p0 p1 p2 p3 p4 p5 p6 p7 p8 p9 p10 p11 c0 c1 c2 c3 c4 c5 c6 c7 c8 c9 c10 c11 c12 hI hzX hBX D
    have hXB := M3.out.base
    have hBw := M3.out.le
    have hXq := M3.out.qge
    have lq := M3.out.box.lt
    (obtain ⟨k0, k1, k2, k3, k4, k5, k6, k7, k8, k9, k10, k11⟩ := blk12 (M3.out.box))
    (obtain ⟨c0, c1, c2, c3, c4, c5, c6, c7, c8, c9, c10, c11, c12⟩ := blk13 (D3.out.ev))
    have f11 := M3.out.box.free 11
    have hOl : (wc.alloc (.cells #[.int .i64 e.kind, .int .i64 e.n, .complex .f32 e.z1 e.z2, .complex .f32 e.s.a1 e.s.a2, .complex .f32 e.s.b1 e.s.b2, .complex .f32 e.s.c1 e.s.c2, .float .f32 e.s.r, .float .f32 e.s.g, .float .f32 e.s.b, .float .f32 e.s.k, .float .f32 e.l.r, .float .f32 e.l.g, .float .f32 e.l.b] 38)).ownsRow B 38 13 (.slice l5 K cl5) K (evCells t.log) := World.ownsRow.alloc M3.out.row.lg _
    go_wp2_with (at_builtin; go_loud (refine wpList_append_lies _ rfl _ _ 32 rfl B 38 i0 (.agg #[.int .i64 0, .int .i64 0, .complex .f32 0 0, .complex .f32 0 0, .complex .f32 0 0, .complex .f32 0 0, .float .f32 0, .float .f32 0, .float .f32 0, .float .f32 0, .float .f32 0, .float .f32 0, .float .f32 0]) 13 80 Tryz.underlying32 hi hz0 hz1 hz2 rfl (by decide) (.slice l5 K cl5) K (evCells t.log) rfl hOl ⟨wc.heap.size, 0, Option.none⟩ 1 1 e.cells rfl rfl (World.news_of_block (cs := #[.int .i64 e.kind, .int .i64 e.n, .complex .f32 e.z1 e.z2, .complex .f32 e.s.a1 e.s.a2, .complex .f32 e.s.b1 e.s.b2, .complex .f32 e.s.c1 e.s.c2, .float .f32 e.s.r, .float .f32 e.s.g, .float .f32 e.s.b, .float .f32 e.s.k, .float .f32 e.l.r, .float .f32 e.l.g, .float .f32 e.l.b]) (t := 38) (fr := (0, 0)) (Blk.newAt (by simp))) (by simp [Evw.cells, Value.oneCell']) (by omega) (by unfold maxLen; omega) (by omega) (by simp; omega) (wc.heap.size + 1) (by simp) ?_))
    intro gg cap5 w5 hown5 hgrow hat hlt5
    have hs5 := hgrow.size
    simp only [World.size_alloc] at hs5
    have hQ5 := blk_keep hgrow hOl (M3.out.box.alloc (o := .cells #[.int .i64 e.kind, .int .i64 e.n, .complex .f32 e.z1 e.z2, .complex .f32 e.s.a1 e.s.a2, .complex .f32 e.s.b1 e.s.b2, .complex .f32 e.s.c1 e.s.c2, .float .f32 e.s.r, .float .f32 e.s.g, .float .f32 e.s.b, .float .f32 e.s.k, .float .f32 e.l.r, .float .f32 e.l.g, .float .f32 e.l.b] 38)) (by decide)
    have hSh5 := owns_keep hgrow hOl (World.ownsRow.alloc M3.out.row.sh _) (by decide)
    have hBd5 := (M3.out.row.bd.alloc (o := .cells #[.int .i64 e.kind, .int .i64 e.n, .complex .f32 e.z1 e.z2, .complex .f32 e.s.a1 e.s.a2, .complex .f32 e.s.b1 e.s.b2, .complex .f32 e.s.c1 e.s.c2, .float .f32 e.s.r, .float .f32 e.s.g, .float .f32 e.s.b, .float .f32 e.s.k, .float .f32 e.l.r, .float .f32 e.l.g, .float .f32 e.l.b] 38)).keepL hOl hgrow M3.out.row.apart
    have hown6 := hown5
    rw [← evCells_snoc] at hown6
    (try rw [hl] at hown6)
    have G5 : Below X.heap.size X w5 := (M3.out.below.alloc (by omega) _).trans ((below_keep hgrow hOl (by simp; omega)).mono hXB)
    have KC := Lib.hid (own_cap hown6)
    have I5 : ShoIn w5 { t with log := s.log ++ [e] } a5 b5 (some ⟨gg, 0, Option.none⟩) := ⟨lies_of_owns hSh5, hBd5, lies_of_owns hown6⟩
    have d11 := Blk.cellAt (i := 11) hQ5 rfl
    have d1 := Blk.cellAt (i := 1) hQ5 rfl
    simp only [List.getElem_toArray, List.getElem_cons_zero, List.getElem_cons_succ] at d11 d1
    have g11 := hQ5.free 11
    have Q6 : Hid (Blk (w5.setCell ⟨q, 11, Option.none⟩ (.slice (some ⟨gg, 0, Option.none⟩) (K + 1) cap5)) q #[.int .i64 t.size, .float .f32 t.step, .float .f32 t.lit.r, .float .f32 t.lit.g, .float .f32 t.lit.b, .slice a5 N' ca5, .int .i64 t.kind, .complex .f32 t.g1 t.g2, .float .f32 0, .slice b5 M' cb5, .int .i64 t.ticks, .slice (some ⟨gg, 0, Option.none⟩) (K + 1) cap5] 34) := Blk.setAt rfl hQ5 rfl
    have I6 : Hid (ShoIn (w5.setCell ⟨q, 11, Option.none⟩ (.slice (some ⟨gg, 0, Option.none⟩) (K + 1) cap5)) { t with log := s.log ++ [e] } a5 b5 (some ⟨gg, 0, Option.none⟩)) := I5.setR d1
    have D6 := Lib.hid (D2.out.mono (G5.setCell (p := ⟨q, 11, Option.none⟩) hXq (.slice (some ⟨gg, 0, Option.none⟩) (K + 1) cap5)))
    have lq5 := hQ5.lt
    clear hOl hQ5 hSh5 hBd5 hown5 hown6 hgrow hat hlt5 M3 D3 I5 G5 D2 k0 k1 k2 k3 k4 k5 k6 k7 k8 k9 k10 k11 c0 c1 c2 c3 c4 c5 c6 c7 c8 c9 c10 c11 c12 f11 d1 lx ly lq
    have lq6 := Q6.out.lt
    go_upto_region 5 with fail
    clear d11 g11 lq5
    generalize w5.setCell ⟨q, 11, Option.none⟩ (.slice (some ⟨gg, 0, Option.none⟩) (K + 1) cap5) = Y at *
    cases oka
    · obtain ⟨rfl, rfl, rfl, rfl⟩ : s = u ∧ N = N2 ∧ M = M2 ∧ K = K2 := by
        rcases hu with ⟨_, h⟩ | ⟨h, _⟩
        · exact h
        · simp at h
      have DX := D6
      clear hu S2' Q6 I6 D6
      (obtain ⟨p0, p1, p2, p3, p4, p5, p6, p7, p8, p9, p10, p11⟩ := blk12 (DX.out.sh))
      have l9 := DX.out.sh.lt
      go_wp2_with fail
      refine (C.call _ _ _ _ _ _ _ DX.out.inn).mono ?_
      rintro r w9 ⟨a2, b2, l2, ca2, cb2, cl2, ⟨rfl, hown, hb⟩⟩
      have D9 := Lib.hid (DX.out.mono hb)
      have O2 := Lib.hid hown.in_
      have KC := Lib.hid (own_cap hown.lg)
      clear hb hown DX C p0 p1 p2 p3 p4 p5 p6 p7 p8 p9 p10 p11 l9
      (obtain ⟨q0, q1, q2, q3, q4, q5, q6, q7, q8, q9, q10, q11⟩ := blk12 (D9.out.res))
      (have h0 := D9.out.res.free 0; have h1 := D9.out.res.free 1; have h2 := D9.out.res.free 2; have h3 := D9.out.res.free 3; have h4 := D9.out.res.free 4; have h5 := D9.out.res.free 5; have h6 := D9.out.res.free 6; have h7 := D9.out.res.free 7; have h8 := D9.out.res.free 8; have h9 := D9.out.res.free 9; have h10 := D9.out.res.free 10; have h11 := D9.out.res.free 11)
      have l2' := D9.out.res.lt
      have P5 := Lib.hid (put_z (t := s) (x' := .slice a2 N ca2) (y' := .slice b2 M cb2) (z' := .slice l2 K cl2) D9.out.res)
      go_wp2_with fail
      (obtain ⟨e0, e1, e2, e3, e4, e5, e6, e7, e8, e9, e10, e11⟩ := blk12 (P5.out))
      have hB := D9.out.below
      refine bodyPost_ret (v := .tuple #[.agg #[.int .i64 s.size, .float .f32 s.step, .float .f32 s.lit.r, .float .f32 s.lit.g, .float .f32 s.lit.b, .slice a2 N ca2, .int .i64 s.kind, .complex .f32 s.g1 s.g2, .float .f32 0, .slice b2 M cb2, .int .i64 s.ticks, .slice l2 K cl2], .bool false]) (by simp [results, Tryz.results35, go_sem, e0, e1, e2, e3, e4, e5, e6, e7, e8, e9, e10, e11]) rfl ⟨a2, b2, l2, ca2, cb2, cl2, ⟨rfl, O2.out.grownAt grown12 q1, below12 hB (by omega)⟩, KC.out⟩
    · have S3 := S2'.out rfl
      clear S2'
      (obtain ⟨k0, k1, k2, k3, k4, k5, k6, k7, k8, k9, k10, k11⟩ := blk12 (Q6.out))
      go_wp2_with fail
      refine (S3.call _ _ _ _ _ _ _ I6.out).mono ?_
      rintro r w8 ⟨rfl, hb⟩
      have Q8 := Lib.hid (Q6.out.below hb)
      have I8 := Lib.hid (I6.out.below hb)
      have D8 := Lib.hid (D6.out.mono hb)
      have lq8 := Q8.out.lt
      clear hb Q6 I6 D6 S3 k0 k1 k2 k3 k4 k5 k6 k7 k8 k9 k10 k11 lq6
      cases okb
      · obtain ⟨rfl, rfl, rfl, rfl⟩ : s = u ∧ N = N2 ∧ M = M2 ∧ K = K2 := by
          rcases hu with ⟨_, h⟩ | ⟨h, _⟩
          · exact h
          · simp at h
        have DX := D8
        clear hu Q8 I8 D8
        (obtain ⟨p0, p1, p2, p3, p4, p5, p6, p7, p8, p9, p10, p11⟩ := blk12 (DX.out.sh))
        have l9 := DX.out.sh.lt
        go_wp2_with fail
        refine (C.call _ _ _ _ _ _ _ DX.out.inn).mono ?_
        rintro r w9 ⟨a2, b2, l2, ca2, cb2, cl2, ⟨rfl, hown, hb⟩⟩
        have D9 := Lib.hid (DX.out.mono hb)
        have O2 := Lib.hid hown.in_
        have KC := Lib.hid (own_cap hown.lg)
        clear hb hown DX C p0 p1 p2 p3 p4 p5 p6 p7 p8 p9 p10 p11 l9
        (obtain ⟨q0, q1, q2, q3, q4, q5, q6, q7, q8, q9, q10, q11⟩ := blk12 (D9.out.res))
        (have h0 := D9.out.res.free 0; have h1 := D9.out.res.free 1; have h2 := D9.out.res.free 2; have h3 := D9.out.res.free 3; have h4 := D9.out.res.free 4; have h5 := D9.out.res.free 5; have h6 := D9.out.res.free 6; have h7 := D9.out.res.free 7; have h8 := D9.out.res.free 8; have h9 := D9.out.res.free 9; have h10 := D9.out.res.free 10; have h11 := D9.out.res.free 11)
        have l2' := D9.out.res.lt
        have P5 := Lib.hid (put_z (t := s) (x' := .slice a2 N ca2) (y' := .slice b2 M cb2) (z' := .slice l2 K cl2) D9.out.res)
        go_wp2_with fail
        (obtain ⟨e0, e1, e2, e3, e4, e5, e6, e7, e8, e9, e10, e11⟩ := blk12 (P5.out))
        have hB := D9.out.below
        refine bodyPost_ret (v := .tuple #[.agg #[.int .i64 s.size, .float .f32 s.step, .float .f32 s.lit.r, .float .f32 s.lit.g, .float .f32 s.lit.b, .slice a2 N ca2, .int .i64 s.kind, .complex .f32 s.g1 s.g2, .float .f32 0, .slice b2 M cb2, .int .i64 s.ticks, .slice l2 K cl2], .bool false]) (by simp [results, Tryz.results35, go_sem, e0, e1, e2, e3, e4, e5, e6, e7, e8, e9, e10, e11]) rfl ⟨a2, b2, l2, ca2, cb2, cl2, ⟨rfl, O2.out.grownAt grown12 q1, below12 hB (by omega)⟩, KC.out⟩
      · obtain ⟨rfl, rfl, rfl, rfl⟩ : ({ t with log := s.log ++ [e] } : Sho) = u ∧ N' = N2 ∧ M' = M2 ∧ K + 1 = K2 := by
          rcases hu with ⟨h, _⟩ | ⟨_, h⟩
          · simp at h
          · exact h
        (obtain ⟨k0, k1, k2, k3, k4, k5, k6, k7, k8, k9, k10, k11⟩ := blk12 (Q8.out))
        (obtain ⟨q0, q1, q2, q3, q4, q5, q6, q7, q8, q9, q10, q11⟩ := blk12 (D8.out.res))
        (have h0 := D8.out.res.free 0; have h1 := D8.out.res.free 1; have h2 := D8.out.res.free 2; have h3 := D8.out.res.free 3; have h4 := D8.out.res.free 4; have h5 := D8.out.res.free 5; have h6 := D8.out.res.free 6; have h7 := D8.out.res.free 7; have h8 := D8.out.res.free 8; have h9 := D8.out.res.free 9; have h10 := D8.out.res.free 10; have h11 := D8.out.res.free 11)
        have l2' := D8.out.res.lt
        have P5 := Lib.hid (put_z (t := t) (x' := .slice a5 N' ca5) (y' := .slice b5 M' cb5) (z' := .slice (some ⟨gg, 0, Option.none⟩) (K + 1) cap5) D8.out.res)
        go_wp2_with fail
        (obtain ⟨e0, e1, e2, e3, e4, e5, e6, e7, e8, e9, e10, e11⟩ := blk12 (P5.out))
        have hB := D8.out.below
        refine bodyPost_ret (v := .tuple #[.agg #[.int .i64 t.size, .float .f32 t.step, .float .f32 t.lit.r, .float .f32 t.lit.g, .float .f32 t.lit.b, .slice a5 N' ca5, .int .i64 t.kind, .complex .f32 t.g1 t.g2, .float .f32 0, .slice b5 M' cb5, .int .i64 t.ticks, .slice (some ⟨gg, 0, Option.none⟩) (K + 1) cap5], .bool true]) (by simp [results, Tryz.results35, go_sem, e0, e1, e2, e3, e4, e5, e6, e7, e8, e9, e10, e11]) rfl ⟨a5, b5, some ⟨gg, 0, Option.none⟩, ca5, cb5, cap5, ⟨rfl, I8.out.grownAt grown12 q1, below12 hB (by omega)⟩, KC.out⟩⟩
end Go.Proofs.YtfdgijmmgllmgaaGreatDoor
