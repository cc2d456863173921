/-
  Texts Qd Qe, joined.
-/
import Derived.Test.YtfdgijmmgllmgaaGreatDoorS32
import Derived.Test.YtfdgijmmgllmgaaGreatDoorS33
namespace Go.Proofs.YtfdgijmmgllmgaaGreatDoor
open Go.ChangeShapes Go.WideShapes Go.ChangeAt Go.RowKit Go.Joins
set_option linter.unusedSimpArgs false
set_option linter.unusedVariables false
set_option maxRecDepth 100000
attribute [local go_sem] store_f
open Ieee Go.Lib
attribute [local go_sem] store_c
theorem doE_someS {S T : Shw} {e : Ev} (G : Good S) (he : e.Ok) (h : doE S e = some T) (hc : cost (S.log ++ [e]) ≤ 10) (hl : S.log.length ≤ 23) : DoMC 35 S.w S.bds.length S.bds.length S.log.length e.w T.w T.bds.length T.bds.length T.log.length true := by
  have GT := good_do G he h hc hl
  have V := evS_of he
  rw [doE_yes G.fine h] at V
  unfold doE at h
  obtain ⟨U, hU, rfl⟩ := Option.map_eq_some_iff.1 h
  have D := doS_of G he hU hc
  have hlog : U.w.log = S.w.log := by
    have := hU
    cases e <;> simp only [doB] at this
    all_goals (first | (split at this; (· simp only [Option.some.injEq] at this; subst this; rfl); (· simp at this)) | (simp only [Option.some.injEq] at this; subst this; rfl))
  have K := do_endS (u := ({ U with log := S.log ++ [e] } : Shw).w) (N2 := U.bds.length) (M2 := U.bds.length) (K2 := (S.log ++ [e]).length) (okb := true) (by omega) G.copyS G.isS V D hlog (fun _ => by
    have := GT.isS
    rw [show (({ U with log := S.log ++ [e] } : Shw)).log.length = S.log.length + 1 by simp] at this
    rw [logs]
    exact this) (.inr ⟨rfl, by rw [logs]; rfl, rfl, rfl, by simp⟩)
  exact K
theorem doE_noneS {S : Shw} {e : Ev} (G : Good S) (he : e.Ok) (h : doE S e = none) (hl : S.log.length ≤ 23) : DoMC 35 S.w S.bds.length S.bds.length S.log.length e.w S.w S.bds.length S.bds.length S.log.length false := by
  have FN := G.fine
  have k8 := FN.few
  have k3 := FN.kin
  by_cases hy : e.yes = true
  · have V := evS_of he
    rw [hy] at V
    have hB : doB S e = none := by simpa [doE] using h
    have hlen : S.w.bds.length = S.bds.length := by simp [Shw.w]
    cases e with
    | add s z =>
      simp only [doB] at hB
      split at hB
      · simp at hB
      · rename_i hge
        have h8 : S.bds.length = 8 := by omega
        have D := doS_add (s := S.w) (N := S.bds.length) (M := S.bds.length) (K := S.log.length) (sh := s) (z1 := z.1.1) (z2 := z.1.2) (by omega) (by omega) (foldS_pt (by show (0 : Int) ≤ (S.kind : Int); omega) (by show (S.kind : Int) ≤ 3; omega) z)
        have K := do_endS (u := S.w) (N2 := S.bds.length) (M2 := S.bds.length) (K2 := S.log.length) (okb := false) (by omega) G.copyS G.isS V D rfl (fun _ => ?_) (.inl ⟨rfl, rfl, rfl, rfl, rfl⟩)
        · exact K
        · obtain ⟨i, hi, hs⟩ := FN.st
          obtain ⟨s0, s1, s2⟩ := stepB_s0 hi
          rw [← hs] at s0 s1 s2
          have ht := FN.ticks
          refine shIsS ⟨lieM_yes (by show (1 : Int) ≤ (S.size : Int); have := FN.s1; omega) (by show (S.size : Int) ≤ 8; have := FN.s5; omega), fun w => l1Single_yes _ w (sub_self G.fin.step), s0, s1, s2, colS_ok FN.lit, aresS (by show (S.shs ++ [s]).length = _; simp [FN.len]) (by omega) (fun x hx => ?_), fun w a cap _ => tumNoS (by show (0 : Int) ≤ (S.kind : Int); omega) (by show (S.kind : Int) ≤ 3; omega) (ptS S.g.2.1.ok S.g.2.2.ok) (by omega) w a cap, fun h => by simp at h, lieM_yes (by show (0 : Int) ≤ (S.ticks : Int); omega) (by show (S.ticks : Int) ≤ 200; omega), fun h => by simp at h, ?_, fun h => by simp at h⟩
          · rcases List.mem_append.1 (show x ∈ S.shs ++ [s] from hx) with h | h
            · exact FN.shs x h
            · rw [List.mem_singleton] at h; rw [h]; exact he.1
          · simp [Shw.w]
    | take n =>
      simp only [doB] at hB
      split at hB
      · simp at hB
      · rename_i hge
        exact do_endS (u := S.w) (okb := false) (by omega) G.copyS G.isS V (doS_take_no (by omega) he) rfl (fun h => by simp at h) (.inl ⟨rfl, rfl, rfl, rfl, rfl⟩)
    | light c => simp [doB] at hB
    | mirrors k => simp [doB] at hB
    | gravity z => simp [doB] at hB
    | push n z =>
      simp only [doB] at hB
      split at hB
      · simp at hB
      · rename_i hge
        exact do_endS (u := S.w) (okb := false) (by omega) G.copyS G.isS V (doS_push_no (by omega) he.1) rfl (fun h => by simp at h) (.inl ⟨rfl, rfl, rfl, rfl, rfl⟩)
    | wait n => simp [doB] at hB
  · exact doE_no1S G he (by simpa using hy)
theorem doEvS : DoEvS := ⟨fun G he h hc hl => doE_someS G he h hc hl, fun G he h hl => doE_noneS G he h hl⟩
end Go.Proofs.YtfdgijmmgllmgaaGreatDoor
namespace Go.Proofs.YtfdgijmmgllmgaaGreatDoor
open Go.ChangeShapes Go.WideShapes Go.ChangeAt Go.RowKit Go.Joins
set_option linter.unusedSimpArgs false
set_option linter.unusedVariables false
set_option maxRecDepth 100000
attribute [local go_sem] store_f
open Ieee Go.Lib
attribute [local go_sem] store_c
theorem ev_kind (e : Ev) : e.w.kind ≠ 0 := by cases e <;> simp [Ev.w]
theorem ShoIn.grownEv {W w1 : World} {S : Shw} {a b l : Option Addr} {R : Nat} (h : ShoIn W S.w a b l) (hg : W.grownBy w1 (some R)) (hc : W.cell? ⟨R, 0, Option.none⟩ = some (.int .i64 0)) : ShoIn w1 S.w a b l := by
  refine ⟨h.sh.grownAt hg hc fun h0 => ?_, h.bd.grownAt hg hc fun h0 => ?_, h.lg.grownAt hg hc fun h0 => ?_⟩
  · cases hs : S.w.shs with
    | nil => rw [hs] at h0; exact absurd rfl h0
    | cons x L => exact ⟨.complex .f32 x.a1 x.a2, rfl, fun e => by cases e⟩
  · cases hs : S.w.bds with
    | nil => rw [hs] at h0; exact absurd rfl h0
    | cons x L => exact ⟨.complex .f32 x.a1 x.a2, rfl, fun e => by cases e⟩
  · cases hs : S.log with
    | nil => exact absurd (by simp [Shw.w, hs, evCells]) h0
    | cons x L => exact ⟨.int .i64 x.w.kind, by simp [Shw.w, hs, evCells, Evw.cells], fun e => ev_kind x (by simpa using e)⟩
structure ShowEv (w : World) (e : Ending) (w' : World) (S : Shw) (x : Ev) (a b l : Option Addr) (ca cb cl : Nat) : Prop where
  ret : e = .returned (.tuple #[.agg #[.int .i64 S.w.size, .float .f32 S.w.step, .float .f32 S.w.lit.r, .float .f32 S.w.lit.g, .float .f32 S.w.lit.b, .slice a S.bds.length ca, .int .i64 S.w.kind, .complex .f32 S.w.g1 S.w.g2, .float .f32 0, .slice b S.bds.length cb, .int .i64 S.w.ticks, .slice l S.log.length cl], .agg #[.int .i64 x.w.kind, .int .i64 x.w.n, .complex .f32 x.w.z1 x.w.z2, .complex .f32 x.w.s.a1 x.w.s.a2, .complex .f32 x.w.s.b1 x.w.s.b2, .complex .f32 x.w.s.c1 x.w.s.c2, .float .f32 x.w.s.r, .float .f32 x.w.s.g, .float .f32 x.w.s.b, .float .f32 x.w.s.k, .float .f32 x.w.l.r, .float .f32 x.w.l.g, .float .f32 x.w.l.b]])
  told : Told S
  ok : x.Ok
  len : S.log.length ≤ 11
  cost : cost S.log ≤ 9
  inn : ShoIn w' S.w a b l
  below : Below w.heap.size w w'
  cap : S.log.length ≤ cl
  pos : 1 ≤ S.log.length
set_option maxHeartbeats 32000000 in
theorem drawShow_s (a : Option Addr) (len cap : Nat) (bs : List Int) (w : World) (hrow : ByteRow w w.heap.size a len bs) (hlen : len ≤ 4096) :
    Calls Tryz.prog 5 #[.slice a len cap] w fun e w' => ∃ S x a' b' l' ca cb cl, ShowEv w e w' S x a' b' l' ca cb cl := by
  have HR := Lib.hid hrow
  clear hrow
  go_enter Tryz.func5, Tryz.ntmps5
  go_wp2_with fail
  generalize hX : (w.alloc (.cells #[.int .i64 0, .float .f32 0, .float .f32 0, .float .f32 0, .float .f32 0, .slice Option.none 0 0, .int .i64 0, .complex .f32 0 0, .float .f32 0, .slice Option.none 0 0, .int .i64 0, .slice Option.none 0 0] 34)).alloc (.cells #[.int .i64 0, .int .i64 0, .complex .f32 0 0, .complex .f32 0 0, .complex .f32 0 0, .complex .f32 0 0, .float .f32 0, .float .f32 0, .float .f32 0, .float .f32 0, .float .f32 0, .float .f32 0, .float .f32 0] 38) = X
  have R0 : Hid (Blk X w.heap.size #[.int .i64 0, .float .f32 0, .float .f32 0, .float .f32 0, .float .f32 0, .slice Option.none 0 0, .int .i64 0, .complex .f32 0 0, .float .f32 0, .slice Option.none 0 0, .int .i64 0, .slice Option.none 0 0] 34) := by rw [← hX]; exact (Blk.new _ _ _).alloc
  have E0 : Hid (Blk X (w.heap.size + 1) #[.int .i64 0, .int .i64 0, .complex .f32 0 0, .complex .f32 0 0, .complex .f32 0 0, .complex .f32 0 0, .float .f32 0, .float .f32 0, .float .f32 0, .float .f32 0, .float .f32 0, .float .f32 0, .float .f32 0] 38) := by rw [← hX]; exact Blk.newAt (by simp)
  have BX : Below w.heap.size w X := by rw [← hX]; (repeat' (first | (with_reducible exact Below.refl _ _) | (with_reducible assumption) | (with_reducible refine Below.alloc ?_ ?_ _) | (with_reducible refine Below.drew ?_) | (with_reducible refine Below.setCell ?_ ?_ _) | (with_reducible refine Below.trans ?_ (Below.mono (by assumption) ?_)) | (with_reducible exact Nat.le_refl _) | omega | (simp only [World.size_alloc, World.size_setCell, World.size_drew]; omega) | (simp; omega) | (simp; done)))
  have sX : X.heap.size = w.heap.size + 2 := by rw [← hX]; simp
  clear hX
  refine (l1New_s a len cap bs _ ((HR.out.of BX).mono BX.size) hlen).mono ?_
  rintro e w1 ⟨q, rfl, hql, hcur, hb1⟩
  have hqB := hcur.ge
  have C1 := Lib.hid hcur
  have B1 : Hid (Below w.heap.size w w1) := BX.trans (hb1.mono BX.size)
  have R1 : Hid (Blk w1 w.heap.size #[.int .i64 0, .float .f32 0, .float .f32 0, .float .f32 0, .float .f32 0, .slice Option.none 0 0, .int .i64 0, .complex .f32 0 0, .float .f32 0, .slice Option.none 0 0, .int .i64 0, .slice Option.none 0 0] 34) := R0.out.below hb1
  have E1 : Hid (Blk w1 (w.heap.size + 1) #[.int .i64 0, .int .i64 0, .complex .f32 0 0, .complex .f32 0 0, .complex .f32 0 0, .complex .f32 0 0, .float .f32 0, .float .f32 0, .float .f32 0, .float .f32 0, .float .f32 0, .float .f32 0, .float .f32 0] 38) := E0.out.below hb1
  have s1 := hb1.size
  clear hcur hb1 BX R0 E0 HR
  go_wp2_with fail
  refine (l6Draw_s doEvS X.heap.size q _ C1.out).mono ?_
  rintro e w2 ⟨S, a2, b2, l2, ca2, cb2, cl2, ⟨rfl, told, hlen2, hcost, hinn, hc, hg, hcp, hpos⟩⟩
  have HT := Lib.hid told
  have HL := Lib.hid hlen2
  have HCP := Lib.hid hcp
  have HPO := Lib.hid hpos
  have HC := Lib.hid hcost
  have N8 : Hid (S.bds.length ≤ 8) := told.fine.few
  have C2 : Hid (Cur X.heap.size (w2.alloc (.cells #[.int .i64 S.w.size, .float .f32 S.w.step, .float .f32 S.w.lit.r, .float .f32 S.w.lit.g, .float .f32 S.w.lit.b, .slice a2 S.bds.length ca2, .int .i64 S.w.kind, .complex .f32 S.w.g1 S.w.g2, .float .f32 0, .slice b2 S.bds.length cb2, .int .i64 S.w.ticks, .slice l2 S.log.length cl2] 34)).drew q) := Cur.below hc.alloc ((Below.refl _ _).drew)
  have I2 : Hid (ShoIn (w2.alloc (.cells #[.int .i64 S.w.size, .float .f32 S.w.step, .float .f32 S.w.lit.r, .float .f32 S.w.lit.g, .float .f32 S.w.lit.b, .slice a2 S.bds.length ca2, .int .i64 S.w.kind, .complex .f32 S.w.g1 S.w.g2, .float .f32 0, .slice b2 S.bds.length cb2, .int .i64 S.w.ticks, .slice l2 S.log.length cl2] 34)).drew S.w a2 b2 l2) := hinn.alloc.drew
  have R2 : Hid (Blk (w2.alloc (.cells #[.int .i64 S.w.size, .float .f32 S.w.step, .float .f32 S.w.lit.r, .float .f32 S.w.lit.g, .float .f32 S.w.lit.b, .slice a2 S.bds.length ca2, .int .i64 S.w.kind, .complex .f32 S.w.g1 S.w.g2, .float .f32 0, .slice b2 S.bds.length cb2, .int .i64 S.w.ticks, .slice l2 S.log.length cl2] 34)).drew w.heap.size #[.int .i64 0, .float .f32 0, .float .f32 0, .float .f32 0, .float .f32 0, .slice Option.none 0 0, .int .i64 0, .complex .f32 0 0, .float .f32 0, .slice Option.none 0 0, .int .i64 0, .slice Option.none 0 0] 34) := (R1.out.grown hg (by omega)).alloc.drew
  have E2 : Hid (Blk (w2.alloc (.cells #[.int .i64 S.w.size, .float .f32 S.w.step, .float .f32 S.w.lit.r, .float .f32 S.w.lit.g, .float .f32 S.w.lit.b, .slice a2 S.bds.length ca2, .int .i64 S.w.kind, .complex .f32 S.w.g1 S.w.g2, .float .f32 0, .slice b2 S.bds.length cb2, .int .i64 S.w.ticks, .slice l2 S.log.length cl2] 34)).drew (w.heap.size + 1) #[.int .i64 0, .int .i64 0, .complex .f32 0 0, .complex .f32 0 0, .complex .f32 0 0, .complex .f32 0 0, .float .f32 0, .float .f32 0, .float .f32 0, .float .f32 0, .float .f32 0, .float .f32 0, .float .f32 0] 38) := (E1.out.grown hg (by omega)).alloc.drew
  have P2 : Hid (Blk (w2.alloc (.cells #[.int .i64 S.w.size, .float .f32 S.w.step, .float .f32 S.w.lit.r, .float .f32 S.w.lit.g, .float .f32 S.w.lit.b, .slice a2 S.bds.length ca2, .int .i64 S.w.kind, .complex .f32 S.w.g1 S.w.g2, .float .f32 0, .slice b2 S.bds.length cb2, .int .i64 S.w.ticks, .slice l2 S.log.length cl2] 34)).drew w2.heap.size #[.int .i64 S.w.size, .float .f32 S.w.step, .float .f32 S.w.lit.r, .float .f32 S.w.lit.g, .float .f32 S.w.lit.b, .slice a2 S.bds.length ca2, .int .i64 S.w.kind, .complex .f32 S.w.g1 S.w.g2, .float .f32 0, .slice b2 S.bds.length cb2, .int .i64 S.w.ticks, .slice l2 S.log.length cl2] 34) := (Blk.new _ _ _).drew
  have G2 : Hid (w1.grownBy (w2.alloc (.cells #[.int .i64 S.w.size, .float .f32 S.w.step, .float .f32 S.w.lit.r, .float .f32 S.w.lit.g, .float .f32 S.w.lit.b, .slice a2 S.bds.length ca2, .int .i64 S.w.kind, .complex .f32 S.w.g1 S.w.g2, .float .f32 0, .slice b2 S.bds.length cb2, .int .i64 S.w.ticks, .slice l2 S.log.length cl2] 34)).drew (some q)) := grownBy_draws (n := 1) (grown_alloc hg _)
  have s2 := hg.size
  have hq2 := hc.lt
  clear hcp hpos told hlen2 hcost hinn hc hg C1 R1 E1
  go_wp2_with fail
  have p0 := Blk.cellAt (i := 0) (Blk.new w2 #[.int .i64 S.w.size, .float .f32 S.w.step, .float .f32 S.w.lit.r, .float .f32 S.w.lit.g, .float .f32 S.w.lit.b, .slice a2 S.bds.length ca2, .int .i64 S.w.kind, .complex .f32 S.w.g1 S.w.g2, .float .f32 0, .slice b2 S.bds.length cb2, .int .i64 S.w.ticks, .slice l2 S.log.length cl2] 34) rfl
  clear p0
  have K2 : Hid (Blk (w2.alloc (.cells #[.int .i64 S.w.size, .float .f32 S.w.step, .float .f32 S.w.lit.r, .float .f32 S.w.lit.g, .float .f32 S.w.lit.b, .slice a2 S.bds.length ca2, .int .i64 S.w.kind, .complex .f32 S.w.g1 S.w.g2, .float .f32 0, .slice b2 S.bds.length cb2, .int .i64 S.w.ticks, .slice l2 S.log.length cl2] 34)) w2.heap.size #[.int .i64 S.w.size, .float .f32 S.w.step, .float .f32 S.w.lit.r, .float .f32 S.w.lit.g, .float .f32 S.w.lit.b, .slice a2 S.bds.length ca2, .int .i64 S.w.kind, .complex .f32 S.w.g1 S.w.g2, .float .f32 0, .slice b2 S.bds.length cb2, .int .i64 S.w.ticks, .slice l2 S.log.length cl2] 34) := Blk.new _ _ _
  have sP : w2.heap.size < (w2.alloc (.cells #[.int .i64 S.w.size, .float .f32 S.w.step, .float .f32 S.w.lit.r, .float .f32 S.w.lit.g, .float .f32 S.w.lit.b, .slice a2 S.bds.length ca2, .int .i64 S.w.kind, .complex .f32 S.w.g1 S.w.g2, .float .f32 0, .slice b2 S.bds.length cb2, .int .i64 S.w.ticks, .slice l2 S.log.length cl2] 34)).heap.size := by simp
  generalize w2.alloc (.cells #[.int .i64 S.w.size, .float .f32 S.w.step, .float .f32 S.w.lit.r, .float .f32 S.w.lit.g, .float .f32 S.w.lit.b, .slice a2 S.bds.length ca2, .int .i64 S.w.kind, .complex .f32 S.w.g1 S.w.g2, .float .f32 0, .slice b2 S.bds.length cb2, .int .i64 S.w.ticks, .slice l2 S.log.length cl2] 34) = Y at *
  have hR2 : w.heap.size < w2.heap.size := by omega
  have hE2 : w.heap.size + 1 < w2.heap.size := by omega
  generalize w2.heap.size = P at *
  (obtain ⟨p0, p1, p2, p3, p4, p5, p6, p7, p8, p9, p10, p11⟩ := blk12 (K2.out))
  go_region_held3 (fun wx => P < wx.heap.size ∧ wx.cell? ⟨P, 0, Option.none⟩ = some (.int .i64 S.w.size) ∧ wx.cell? ⟨P, 1, Option.none⟩ = some (.float .f32 S.w.step) ∧ wx.cell? ⟨P, 2, Option.none⟩ = some (.float .f32 S.w.lit.r) ∧ wx.cell? ⟨P, 3, Option.none⟩ = some (.float .f32 S.w.lit.g) ∧ wx.cell? ⟨P, 4, Option.none⟩ = some (.float .f32 S.w.lit.b) ∧ wx.cell? ⟨P, 5, Option.none⟩ = some (.slice a2 S.bds.length ca2) ∧ wx.cell? ⟨P, 6, Option.none⟩ = some (.int .i64 S.w.kind) ∧ wx.cell? ⟨P, 7, Option.none⟩ = some (.complex .f32 S.w.g1 S.w.g2) ∧ wx.cell? ⟨P, 8, Option.none⟩ = some (.float .f32 0) ∧ wx.cell? ⟨P, 9, Option.none⟩ = some (.slice b2 S.bds.length cb2) ∧ wx.cell? ⟨P, 10, Option.none⟩ = some (.int .i64 S.w.ticks) ∧ wx.cell? ⟨P, 11, Option.none⟩ = some (.slice l2 S.log.length cl2))
    (((repeat' apply And.intro) <;> first | (with_reducible assumption) | (((repeat (first | (with_reducible assumption) | (with_reducible exact cNewAt (by first | rfl | (simp only [World.size_alloc, World.size_setCell, World.size_drew]; done) | omega) rfl) | (with_reducible exact sNewAt (by first | rfl | (simp only [World.size_alloc, World.size_setCell, World.size_drew]; done) | omega) rfl) | (simp; done) | (with_reducible apply cAlloc) | (with_reducible apply cDrew) | (with_reducible refine cSet (by dsimp only; omega) ?_) | (with_reducible refine cSetOff (by dsimp only; omega) ?_) | (with_reducible apply cSame) | (with_reducible refine cBelow (by assumption) ?_) | (with_reducible apply sAlloc) | (with_reducible apply sDrew) | (with_reducible refine sBelow (by assumption) ?_) | (with_reducible refine sSet (by dsimp only; omega) ?_))); first | done | (simp [*]; done)); done) | (simp only [World.size_alloc, World.size_setCell, World.size_drew]; omega) | omega | (go_keep; done) | ((repeat' (first | (with_reducible exact Below.refl _ _) | (with_reducible assumption) | (with_reducible refine Below.alloc ?_ ?_ _) | (with_reducible refine Below.drew ?_) | (with_reducible refine Below.setCell ?_ ?_ _) | (with_reducible refine Below.trans ?_ (Below.mono (by assumption) ?_)) | (with_reducible exact Nat.le_refl _) | omega | (simp only [World.size_alloc, World.size_setCell, World.size_drew]; omega) | (simp; omega) | (simp; done))); done)))
    (first | (go_at_call 15; (with_reducible refine (l6Event_s X.heap.size q _ C2.out _ _ _ _ N8.out _ _ _ _ _ _).mono ?_); rintro e w4 ⟨x, ⟨rfl, hx, hc, hg⟩⟩; have HX := Lib.hid hx; have hP4 := P2.out.grown hg (by omega); have hR4 := R2.out.grown hg (by omega); have hE4 := E2.out.grown hg (by omega); have I4 := Lib.hid (I2.out.grownCur C2.out hg); have G4 := Lib.hid (grownBy_trans G2.out hg); (obtain ⟨y0, y1, y2, y3, y4, y5, y6, y7, y8, y9, y10, y11⟩ := blk12 (hP4)); have yl := hP4.lt; (obtain ⟨u0, u1, u2, u3, u4, u5, u6, u7, u8, u9, u10, u11⟩ := blk12 (hR4)); (have z0 := hR4.free 0; have z1 := hR4.free 1; have z2 := hR4.free 2; have z3 := hR4.free 3; have z4 := hR4.free 4; have z5 := hR4.free 5; have z6 := hR4.free 6; have z7 := hR4.free 7; have z8 := hR4.free 8; have z9 := hR4.free 9; have z10 := hR4.free 10; have z11 := hR4.free 11); have ul := hR4.lt; (obtain ⟨v0, v1, v2, v3, v4, v5, v6, v7, v8, v9, v10, v11, v12⟩ := blk13 (hE4)); (have f0 := hE4.free 0; have f1 := hE4.free 1; have f2 := hE4.free 2; have f3 := hE4.free 3; have f4 := hE4.free 4; have f5 := hE4.free 5; have f6 := hE4.free 6; have f7 := hE4.free 7; have f8 := hE4.free 8; have f9 := hE4.free 9; have f10 := hE4.free 10; have f11 := hE4.free 11; have f12 := hE4.free 12); have vl := hE4.lt; clear hc hg hx))
  rename_i hHeld
  clear hHeld
  have R9 : Hid (Blk ((((((((((((w4.setCell ⟨w.heap.size, 0, Option.none⟩ (.int .i64 S.w.size)).setCell ⟨w.heap.size, 1, Option.none⟩ (.float .f32 S.w.step)).setCell ⟨w.heap.size, 2, Option.none⟩ (.float .f32 S.w.lit.r)).setCell ⟨w.heap.size, 3, Option.none⟩ (.float .f32 S.w.lit.g)).setCell ⟨w.heap.size, 4, Option.none⟩ (.float .f32 S.w.lit.b)).setCell ⟨w.heap.size, 5, Option.none⟩ (.slice a2 S.bds.length ca2)).setCell ⟨w.heap.size, 6, Option.none⟩ (.int .i64 S.w.kind)).setCell ⟨w.heap.size, 7, Option.none⟩ (.complex .f32 S.w.g1 S.w.g2)).setCell ⟨w.heap.size, 8, Option.none⟩ (.float .f32 0)).setCell ⟨w.heap.size, 9, Option.none⟩ (.slice b2 S.bds.length cb2)).setCell ⟨w.heap.size, 10, Option.none⟩ (.int .i64 S.w.ticks)).setCell ⟨w.heap.size, 11, Option.none⟩ (.slice l2 S.log.length cl2)) w.heap.size #[.int .i64 S.w.size, .float .f32 S.w.step, .float .f32 S.w.lit.r, .float .f32 S.w.lit.g, .float .f32 S.w.lit.b, .slice a2 S.bds.length ca2, .int .i64 S.w.kind, .complex .f32 S.w.g1 S.w.g2, .float .f32 0, .slice b2 S.bds.length cb2, .int .i64 S.w.ticks, .slice l2 S.log.length cl2] 34) := put_z hR4
  have E9 : Hid (Blk ((((((((((((w4.setCell ⟨w.heap.size, 0, Option.none⟩ (.int .i64 S.w.size)).setCell ⟨w.heap.size, 1, Option.none⟩ (.float .f32 S.w.step)).setCell ⟨w.heap.size, 2, Option.none⟩ (.float .f32 S.w.lit.r)).setCell ⟨w.heap.size, 3, Option.none⟩ (.float .f32 S.w.lit.g)).setCell ⟨w.heap.size, 4, Option.none⟩ (.float .f32 S.w.lit.b)).setCell ⟨w.heap.size, 5, Option.none⟩ (.slice a2 S.bds.length ca2)).setCell ⟨w.heap.size, 6, Option.none⟩ (.int .i64 S.w.kind)).setCell ⟨w.heap.size, 7, Option.none⟩ (.complex .f32 S.w.g1 S.w.g2)).setCell ⟨w.heap.size, 8, Option.none⟩ (.float .f32 0)).setCell ⟨w.heap.size, 9, Option.none⟩ (.slice b2 S.bds.length cb2)).setCell ⟨w.heap.size, 10, Option.none⟩ (.int .i64 S.w.ticks)).setCell ⟨w.heap.size, 11, Option.none⟩ (.slice l2 S.log.length cl2)) (w.heap.size + 1) #[.int .i64 0, .int .i64 0, .complex .f32 0 0, .complex .f32 0 0, .complex .f32 0 0, .complex .f32 0 0, .float .f32 0, .float .f32 0, .float .f32 0, .float .f32 0, .float .f32 0, .float .f32 0, .float .f32 0] 38) := hE4.grown grown12 (by omega)
  have I9 : Hid (ShoIn ((((((((((((w4.setCell ⟨w.heap.size, 0, Option.none⟩ (.int .i64 S.w.size)).setCell ⟨w.heap.size, 1, Option.none⟩ (.float .f32 S.w.step)).setCell ⟨w.heap.size, 2, Option.none⟩ (.float .f32 S.w.lit.r)).setCell ⟨w.heap.size, 3, Option.none⟩ (.float .f32 S.w.lit.g)).setCell ⟨w.heap.size, 4, Option.none⟩ (.float .f32 S.w.lit.b)).setCell ⟨w.heap.size, 5, Option.none⟩ (.slice a2 S.bds.length ca2)).setCell ⟨w.heap.size, 6, Option.none⟩ (.int .i64 S.w.kind)).setCell ⟨w.heap.size, 7, Option.none⟩ (.complex .f32 S.w.g1 S.w.g2)).setCell ⟨w.heap.size, 8, Option.none⟩ (.float .f32 0)).setCell ⟨w.heap.size, 9, Option.none⟩ (.slice b2 S.bds.length cb2)).setCell ⟨w.heap.size, 10, Option.none⟩ (.int .i64 S.w.ticks)).setCell ⟨w.heap.size, 11, Option.none⟩ (.slice l2 S.log.length cl2)) S.w a2 b2 l2) := I4.out.grownAt grown12 (hR4.cell 1)
  have B9 : Hid (Below w.heap.size w ((((((((((((w4.setCell ⟨w.heap.size, 0, Option.none⟩ (.int .i64 S.w.size)).setCell ⟨w.heap.size, 1, Option.none⟩ (.float .f32 S.w.step)).setCell ⟨w.heap.size, 2, Option.none⟩ (.float .f32 S.w.lit.r)).setCell ⟨w.heap.size, 3, Option.none⟩ (.float .f32 S.w.lit.g)).setCell ⟨w.heap.size, 4, Option.none⟩ (.float .f32 S.w.lit.b)).setCell ⟨w.heap.size, 5, Option.none⟩ (.slice a2 S.bds.length ca2)).setCell ⟨w.heap.size, 6, Option.none⟩ (.int .i64 S.w.kind)).setCell ⟨w.heap.size, 7, Option.none⟩ (.complex .f32 S.w.g1 S.w.g2)).setCell ⟨w.heap.size, 8, Option.none⟩ (.float .f32 0)).setCell ⟨w.heap.size, 9, Option.none⟩ (.slice b2 S.bds.length cb2)).setCell ⟨w.heap.size, 10, Option.none⟩ (.int .i64 S.w.ticks)).setCell ⟨w.heap.size, 11, Option.none⟩ (.slice l2 S.log.length cl2))) := below12 (B1.out.trans (below_of_grown G4.out (by omega) B1.out.size)) (Nat.le_refl _)
  clear hP4 hR4 hE4 I4 G4 y0 y1 y2 y3 y4 y5 y6 y7 y8 y9 y10 y11 yl u0 u1 u2 u3 u4 u5 u6 u7 u8 u9 u10 u11 z0 z1 z2 z3 z4 z5 z6 z7 z8 z9 z10 z11 ul v0 v1 v2 v3 v4 v5 v6 v7 v8 v9 v10 v11 v12 f0 f1 f2 f3 f4 f5 f6 f7 f8 f9 f10 f11 f12 vl p0 p1 p2 p3 p4 p5 p6 p7 p8 p9 p10 p11
  go_wp2_with fail
  generalize ((((((((((((w4.setCell ⟨w.heap.size, 0, Option.none⟩ (.int .i64 S.w.size)).setCell ⟨w.heap.size, 1, Option.none⟩ (.float .f32 S.w.step)).setCell ⟨w.heap.size, 2, Option.none⟩ (.float .f32 S.w.lit.r)).setCell ⟨w.heap.size, 3, Option.none⟩ (.float .f32 S.w.lit.g)).setCell ⟨w.heap.size, 4, Option.none⟩ (.float .f32 S.w.lit.b)).setCell ⟨w.heap.size, 5, Option.none⟩ (.slice a2 S.bds.length ca2)).setCell ⟨w.heap.size, 6, Option.none⟩ (.int .i64 S.w.kind)).setCell ⟨w.heap.size, 7, Option.none⟩ (.complex .f32 S.w.g1 S.w.g2)).setCell ⟨w.heap.size, 8, Option.none⟩ (.float .f32 0)).setCell ⟨w.heap.size, 9, Option.none⟩ (.slice b2 S.bds.length cb2)).setCell ⟨w.heap.size, 10, Option.none⟩ (.int .i64 S.w.ticks)).setCell ⟨w.heap.size, 11, Option.none⟩ (.slice l2 S.log.length cl2)) = Z at *
  have RF : Hid (Blk (((((((((((((Z.setCell ⟨(w.heap.size + 1), 0, Option.none⟩ (.int .i64 x.w.kind)).setCell ⟨(w.heap.size + 1), 1, Option.none⟩ (.int .i64 x.w.n)).setCell ⟨(w.heap.size + 1), 2, Option.none⟩ (.complex .f32 x.w.z1 x.w.z2)).setCell ⟨(w.heap.size + 1), 3, Option.none⟩ (.complex .f32 x.w.s.a1 x.w.s.a2)).setCell ⟨(w.heap.size + 1), 4, Option.none⟩ (.complex .f32 x.w.s.b1 x.w.s.b2)).setCell ⟨(w.heap.size + 1), 5, Option.none⟩ (.complex .f32 x.w.s.c1 x.w.s.c2)).setCell ⟨(w.heap.size + 1), 6, Option.none⟩ (.float .f32 x.w.s.r)).setCell ⟨(w.heap.size + 1), 7, Option.none⟩ (.float .f32 x.w.s.g)).setCell ⟨(w.heap.size + 1), 8, Option.none⟩ (.float .f32 x.w.s.b)).setCell ⟨(w.heap.size + 1), 9, Option.none⟩ (.float .f32 x.w.s.k)).setCell ⟨(w.heap.size + 1), 10, Option.none⟩ (.float .f32 x.w.l.r)).setCell ⟨(w.heap.size + 1), 11, Option.none⟩ (.float .f32 x.w.l.g)).setCell ⟨(w.heap.size + 1), 12, Option.none⟩ (.float .f32 x.w.l.b)) w.heap.size #[.int .i64 S.w.size, .float .f32 S.w.step, .float .f32 S.w.lit.r, .float .f32 S.w.lit.g, .float .f32 S.w.lit.b, .slice a2 S.bds.length ca2, .int .i64 S.w.kind, .complex .f32 S.w.g1 S.w.g2, .float .f32 0, .slice b2 S.bds.length cb2, .int .i64 S.w.ticks, .slice l2 S.log.length cl2] 34) := R9.out.grown grown13 (by omega)
  have EF : Hid (Blk (((((((((((((Z.setCell ⟨(w.heap.size + 1), 0, Option.none⟩ (.int .i64 x.w.kind)).setCell ⟨(w.heap.size + 1), 1, Option.none⟩ (.int .i64 x.w.n)).setCell ⟨(w.heap.size + 1), 2, Option.none⟩ (.complex .f32 x.w.z1 x.w.z2)).setCell ⟨(w.heap.size + 1), 3, Option.none⟩ (.complex .f32 x.w.s.a1 x.w.s.a2)).setCell ⟨(w.heap.size + 1), 4, Option.none⟩ (.complex .f32 x.w.s.b1 x.w.s.b2)).setCell ⟨(w.heap.size + 1), 5, Option.none⟩ (.complex .f32 x.w.s.c1 x.w.s.c2)).setCell ⟨(w.heap.size + 1), 6, Option.none⟩ (.float .f32 x.w.s.r)).setCell ⟨(w.heap.size + 1), 7, Option.none⟩ (.float .f32 x.w.s.g)).setCell ⟨(w.heap.size + 1), 8, Option.none⟩ (.float .f32 x.w.s.b)).setCell ⟨(w.heap.size + 1), 9, Option.none⟩ (.float .f32 x.w.s.k)).setCell ⟨(w.heap.size + 1), 10, Option.none⟩ (.float .f32 x.w.l.r)).setCell ⟨(w.heap.size + 1), 11, Option.none⟩ (.float .f32 x.w.l.g)).setCell ⟨(w.heap.size + 1), 12, Option.none⟩ (.float .f32 x.w.l.b)) (w.heap.size + 1) #[.int .i64 x.w.kind, .int .i64 x.w.n, .complex .f32 x.w.z1 x.w.z2, .complex .f32 x.w.s.a1 x.w.s.a2, .complex .f32 x.w.s.b1 x.w.s.b2, .complex .f32 x.w.s.c1 x.w.s.c2, .float .f32 x.w.s.r, .float .f32 x.w.s.g, .float .f32 x.w.s.b, .float .f32 x.w.s.k, .float .f32 x.w.l.r, .float .f32 x.w.l.g, .float .f32 x.w.l.b] 38) := put13 E9.out
  have IF : Hid (ShoIn (((((((((((((Z.setCell ⟨(w.heap.size + 1), 0, Option.none⟩ (.int .i64 x.w.kind)).setCell ⟨(w.heap.size + 1), 1, Option.none⟩ (.int .i64 x.w.n)).setCell ⟨(w.heap.size + 1), 2, Option.none⟩ (.complex .f32 x.w.z1 x.w.z2)).setCell ⟨(w.heap.size + 1), 3, Option.none⟩ (.complex .f32 x.w.s.a1 x.w.s.a2)).setCell ⟨(w.heap.size + 1), 4, Option.none⟩ (.complex .f32 x.w.s.b1 x.w.s.b2)).setCell ⟨(w.heap.size + 1), 5, Option.none⟩ (.complex .f32 x.w.s.c1 x.w.s.c2)).setCell ⟨(w.heap.size + 1), 6, Option.none⟩ (.float .f32 x.w.s.r)).setCell ⟨(w.heap.size + 1), 7, Option.none⟩ (.float .f32 x.w.s.g)).setCell ⟨(w.heap.size + 1), 8, Option.none⟩ (.float .f32 x.w.s.b)).setCell ⟨(w.heap.size + 1), 9, Option.none⟩ (.float .f32 x.w.s.k)).setCell ⟨(w.heap.size + 1), 10, Option.none⟩ (.float .f32 x.w.l.r)).setCell ⟨(w.heap.size + 1), 11, Option.none⟩ (.float .f32 x.w.l.g)).setCell ⟨(w.heap.size + 1), 12, Option.none⟩ (.float .f32 x.w.l.b)) S.w a2 b2 l2) := ShoIn.grownEv I9.out grown13 (E9.out.cell 0)
  have BF : Hid (Below w.heap.size w (((((((((((((Z.setCell ⟨(w.heap.size + 1), 0, Option.none⟩ (.int .i64 x.w.kind)).setCell ⟨(w.heap.size + 1), 1, Option.none⟩ (.int .i64 x.w.n)).setCell ⟨(w.heap.size + 1), 2, Option.none⟩ (.complex .f32 x.w.z1 x.w.z2)).setCell ⟨(w.heap.size + 1), 3, Option.none⟩ (.complex .f32 x.w.s.a1 x.w.s.a2)).setCell ⟨(w.heap.size + 1), 4, Option.none⟩ (.complex .f32 x.w.s.b1 x.w.s.b2)).setCell ⟨(w.heap.size + 1), 5, Option.none⟩ (.complex .f32 x.w.s.c1 x.w.s.c2)).setCell ⟨(w.heap.size + 1), 6, Option.none⟩ (.float .f32 x.w.s.r)).setCell ⟨(w.heap.size + 1), 7, Option.none⟩ (.float .f32 x.w.s.g)).setCell ⟨(w.heap.size + 1), 8, Option.none⟩ (.float .f32 x.w.s.b)).setCell ⟨(w.heap.size + 1), 9, Option.none⟩ (.float .f32 x.w.s.k)).setCell ⟨(w.heap.size + 1), 10, Option.none⟩ (.float .f32 x.w.l.r)).setCell ⟨(w.heap.size + 1), 11, Option.none⟩ (.float .f32 x.w.l.g)).setCell ⟨(w.heap.size + 1), 12, Option.none⟩ (.float .f32 x.w.l.b))) := by
    show Below w.heap.size w _
    iterate 13 (refine Below.setCell ?_ (by dsimp only; omega) _)
    exact B9.out
  (obtain ⟨e0, e1, e2, e3, e4, e5, e6, e7, e8, e9, e10, e11⟩ := blk12 (RF.out))
  (obtain ⟨g0, g1, g2, g3, g4, g5, g6, g7, g8, g9, g10, g11, g12⟩ := blk13 (EF.out))
  refine bodyPost_ret (v := .tuple #[.agg #[.int .i64 S.w.size, .float .f32 S.w.step, .float .f32 S.w.lit.r, .float .f32 S.w.lit.g, .float .f32 S.w.lit.b, .slice a2 S.bds.length ca2, .int .i64 S.w.kind, .complex .f32 S.w.g1 S.w.g2, .float .f32 0, .slice b2 S.bds.length cb2, .int .i64 S.w.ticks, .slice l2 S.log.length cl2], .agg #[.int .i64 x.w.kind, .int .i64 x.w.n, .complex .f32 x.w.z1 x.w.z2, .complex .f32 x.w.s.a1 x.w.s.a2, .complex .f32 x.w.s.b1 x.w.s.b2, .complex .f32 x.w.s.c1 x.w.s.c2, .float .f32 x.w.s.r, .float .f32 x.w.s.g, .float .f32 x.w.s.b, .float .f32 x.w.s.k, .float .f32 x.w.l.r, .float .f32 x.w.l.g, .float .f32 x.w.l.b]]) (by simp [results, Tryz.results5, go_sem, e0, e1, e2, e3, e4, e5, e6, e7, e8, e9, e10, e11, g0, g1, g2, g3, g4, g5, g6, g7, g8, g9, g10, g11, g12]) rfl ⟨S, x, a2, b2, l2, ca2, cb2, cl2, ⟨rfl, HT.out, HX.out, HL.out, HC.out, IF.out, BF.out, HCP.out, HPO.out⟩⟩
end Go.Proofs.YtfdgijmmgllmgaaGreatDoor
