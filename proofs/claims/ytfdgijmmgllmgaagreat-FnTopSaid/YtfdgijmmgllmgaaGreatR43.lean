/-
  Texts Qi Wq Qj Qk Join PlainYes Ccp Oa, joined.
-/
import Derived.Test.YtfdgijmmgllmgaaGreatR40
import Derived.Test.YtfdgijmmgllmgaaGreatR42
import Derived.Test.YtfdgijmmgllmgaaGreatR35
import Derived.Test.YtfdgijmmgllmgaaGreatR01
import Derived.Test.YtfdgijmmgllmgaaGreatR05
import Derived.Sort.Grow
namespace Go.Proofs.YtfdgijmmgllmgaaGreat
open Go.ChangeShapes Go.WideShapes Go.ChangeAt Go.RowKit Go.Joins
set_option linter.unusedSimpArgs false
set_option linter.unusedVariables false
set_option maxRecDepth 100000
attribute [local go_sem] store_f
open Ieee Go.Lib
attribute [local go_sem] store_c
theorem joinA_of {a1 a2 b1 b2 x y : Nat} (X : Op2 90 a1 b1 x) (Y : Op2 90 a2 b2 y) : Join 90 a1 a2 b1 b2 x y := ⟨fun w => by
  go_enter Tryz.func118, Tryz.ntmps118
  go_wp2_with (go_at_call 90; (first | (with_reducible refine (X.call _).mono ?_) | (with_reducible refine (Y.call _).mono ?_)); rintro e w1 ⟨rfl, rfl⟩)
  go_ret
  exact ⟨rfl, rfl⟩⟩
theorem movesTo {s : Shd} {z1 z2 : Nat} (hs : s.Ok) (h1 : Rch z1) (h2 : Rch z2) :
    MovesTo s z1 z2 (s.put (clT (valOf F32 s.a1 + valOf F32 z1)) (clT (valOf F32 s.a2 + valOf F32 z2)) (clT (valOf F32 s.b1 + valOf F32 z1)) (clT (valOf F32 s.b2 + valOf F32 z2)) (clT (valOf F32 s.c1 + valOf F32 z1)) (clT (valOf F32 s.c2 + valOf F32 z2))) := ⟨fun q W hc =>
  with_move (clo_move (joinA_of (sum2 hs.a1.fin h1.fin) (sum2 hs.a2.fin h2.fin)) hc) (clo_move (joinA_of (sum2 hs.b1.fin h1.fin) (sum2 hs.b2.fin h2.fin)) hc) (clo_move (joinA_of (sum2 hs.c1.fin h1.fin) (sum2 hs.c2.fin h2.fin)) hc)⟩
theorem put_ok {s : Shd} (hs : s.Ok) {x1 x2 y1 y2 z1 z2 : Nat} (l1 : x1 < 4294967296) (l2 : x2 < 4294967296) (l3 : y1 < 4294967296) (l4 : y2 < 4294967296) (l5 : z1 < 4294967296) (l6 : z2 < 4294967296) (h : shardB (s.put x1 x2 y1 y2 z1 z2) = true) : (s.put x1 x2 y1 y2 z1 z2).Ok := by
  unfold shardB ptB at h
  simp only [Bool.and_eq_true] at h
  obtain ⟨⟨⟨⟨⟨a1, a2⟩, b1, b2⟩, c1, c2⟩, _⟩, _⟩ := h
  exact ⟨⟨l1, a1⟩, ⟨l2, a2⟩, ⟨l3, b1⟩, ⟨l4, b2⟩, ⟨l5, c1⟩, ⟨l6, c2⟩, hs.r, hs.g, hs.b, hs.k⟩
structure MoveOk (s : Shd) (z1 z2 : Nat) (t : Shd) (p : Bool) : Prop where
  is : MoveIs s z1 z2 t p
  ok : p = true → t.Ok
theorem move_put {s : Shd} {z1 z2 x1 x2 y1 y2 u1 u2 : Nat} (hs : s.Ok) (h1 : Rch z1) (h2 : Rch z2) (l1 : x1 < 4294967296) (l2 : x2 < 4294967296) (l3 : y1 < 4294967296) (l4 : y2 < 4294967296) (l5 : u1 < 4294967296) (l6 : u2 < 4294967296) (M : MovesTo s z1 z2 (s.put x1 x2 y1 y2 u1 u2)) : ∃ t p, MoveOk s z1 z2 t p := by
  cases hp : shardB (s.put x1 x2 y1 y2 u1 u2)
  · exact ⟨s, false, move_no (shdYesM hs.yes) (ptYes h1.inb h2.inb) M (shdNoM hp), fun h => (nomatch h)⟩
  · exact ⟨_, true, move_yes (shdYesM hs.yes) (ptYes h1.inb h2.inb) M (shdYesM hp), fun _ => put_ok hs l1 l2 l3 l4 l5 l6 hp⟩
theorem moveOk {s : Shd} {z1 z2 : Nat} (hs : s.Ok) (h1 : Rch z1) (h2 : Rch z2) : ∃ t p, MoveOk s z1 z2 t p :=
  move_put hs h1 h2 (clT_cl _).lt (clT_cl _).lt (clT_cl _).lt (clT_cl _).lt (clT_cl _).lt (clT_cl _).lt (movesTo hs h1 h2)
structure SeenM (s : Sho) (N M K n : Nat) (m : List Lit) : Prop where
  call : ∀ (w : World) (a b l : Option Addr) (ca cb cl : Nat), ShoIn w s a b l → Calls Tryz.prog 17 #[.agg #[.int .i64 s.size, .float .f32 s.step, .float .f32 s.lit.r, .float .f32 s.lit.g, .float .f32 s.lit.b, .slice a N ca, .int .i64 s.kind, .complex .f32 s.g1 s.g2, .float .f32 0, .slice b M cb, .int .i64 s.ticks, .slice l K cl]] w fun r w' => ∃ g cp, (r = .returned (.tuple #[.agg #[.int .i64 n, .slice (some ⟨g, 0, Option.none⟩) m.length cp], .bool true]) ∧ LitRow w' g 0 m) ∧ Below w.heap.size w w'
set_option maxHeartbeats 32000000 in
theorem seenM {s : Sho} {N M K n : Nat} {L : List Shd} {m : List Lit} (S : ShIs 10 s N M K true) (MV : MovedM s N M K L) (TK : ∀ g lc, TakeM s.kind g lc L n s.step s.lit m) (hn : s.size = n) : SeenM s N M K n m := ⟨fun w a b l ca cb cl hr => by
  have HR := Lib.hid hr
  have HTK : Hid (∀ (w : World) (g lc : Nat), ShRow w g 0 L → g < w.heap.size → Calls Tryz.prog 41 #[.int .i64 s.kind, .slice (some ⟨g, 0, Option.none⟩) L.length lc, .int .i64 s.size, .float .f32 s.step, .agg #[.float .f32 s.lit.r, .float .f32 s.lit.g, .float .f32 s.lit.b]] w fun e w' => (∃ g cp, PicMade2 w.heap.size e w' n m g cp) ∧ Below w.heap.size w w') := fun w g lc h1 h2 => by rw [hn]; exact (TK g lc).call w h1 h2
  have HN := Lib.hid hn
  clear hr TK hn
  go_enter Tryz.func17, Tryz.ntmps17
  go_wp2_with fail
  generalize hX : (w.alloc (.cells #[.int .i64 s.size, .float .f32 s.step, .float .f32 s.lit.r, .float .f32 s.lit.g, .float .f32 s.lit.b, .slice a N ca, .int .i64 s.kind, .complex .f32 s.g1 s.g2, .float .f32 0, .slice b M cb, .int .i64 s.ticks, .slice l K cl] 34)).alloc (.cells #[.int .i64 0, .slice Option.none 0 0] 52) = X
  have M0 : Hid (Blk X w.heap.size #[.int .i64 s.size, .float .f32 s.step, .float .f32 s.lit.r, .float .f32 s.lit.g, .float .f32 s.lit.b, .slice a N ca, .int .i64 s.kind, .complex .f32 s.g1 s.g2, .float .f32 0, .slice b M cb, .int .i64 s.ticks, .slice l K cl] 34) := by rw [← hX]; exact (Blk.new _ _ _).alloc
  have P0 : Hid (Blk X (w.heap.size + 1) #[.int .i64 0, .slice Option.none 0 0] 52) := by rw [← hX]; exact Blk.newAt (by simp)
  have I0 : Hid (ShoIn X s a b l) := by rw [← hX]; exact HR.out.alloc.alloc
  have G0 : Hid (Below w.heap.size w X) := by rw [← hX]; show Below w.heap.size w _; (repeat' (first | (with_reducible exact Below.refl _ _) | (with_reducible assumption) | (with_reducible refine Below.alloc ?_ ?_ _) | (with_reducible refine Below.drew ?_) | (with_reducible refine Below.setCell ?_ ?_ _) | (with_reducible refine Below.trans ?_ (Below.mono (by assumption) ?_)) | (with_reducible exact Nat.le_refl _) | omega | (simp only [World.size_alloc, World.size_setCell, World.size_drew]; omega) | (simp; omega) | (simp; done)))
  clear hX
  refine (S.call _ _ _ _ _ _ _ I0.out).mono ?_
  rintro r w1 ⟨rfl, hb⟩
  have M1 := Lib.hid (M0.out.below hb)
  have P1 := Lib.hid (P0.out.below hb)
  have I1 := Lib.hid (I0.out.below hb)
  have G1 : Hid (Below w.heap.size w w1) := G0.out.trans (hb.mono G0.out.size)
  clear hb M0 P0 I0 G0 S
  go_upto_region 3 with fail
  (obtain ⟨p0, p1, p2, p3, p4, p5, p6, p7, p8, p9, p10, p11⟩ := blk12 (M1.out))
  have lm := M1.out.lt
  have lp := P1.out.lt
  have hBX : Below w.heap.size w w1 := G1.out
  have hzX := Nat.le_refl w1.heap.size
  have hzw := G1.out.size
  go_region_held3 (fun wx => Below w.heap.size w wx ∧ w1.heap.size ≤ wx.heap.size ∧ w.heap.size < wx.heap.size ∧ w.heap.size + 1 < wx.heap.size ∧ wx.cell? ⟨w.heap.size, 0, Option.none⟩ = some (.int .i64 s.size) ∧ wx.cell? ⟨w.heap.size, 1, Option.none⟩ = some (.float .f32 s.step) ∧ wx.cell? ⟨w.heap.size, 2, Option.none⟩ = some (.float .f32 s.lit.r) ∧ wx.cell? ⟨w.heap.size, 3, Option.none⟩ = some (.float .f32 s.lit.g) ∧ wx.cell? ⟨w.heap.size, 4, Option.none⟩ = some (.float .f32 s.lit.b) ∧ wx.cell? ⟨w.heap.size, 5, Option.none⟩ = some (.slice a N ca) ∧ wx.cell? ⟨w.heap.size, 6, Option.none⟩ = some (.int .i64 s.kind) ∧ wx.cell? ⟨w.heap.size, 7, Option.none⟩ = some (.complex .f32 s.g1 s.g2) ∧ wx.cell? ⟨w.heap.size, 8, Option.none⟩ = some (.float .f32 0) ∧ wx.cell? ⟨w.heap.size, 9, Option.none⟩ = some (.slice b M cb) ∧ wx.cell? ⟨w.heap.size, 10, Option.none⟩ = some (.int .i64 s.ticks) ∧ wx.cell? ⟨w.heap.size, 11, Option.none⟩ = some (.slice l K cl))
    (((repeat' apply And.intro) <;> first | (with_reducible assumption) | (((repeat (first | (with_reducible assumption) | (with_reducible exact cNewAt (by first | rfl | (simp only [World.size_alloc, World.size_setCell, World.size_drew]; done) | omega) rfl) | (with_reducible exact sNewAt (by first | rfl | (simp only [World.size_alloc, World.size_setCell, World.size_drew]; done) | omega) rfl) | (simp; done) | (with_reducible apply cAlloc) | (with_reducible apply cDrew) | (with_reducible refine cSet (by dsimp only; omega) ?_) | (with_reducible refine cSetOff (by dsimp only; omega) ?_) | (with_reducible apply cSame) | (with_reducible refine cBelow (by assumption) ?_) | (with_reducible apply sAlloc) | (with_reducible apply sDrew) | (with_reducible refine sBelow (by assumption) ?_) | (with_reducible refine sSet (by dsimp only; omega) ?_))); first | done | (simp [*]; done)); done) | (simp only [World.size_alloc, World.size_setCell, World.size_drew]; omega) | omega | (go_keep; done) | ((repeat' (first | (with_reducible exact Below.refl _ _) | (with_reducible assumption) | (with_reducible refine Below.alloc ?_ ?_ _) | (with_reducible refine Below.drew ?_) | (with_reducible refine Below.setCell ?_ ?_ _) | (with_reducible refine Below.trans ?_ (Below.mono (by assumption) ?_)) | (with_reducible exact Nat.le_refl _) | omega | (simp only [World.size_alloc, World.size_setCell, World.size_drew]; omega) | (simp; omega) | (simp; done))); done)))
    (first | (go_at_call 42; (with_reducible refine (MV.call _ _ _ _ _ _ _ ?_).mono ?_); (next => exact ShoIn.below HR.out (And.left (by assumption))); rintro r w4 ⟨gm, cm, ⟨rfl, hrow, hgm⟩, hb⟩; have hbs := hb.size; (try simp only [World.size_alloc, World.size_drew] at hbs); have HROW := Lib.hid hrow; have HB4 : Hid (Below w1.heap.size w1 w4) := ((Below.refl _ _).drew).trans hb; clear hrow) | (go_at_call 41; (with_reducible refine (HTK.out _ _ _ HROW.out hgm).mono ?_); rintro r w5 ⟨⟨g5, c5, ⟨rfl, hown⟩⟩, hb⟩; have hbs5 := hb.size; have hb5 : Below w1.heap.size w1 w5 := HB4.out.trans (hb.mono (by omega)); have HB5 := Lib.hid hb5; have hbw : Below w.heap.size w w5 := G1.out.trans (hb5.mono (by omega)); have HL5 : Hid (LitRow w5 g5 0 m) := litRow_of hown rfl; have hne : w.heap.size + 1 ≠ g5 := (by have h1 : w4.heap.size ≤ g5 := (hown.lt _ rfl).1; omega); have hM5 := M1.out.below hb5; (obtain ⟨u0, u1, u2, u3, u4, u5, u6, u7, u8, u9, u10, u11⟩ := blk12 (hM5)); clear hM5; have hP5 := P1.out.below hb5; have y0 := Blk.cellAt (i := 0) hP5 rfl; have y1 := Blk.cellAt (i := 1) hP5 rfl; simp only [List.getElem_toArray, List.getElem_cons_zero, List.getElem_cons_succ] at y0 y1; have z0 := hP5.free 0; have z1 := hP5.free 1; have zl := hP5.lt; clear hown))
  rename_i hHeld
  clear hHeld
  have hP6 := Lib.hid hP5
  clear hP5
  go_wp2_with fail
  have RS := (hP6.out.set (i := 0) (v := .int .i64 n)).set (i := 1) (v := .slice (some ⟨g5, 0, Option.none⟩) m.length c5)
  simp only [List.setIfInBounds_toArray, List.set_cons_zero, List.set_cons_succ] at RS
  have e0 := RS.cell 0
  have e1 := RS.cell 1
  simp only [List.getElem?_toArray, List.getElem?_cons_zero, List.getElem?_cons_succ] at e0 e1
  have B5 : Below w.heap.size w w5 := G1.out.trans (HB5.out.mono G1.out.size)
  refine bodyPost_ret (v := .tuple #[.agg #[.int .i64 n, .slice (some ⟨g5, 0, Option.none⟩) m.length c5], .bool true]) (by simp [results, Tryz.results17, go_sem, e0, e1]) rfl ⟨g5, c5, ⟨rfl, (HL5.out.set (by dsimp only; omega)).set (by dsimp only; omega)⟩, (B5.setCell (by dsimp only; omega) _).setCell (by dsimp only; omega) _⟩⟩
structure Pic (kind : Int) (n : Nat) (m : List Lit) : Prop where
  len : m.length = n * n
  oks : Oks m
  pic : picB n m = true
  spr : spreadCols kind n m = m
  sym : ∀ s ∈ symsTo kind 8, s ∈ picSyms n m
theorem Good.seen {S : Shw} (G : Good S) : ∃ m, Pic S.kind S.size m ∧ ∀ T : Shw, Good T → T.size = S.size → T.step = S.step → T.lit = S.lit → T.shs = S.shs → T.kind = S.kind → T.bds = S.bds → SeenM T.w T.bds.length T.bds.length T.log.length S.size m := by
  have FN := G.fine
  have k3 := FN.kin
  obtain ⟨i, hi, hst⟩ := FN.st
  have h0 : (0 : Int) ≤ (S.kind : Int) := by omega
  have h3 : (S.kind : Int) ≤ 3 := by omega
  have h1 := FN.s1
  have h8 : S.size ≤ 8 := by have := FN.s5; omega
  have HX : ∀ j : Nat, ∃ tp : Shd × Bool, j < S.bds.length → MoveOk (S.shs.getD j default) (S.bds.getD j default).1.1.1 (S.bds.getD j default).1.1.2 tp.1 tp.2 := fun j => by
    by_cases hj : j < S.bds.length
    · obtain ⟨t, p, h⟩ := moveOk ((FN.shs _ (getD_mem (by rw [FN.len]; exact hj))).ok) (ok_rch (S.bds.getD j default).1.2.1.ok) (ok_rch (S.bds.getD j default).1.2.2.ok)
      exact ⟨(t, p), fun _ => h⟩
    · exact ⟨default, fun h => absurd h hj⟩
  obtain ⟨F, HF⟩ := Classical.axiomOfChoice HX
  have hok := movL_ok (F := F) (n := S.bds.length) (fun j hj hp => (HF j hj).ok hp) S.bds.length (Nat.le_refl _)
  have hle := movL_len F S.bds.length
  have few := FN.few
  have hml := take_len h0 h3 hi h1 h8 (movL F S.bds.length) S.lit
  have hmo := take_oks h0 h3 hi h1 h8 (movL F S.bds.length) S.lit hok FN.lit
  refine ⟨takeCols h0 h3 hi h1 h8 (movL F S.bds.length) S.lit, ⟨hml, hmo, picB_ok h1 h8 hml hmo, take_spread h0 h3 hi h1 h8 _ _, fun x hx => take_syms h0 h3 hi h1 h8 _ _ hok FN.lit hx (syms_all h0 h3 x hx)⟩, fun T GT e1 e2 e3 e4 e5 e6 => ?_⟩
  have hN : T.w.shs.length = T.bds.length := GT.fine.len
  have hM : T.w.bds.length = T.bds.length := by simp [Shw.w]
  have MV := movedM (s := T.w) (K := T.log.length) (F := F) hN hM rfl GT.fine.few fun j hj => by
    have h := (HF j (by rw [← e6]; exact hj)).is
    show MoveIs (T.shs.getD j default) ((T.bds.map wd).getD j default).a1 ((T.bds.map wd).getD j default).a2 _ _
    rw [getD_map wd _ hj, e4, e6]
    exact h
  refine seenM GT.is MV (fun g lc => ?_) (by show (T.size : Int) = _; rw [e1])
  show TakeM (T.kind : Int) g lc (movL F T.bds.length) S.size T.step T.lit _
  rw [e5, e6, e2, e3, hst]
  exact takes h0 h3 hi h1 h8 (by omega) hok FN.lit
end Go.Proofs.YtfdgijmmgllmgaaGreat
namespace Go.Proofs.YtfdgijmmgllmgaaGreat
open Go.ChangeShapes Go.WideShapes Go.ChangeAt Go.RowKit Go.Joins
set_option linter.unusedSimpArgs false
set_option linter.unusedVariables false
set_option maxRecDepth 100000
attribute [local go_sem] store_f
open Ieee Go.Lib
attribute [local go_sem] store_c
set_option maxHeartbeats 64000000 in
theorem runSS {X : Nat → Sho} {N K : Nat → Nat} {l : List Evw} {n d : Nat} (C : CopyS 39 (X 0) (N 0) (N 0) (K 0)) (H : Chain 40 X N K l n d) : RunSM 16 (X 0) (N 0) (N 0) (K 0) l n (X d) (N d) (N d) (K d) d := ⟨fun w a b c q ca cb cc cq hr hq => by
  have HH := Lib.hid H
  have hle := H.le
  have hfew := H.few
  have HQ := Lib.hid hq
  have HR := Lib.hid hr
  clear hq hr H
  go_enter Tryz.func16, Tryz.ntmps16
  go_wp2_with fail
  generalize hX : (w.alloc (.cells #[.int .i64 (X 0).size, .float .f32 (X 0).step, .float .f32 (X 0).lit.r, .float .f32 (X 0).lit.g, .float .f32 (X 0).lit.b, .slice a (N 0) ca, .int .i64 (X 0).kind, .complex .f32 (X 0).g1 (X 0).g2, .float .f32 0, .slice b (N 0) cb, .int .i64 (X 0).ticks, .slice c (K 0) cc] 34)).alloc (.cells #[.int .i64 0, .float .f32 0, .float .f32 0, .float .f32 0, .float .f32 0, .slice Option.none 0 0, .int .i64 0, .complex .f32 0 0, .float .f32 0, .slice Option.none 0 0, .int .i64 0, .slice Option.none 0 0] 34) = Y
  have R0 : Hid (Blk Y (w.heap.size + 1) #[.int .i64 0, .float .f32 0, .float .f32 0, .float .f32 0, .float .f32 0, .slice Option.none 0 0, .int .i64 0, .complex .f32 0 0, .float .f32 0, .slice Option.none 0 0, .int .i64 0, .slice Option.none 0 0] 34) := by rw [← hX]; exact Blk.newAt (by simp)
  have I0 : Hid (ShoIn Y (X 0) a b c) := by rw [← hX]; exact HR.out.alloc.alloc
  have G0 : Hid (Below w.heap.size w Y) := by rw [← hX]; show Below w.heap.size w _; (repeat' (first | (with_reducible exact Below.refl _ _) | (with_reducible assumption) | (with_reducible refine Below.alloc ?_ ?_ _) | (with_reducible refine Below.drew ?_) | (with_reducible refine Below.setCell ?_ ?_ _) | (with_reducible refine Below.trans ?_ (Below.mono (by assumption) ?_)) | (with_reducible exact Nat.le_refl _) | omega | (simp only [World.size_alloc, World.size_setCell, World.size_drew]; omega) | (simp; omega) | (simp; done)))
  have sY : w.heap.size + 2 ≤ Y.heap.size := by rw [← hX]; simp
  clear hX
  refine (C.call _ _ _ _ _ _ _ I0.out).mono ?_
  rintro r w1 ⟨a1, b1, l1, ca1, cb1, cl1, ⟨rfl, hown, hb⟩⟩
  have ST : Hid (RunSt w w1.heap.size (X 0) (N 0) (K 0) (w1.alloc (.cells #[.int .i64 (X 0).size, .float .f32 (X 0).step, .float .f32 (X 0).lit.r, .float .f32 (X 0).lit.g, .float .f32 (X 0).lit.b, .slice a1 (N 0) ca1, .int .i64 (X 0).kind, .complex .f32 (X 0).g1 (X 0).g2, .float .f32 0, .slice b1 (N 0) cb1, .int .i64 (X 0).ticks, .slice l1 (K 0) cl1] 34))) :=
    ⟨⟨a1, b1, l1, ca1, cb1, cl1, Blk.new _ _ _, hown.in_.alloc⟩, (R0.out.below hb).alloc, (G0.out.trans (hb.mono (by omega))).alloc (by have := hb.size; omega) _⟩
  have s1 := hb.size
  clear hb hown R0 I0 G0 HR C
  go_wp2_with fail
  generalize w1.alloc (.cells #[.int .i64 (X 0).size, .float .f32 (X 0).step, .float .f32 (X 0).lit.r, .float .f32 (X 0).lit.g, .float .f32 (X 0).lit.b, .slice a1 (N 0) ca1, .int .i64 (X 0).kind, .complex .f32 (X 0).g1 (X 0).g2, .float .f32 0, .slice b1 (N 0) cb1, .int .i64 (X 0).ticks, .slice l1 (K 0) cl1] 34) = Z at *
  generalize w1.heap.size = P at *
  go_loopw [15] (fun i wr => ∃ j : Nat, j ≤ d ∧ i = .int .i64 j ∧ RunSt w P (X j) (N j) (K j) wr) (fun i _ => d + 1 - (intOf i).toNat)
  case atStart => exact ⟨0, by omega, rfl, ST.out⟩
  case round =>
    obtain ⟨j, hj, rfl, hst⟩ := hrel
    clear ST
    obtain ⟨⟨a3, b3, l3, ca3, cb3, cl3, hP, hI⟩, hres, hbel⟩ := hst
    have P3 := Lib.hid hP
    have I3 := Lib.hid hI
    have R3 := Lib.hid hres
    have G3 := Lib.hid hbel
    have lP := hP.lt
    have lR := hres.lt
    (obtain ⟨p0, p1, p2, p3, p4, p5, p6, p7, p8, p9, p10, p11⟩ := blk12 (hP))
    clear hP hI hres
    by_cases hlt : j < n
    · rcases HQ.out with hnil | ⟨g, o, rfl, hL⟩
      · exfalso; have := HH.out.len; rw [hnil] at this; simp at this; omega
      have EA := evAt (hL.below hbel) (k := j) (by have := HH.out.len; omega)
      have HY : j < d → DoM 40 (X j) (N j) (N j) (K j) (l.getD j default) (X (j + 1)) (N (j + 1)) (N (j + 1)) (K (j + 1)) true := HH.out.yes j
      have HN : j = d → DoM 40 (X j) (N j) (N j) (K j) (l.getD j default) (X j) (N j) (N j) (K j) false := by rintro rfl; exact HH.out.no hlt
      obtain ⟨e, he⟩ : ∃ e, l.getD j default = e := ⟨_, rfl⟩
      rw [he] at EA HY HN
      clear he
      obtain ⟨c0, c1, c2, c3, c4, c5, c6, c7, c8, c9, c10, c11, c12⟩ := EA
      clear hbel hL
      go_wp2_with fail
      by_cases hd : j < d
      · have D := HY hd
        clear HY HN
        refine (D.call _ _ _ _ _ _ _ I3.out.alloc).mono ?_
        rintro r w4 ⟨a4, b4, l4, ca4, cb4, cl4, ⟨rfl, hI4, hb⟩⟩
        have P4 := Lib.hid (P3.out.alloc.below hb)
        have R4 := Lib.hid (R3.out.alloc.below hb)
        have I4 := Lib.hid hI4
        have G4 : Hid (Below w.heap.size w w4) := (G3.out.alloc (by omega) _).trans (hb.mono (by simp; omega))
        have l4' : P < w4.heap.size := P4.out.lt
        clear hb hI4 P3 R3 I3 G3 D p0 p1 p2 p3 p4 p5 p6 p7 p8 p9 p10 p11 c0 c1 c2 c3 c4 c5 c6 c7 c8 c9 c10 c11 c12 HQ lP lR
        (obtain ⟨p0, p1, p2, p3, p4, p5, p6, p7, p8, p9, p10, p11⟩ := blk12 (P4.out))
        (have f0 := P4.out.free 0; have f1 := P4.out.free 1; have f2 := P4.out.free 2; have f3 := P4.out.free 3; have f4 := P4.out.free 4; have f5 := P4.out.free 5; have f6 := P4.out.free 6; have f7 := P4.out.free 7; have f8 := P4.out.free 8; have f9 := P4.out.free 9; have f10 := P4.out.free 10; have f11 := P4.out.free 11)
        go_wp2_with fail
        go_roundw
        case rel => exact ⟨j + 1, by omega, by go_num, ⟨a4, b4, l4, ca4, cb4, cl4, (put_sho P4.out).alloc, (I4.out.grownAt grown12 p1).alloc⟩, (R4.out.grown grown12 (by omega)).alloc, (below12 G4.out (by omega)).alloc (by have := G4.out.size; simp; omega) _⟩
        case measure => simp [intOf]; omega
      · have hjd : j = d := by omega
        have D := HN hjd
        clear HY HN
        subst hjd
        refine (D.call _ _ _ _ _ _ _ I3.out.alloc).mono ?_
        rintro r w4 ⟨a4, b4, l4, ca4, cb4, cl4, ⟨rfl, hI4, hb⟩⟩
        have P4 := Lib.hid (P3.out.alloc.below hb)
        have R4 := R3.out.alloc.below hb
        have I5 := Lib.hid (I3.out.alloc.below hb)
        have G4 : Hid (Below w.heap.size w w4) := (G3.out.alloc (by omega) _).trans (hb.mono (by simp; omega))
        have l4' : P < w4.heap.size := P4.out.lt
        clear hb hI4 P3 R3 I3 G3 D p0 p1 p2 p3 p4 p5 p6 p7 p8 p9 p10 p11 c0 c1 c2 c3 c4 c5 c6 c7 c8 c9 c10 c11 c12 HQ lP lR
        have PA := P4.out.alloc (o := .cells #[.int .i64 (X j).size, .float .f32 (X j).step, .float .f32 (X j).lit.r, .float .f32 (X j).lit.g, .float .f32 (X j).lit.b, .slice a4 (N j) ca4, .int .i64 (X j).kind, .complex .f32 (X j).g1 (X j).g2, .float .f32 0, .slice b4 (N j) cb4, .int .i64 (X j).ticks, .slice l4 (K j) cl4] 34)
        have RA := R4.alloc (o := .cells #[.int .i64 (X j).size, .float .f32 (X j).step, .float .f32 (X j).lit.r, .float .f32 (X j).lit.g, .float .f32 (X j).lit.b, .slice a4 (N j) ca4, .int .i64 (X j).kind, .complex .f32 (X j).g1 (X j).g2, .float .f32 0, .slice b4 (N j) cb4, .int .i64 (X j).ticks, .slice l4 (K j) cl4] 34)
        (obtain ⟨p0, p1, p2, p3, p4, p5, p6, p7, p8, p9, p10, p11⟩ := blk12 (PA))
        (obtain ⟨q0, q1, q2, q3, q4, q5, q6, q7, q8, q9, q10, q11⟩ := blk12 (RA))
        (have h0 := RA.free 0; have h1 := RA.free 1; have h2 := RA.free 2; have h3 := RA.free 3; have h4 := RA.free 4; have h5 := RA.free 5; have h6 := RA.free 6; have h7 := RA.free 7; have h8 := RA.free 8; have h9 := RA.free 9; have h10 := RA.free 10; have h11 := RA.free 11)
        have l2' := RA.lt
        clear R4 PA P4
        have P5 := Lib.hid (put_z (t := X j) (x' := .slice a3 (N j) ca3) (y' := .slice b3 (N j) cb3) (z' := .slice l3 (K j) cl3) RA)
        clear RA
        go_wp2_with fail
        (obtain ⟨e0, e1, e2, e3, e4, e5, e6, e7, e8, e9, e10, e11⟩ := blk12 (P5.out))
        refine bodyPost_ret (v := .tuple #[.agg #[.int .i64 (X j).size, .float .f32 (X j).step, .float .f32 (X j).lit.r, .float .f32 (X j).lit.g, .float .f32 (X j).lit.b, .slice a3 (N j) ca3, .int .i64 (X j).kind, .complex .f32 (X j).g1 (X j).g2, .float .f32 0, .slice b3 (N j) cb3, .int .i64 (X j).ticks, .slice l3 (K j) cl3], .int .i64 j]) (by simp [results, Tryz.results16, go_sem, e0, e1, e2, e3, e4, e5, e6, e7, e8, e9, e10, e11]) rfl ⟨a3, b3, l3, ca3, cb3, cl3, ⟨rfl, ?_, ?_⟩⟩
        · exact I5.out.alloc.grownAt grown12 q1
        · exact below12 (G4.out.alloc (by have := G4.out.size; omega) _) (by omega)
    · have hjn : j = d := by omega
      have hdn : d = n := by omega
      subst hjn
      subst hdn
      have R4 := R3.out
      (obtain ⟨q0, q1, q2, q3, q4, q5, q6, q7, q8, q9, q10, q11⟩ := blk12 (R4))
      (have h0 := R4.free 0; have h1 := R4.free 1; have h2 := R4.free 2; have h3 := R4.free 3; have h4 := R4.free 4; have h5 := R4.free 5; have h6 := R4.free 6; have h7 := R4.free 7; have h8 := R4.free 8; have h9 := R4.free 9; have h10 := R4.free 10; have h11 := R4.free 11)
      have P5 := Lib.hid (put_z (t := X j) (x' := .slice a3 (N j) ca3) (y' := .slice b3 (N j) cb3) (z' := .slice l3 (K j) cl3) R4)
      clear R4 hbel
      go_wp2_with fail
      (obtain ⟨e0, e1, e2, e3, e4, e5, e6, e7, e8, e9, e10, e11⟩ := blk12 (P5.out))
      refine bodyPost_ret (v := .tuple #[.agg #[.int .i64 (X j).size, .float .f32 (X j).step, .float .f32 (X j).lit.r, .float .f32 (X j).lit.g, .float .f32 (X j).lit.b, .slice a3 (N j) ca3, .int .i64 (X j).kind, .complex .f32 (X j).g1 (X j).g2, .float .f32 0, .slice b3 (N j) cb3, .int .i64 (X j).ticks, .slice l3 (K j) cl3], .int .i64 j]) (by simp [results, Tryz.results16, go_sem, e0, e1, e2, e3, e4, e5, e6, e7, e8, e9, e10, e11]) rfl ⟨a3, b3, l3, ca3, cb3, cl3, ⟨rfl, ?_, ?_⟩⟩
      · exact I3.out.grownAt grown12 q1
      · exact below12 G3.out (by omega)⟩
end Go.Proofs.YtfdgijmmgllmgaaGreat
namespace Go.Proofs.YtfdgijmmgllmgaaGreat
open Go.ChangeShapes Go.WideShapes Go.ChangeAt Go.RowKit Go.Joins
set_option linter.unusedSimpArgs false
set_option linter.unusedVariables false
set_option maxRecDepth 100000
attribute [local go_sem] store_f
open Ieee Go.Lib
theorem stAt_d {S T : Shw} {l : List Ev} {d : Nat} (h : runE S (l.take d) = some T) : stAt S l d = T := by
  unfold stAt
  rw [h]; rfl
theorem runG {S T : Shw} {l : List Ev} {d : Nat} (G : Good S) (hl : ∀ e ∈ l, e.Ok) (hd : d ≤ l.length) (h : runE S (l.take d) = some T) (hno : d < l.length → doE T (l.getD d default) = none) (hc : cost (S.log ++ l) ≤ 10) (hn : S.log.length + l.length ≤ 24) :
    RunSM 14 S.w S.bds.length S.bds.length S.log.length (l.map Ev.w) l.length T.w T.bds.length T.bds.length T.log.length d := by
  have R := runS G.copy (chainG G hl hd h hno hc hn)
  rw [stAt_d h] at R
  exact R
theorem chainS {S T : Shw} {l : List Ev} {d : Nat} (G : Good S) (hl : ∀ e ∈ l, e.Ok) (hd : d ≤ l.length) (h : runE S (l.take d) = some T) (hno : d < l.length → doE T (l.getD d default) = none) (hc : cost (S.log ++ l) ≤ 10) (hn : S.log.length + l.length ≤ 24) :
    Chain 40 (fun j => (stAt S l j).w) (fun j => (stAt S l j).bds.length) (fun j => (stAt S l j).log.length) (l.map Ev.w) l.length d := by
  have hst : ∀ j, j ≤ d → runE S (l.take j) = some (stAt S l j) := fun j hj => by
    have h1 := stAt_run h j
    rw [List.take_take, Nat.min_eq_left hj] at h1
    rw [h1]
    unfold stAt
    rw [List.take_take, Nat.min_eq_left hj]
  have hcj : ∀ j, cost (S.log ++ l.take j) ≤ 10 := fun j => by
    rw [cost_append] at hc ⊢
    have : cost l = cost (l.take j) + cost (l.drop j) := by rw [← cost_append, List.take_append_drop]
    omega
  have hg : ∀ j, j ≤ d → Good (stAt S l j) := fun j hj => good_run G (fun e he => hl e (List.mem_of_mem_take he)) (hst j hj) (hcj j) (by simp; omega)
  have hlog : ∀ j, j ≤ d → (stAt S l j).log = S.log ++ l.take j := fun j hj => (runE_log (hst j hj)).1
  have hT : stAt S l d = T := stAt_d h
  have hlt : ∀ j, j < l.length → (l.getD j default).Ok := fun j hj => hl _ (getD_mem hj)
  have hw : ∀ j, j < l.length → (l.map Ev.w).getD j default = (l.getD j default).w := fun j hj => getD_map Ev.w _ hj
  refine ⟨by simp, hd, by omega, fun j hj => ?_, fun hj => ?_⟩
  · have hjl : j < l.length := by omega
    have e1 : l.take (j + 1) = l.take j ++ [l.getD j default] := by
      rw [List.take_succ_eq_append_getElem hjl]; simp [List.getD, hjl]
    have h2 := hst (j + 1) (by omega)
    rw [e1, runE_append, hst j (by omega)] at h2
    simp only [Option.bind_some, runE] at h2
    have h3 : doE (stAt S l j) (l.getD j default) = some (stAt S l (j + 1)) := by
      cases hx : doE (stAt S l j) (l.getD j default) with
      | none => rw [hx] at h2; simp at h2
      | some U => rw [hx] at h2; simpa using h2
    have hlen := hlog j (by omega)
    rw [hw j hjl]
    refine (doE_someS (hg j (by omega)) (hlt j hjl) h3 ?_ ?_).dom
    · rw [hlen, List.append_assoc, ← e1]; exact hcj (j + 1)
    · rw [hlen]; simp; omega
  · rw [hw d hj]
    refine (doE_noneS (hg d (Nat.le_refl _)) (hlt d hj) (by rw [hT]; exact hno hj) ?_).dom
    rw [hlog d (Nat.le_refl _)]; simp; omega
theorem runGS {S T : Shw} {l : List Ev} {d : Nat} (G : Good S) (hl : ∀ e ∈ l, e.Ok) (hd : d ≤ l.length) (h : runE S (l.take d) = some T) (hno : d < l.length → doE T (l.getD d default) = none) (hc : cost (S.log ++ l) ≤ 10) (hn : S.log.length + l.length ≤ 24) :
    RunSM 16 S.w S.bds.length S.bds.length S.log.length (l.map Ev.w) l.length T.w T.bds.length T.bds.length T.log.length d := by
  have R := runSS G.copyS (chainS G hl hd h hno hc hn)
  rw [stAt_d h] at R
  exact R
theorem syms_head (k : Nat) (h : k ≤ 3) : ∃ t, symsTo (k : Int) 8 = (0, false) :: t := by
  rcases (by omega : k = 0 ∨ k = 1 ∨ k = 2 ∨ k = 3) with rfl | rfl | rfl | rfl <;> exact ⟨_, rfl⟩
theorem actP_id (p : PtW) : actP (0, false) p = p := by
  apply ptW_inj
  · rw [vX_act]; simp [actI]
  · rw [vY_act]; simp [actI]
theorem refold_id {k : Nat} (h : k ≤ 3) {b : PtW × PtW} (hw : wed (k : Int) b.1 = true) : refold k b = b := by
  obtain ⟨t, ht⟩ := syms_head k h
  have hf : foldS (k : Int) b.1 = (0, false) := by
    unfold foldS
    rw [ht, List.find?_cons]
    rw [actP_id, hw]
    rfl
  unfold refold
  rw [hf, actP_id, actP_id]
theorem mirrors_id {S : Shw} (F : Fine S) : doE S (.mirrors S.kind) = some { S with log := S.log ++ [.mirrors S.kind] } := by
  have : S.bds.map (refold S.kind) = S.bds := by
    have h := List.map_congr_left (f := refold S.kind) (g := id) (l := S.bds) (fun b hb => refold_id F.kin (F.bds b hb).2.2.2)
    rw [h, List.map_id]
  simp only [doE, doB, Option.map_some, this]
def lightQ : Lit := ⟨1056964608, 0, 1048576000⟩
theorem lightQ_ok : lightQ.Ok := ⟨by decide, by decide, by decide⟩
def Ev.isLight : Ev → Bool
  | .light _ => true
  | _ => false
theorem isLight_kind (e : Ev) : (e.w.kind = 3) ↔ e.isLight = true := by cases e <;> simp [Ev.w, Ev.isLight]
theorem light_do (S : Shw) : doE S (.light lightQ) = some { S with lit := lightQ, log := S.log ++ [.light lightQ] } := rfl
theorem light_swap {S : Shw} {x : Ev} (hx : x.isLight = false) (L : List Ev) : doE { S with lit := lightQ, log := L } x = (doE S x).map fun U => { U with lit := lightQ, log := L ++ [x] } := by
  cases x <;> simp only [doE, doB, Ev.isLight] at hx ⊢
  all_goals (first | (cases hx; done) | (split <;> rfl) | rfl)
end Go.Proofs.YtfdgijmmgllmgaaGreat
namespace Go.Proofs.YtfdgijmmgllmgaaGreat
open Go.ChangeShapes Go.WideShapes Go.ChangeAt Go.RowKit Go.Joins
set_option linter.unusedSimpArgs false
set_option linter.unusedVariables false
set_option maxRecDepth 100000
attribute [local go_sem] store_f
open Ieee Go.Lib
structure Mg2 (S : Shw) (x : Ev) (A : Sho) (L : List Evw) (n kA kB z : Nat) (m : List Lit) : Prop where
  a : RunSM 14 S.w S.bds.length S.bds.length S.log.length [⟨3, 0, 0, 0, shd0, lightQ⟩, x.w] 2 A n n kA 2
  s : RunSM 16 S.w S.bds.length S.bds.length S.log.length [⟨3, 0, 0, 0, shd0, lightQ⟩, x.w] 2 A n n kA 2
  b : RunSM 14 S.w S.bds.length S.bds.length S.log.length [x.w, ⟨3, 0, 0, 0, shd0, lightQ⟩] 2 { A with log := L } n n kB 2
  sa : SeenM A n n kA z m
  sb : SeenM { A with log := L } n n kB z m
  sp : ∀ g1 c1 g2 c2, SameM z (some ⟨g1, 0, Option.none⟩) c1 m z (some ⟨g2, 0, Option.none⟩) c2 m true
  st : SameT A.kind A.g1 A.g2 0 n A.bds
structure Mg1 (S : Shw) (x : Ev) (A : Sho) (n kA : Nat) : Prop where
  a : RunSM 14 S.w S.bds.length S.bds.length S.log.length [⟨3, 0, 0, 0, shd0, lightQ⟩, x.w] 2 A n n kA 1
  s : RunSM 16 S.w S.bds.length S.bds.length S.log.length [⟨3, 0, 0, 0, shd0, lightQ⟩, x.w] 2 A n n kA 1
  b : RunSM 14 S.w S.bds.length S.bds.length S.log.length [x.w, ⟨3, 0, 0, 0, shd0, lightQ⟩] 2 S.w S.bds.length S.bds.length S.log.length 0
theorem pic_same {kind : Int} {z : Nat} {m : List Lit} (h8 : z ≤ 8) (P : Pic kind z m) (g1 c1 g2 c2 : Nat) : SameM z (some ⟨g1, 0, Option.none⟩) c1 m z (some ⟨g2, 0, Option.none⟩) c2 m true := by
  have h := sameM (n := z) (a := some ⟨g1, 0, Option.none⟩) (ca := c1) (m := z) (b := some ⟨g2, 0, Option.none⟩) (cb := c2) (k := m) (show m.length ≤ 1000000000 by
    have := Nat.mul_le_mul h8 h8
    have := P.len
    omega)
  rw [(colsEq_ok P.oks P.oks rfl).2 rfl] at h
  simpa using h
theorem mg_of {S : Shw} {x : Ev} (T : Told S) (hx : x.Ok) (hc : cost S.log ≤ 9) (hn : S.log.length ≤ 11) (hl : x.isLight = false) : (∃ A L n kA kB z m, Mg2 S x A L n kA kB z m) ∨ (∃ A n kA, Mg1 S x A n kA) := by
  have G := T.good (by omega) (by omega)
  have hb := x.big_le
  have okL : (Ev.light lightQ).Ok := lightQ_ok
  have ok1 : ∀ e ∈ [Ev.light lightQ, x], e.Ok := fun e he => by
    rcases List.mem_cons.1 he with h | h
    · rw [h]; exact okL
    · rw [List.mem_singleton] at h; rw [h]; exact hx
  have ok2 : ∀ e ∈ [x, Ev.light lightQ], e.Ok := fun e he => by
    rcases List.mem_cons.1 he with h | h
    · rw [h]; exact hx
    · rw [List.mem_singleton] at h; rw [h]; exact okL
  have c1 : cost (S.log ++ [Ev.light lightQ, x]) ≤ 10 := by rw [cost_append]; show cost S.log + (0 + (x.big + 0)) ≤ 10; omega
  have c2 : cost (S.log ++ [x, Ev.light lightQ]) ≤ 10 := by rw [cost_append]; show cost S.log + (x.big + (0 + 0)) ≤ 10; omega
  have n1 : S.log.length + [Ev.light lightQ, x].length ≤ 24 := by simp; omega
  have n2 : S.log.length + [x, Ev.light lightQ].length ≤ 24 := by simp; omega
  have hsw := light_swap (S := S) hl (S.log ++ [Ev.light lightQ])
  cases h : doE S x with
  | none =>
    rw [h] at hsw
    have hsw' : doE { S with lit := lightQ, log := S.log ++ [Ev.light lightQ] } x = none := hsw
    right
    have r1 : runE S ([Ev.light lightQ, x].take 1) = some { S with lit := lightQ, log := S.log ++ [Ev.light lightQ] } := by simp only [List.take, runE, light_do, Option.bind_some]
    have r2 : runE S ([x, Ev.light lightQ].take 0) = some S := rfl
    exact ⟨_, _, _, ⟨runG G ok1 (d := 1) (by simp) r1 (fun _ => hsw') c1 n1, runGS G ok1 (d := 1) (by simp) r1 (fun _ => hsw') c1 n1, runG G ok2 (d := 0) (by simp) r2 (fun _ => h) c2 n2⟩⟩
  | some U =>
    rw [h] at hsw
    have hsw' : doE { S with lit := lightQ, log := S.log ++ [Ev.light lightQ] } x = some { U with lit := lightQ, log := S.log ++ [Ev.light lightQ] ++ [x] } := hsw
    left
    have r1 : runE S ([Ev.light lightQ, x].take 2) = some { U with lit := lightQ, log := S.log ++ [Ev.light lightQ] ++ [x] } := by simp only [List.take, runE, light_do, Option.bind_some, hsw']
    have r2 : runE S ([x, Ev.light lightQ].take 2) = some { U with lit := lightQ, log := U.log ++ [Ev.light lightQ] } := by simp only [List.take, runE, h, light_do, Option.bind_some]
    have GA : Good { U with lit := lightQ, log := S.log ++ [Ev.light lightQ] ++ [x] } := good_run G ok1 r1 c1 n1
    have GB : Good { U with lit := lightQ, log := U.log ++ [Ev.light lightQ] } := good_run G ok2 r2 c2 n2
    obtain ⟨m, P, HS⟩ := GA.seen
    have sa := HS _ GA rfl rfl rfl rfl rfl rfl
    have sb := HS _ GB rfl rfl rfl rfl rfl rfl
    have h8 : U.size ≤ 8 := by have := GA.fine.s5; show U.size ≤ 8; have h5 : U.size ≤ 5 := GA.fine.s5; omega
    have FA := GA.fin
    have st := sameT (kind := U.w.kind) (g1 := U.w.g1) (g2 := U.w.g2) (ls := 0) (N := U.bds.length) (L := U.w.bds) (by simp [Shw.w]) GA.fine.few FA.bds FA.g1 FA.g2 fin0
    exact ⟨_, (U.log ++ [Ev.light lightQ]).map Ev.w, _, _, _, _, m, ⟨runG G ok1 (d := 2) (by simp) r1 (fun h => absurd h (by simp)) c1 n1, runGS G ok1 (d := 2) (by simp) r1 (fun h => absurd h (by simp)) c1 n1, runG G ok2 (d := 2) (by simp) r2 (fun h => absurd h (by simp)) c2 n2, sa, sb, pic_same h8 P, st⟩⟩
structure Mg0 (S : Shw) (L : List Evw) (K : Nat) : Prop where
  d : DoM 9 S.w S.bds.length S.bds.length S.log.length ⟨4, S.w.kind, 0, 0, shd0, lit0⟩ { S.w with log := L } S.bds.length S.bds.length K true
  st : SameT S.w.kind S.w.g1 S.w.g2 0 S.bds.length S.w.bds
theorem mg0_of {S : Shw} (T : Told S) (hc : cost S.log ≤ 9) (hn : S.log.length ≤ 11) : ∃ L K, Mg0 S L K := by
  have G := T.good (by omega) (by omega)
  have F := G.fine
  have FA := G.fin
  have D := doE_some G (e := .mirrors S.kind) F.kin (mirrors_id F) (by rw [cost_append]; simp only [cost, Ev.big]; omega) (by omega)
  exact ⟨_, _, ⟨D, sameT (ls := 0) (by simp [Shw.w]) F.few FA.bds FA.g1 FA.g2 fin0⟩⟩
end Go.Proofs.YtfdgijmmgllmgaaGreat
namespace Go.Proofs.YtfdgijmmgllmgaaGreat
open Go.ChangeShapes Go.WideShapes Go.ChangeAt Go.RowKit
theorem joined_mk {P : Program} {f : FuncId} {fn : Func} {s : ChangeSpec} {c : OpenClaim}
    (k1 : c.wf (OpenSpec.ofChange s) = true) (k2 : laidOutB P = true) (k3 : mapsRowed P = true)
    (k4 : fn.params.all (P.readableRec ·) = true) (k5 : namedTie P c.named s.vars = true)
    (k6 : (c.stops == []) = true) (k7 : (P.stops == []) = true) (k8 : (c.knobs == []) = true) (k9 : (P.stopKnobs == []) = true)
    (k10 : (c.inPlace == P.inPlace f) = true) (k11 : (c.unfollowed == P.unfollowed f) = true) (k12 : (c.recurses == P.recurses f) = true) (k13 : (c.named == P.varsNamed f) = true)
    (k14 : (c.maps == (fn.params.toList ++ s.plain.varTypes P).any (P.mapsRec ·)) = true) (k15 : (c.ifaces == (fn.params.toList ++ s.plain.varTypes P).any (P.ifacesRec ·)) = true) (k16 : (c.mapsOut == P.mapsAmong fn.resultTypes.toList) = true)
    (k17 : (c.loops == (fn.params.toList ++ s.plain.varTypes P).any (P.loopsFrom ·)) = true) (k17b : (c.wideKeys == (fn.params.toList ++ s.plain.varTypes P ++ fn.resultTypes.toList).any (P.wideKeysFrom ·)) = true)
    (k18 : s.vars.all (P.varReadable ·) = true) (k19 : fn.resultTypes.all (fun t => P.readableRec t && decide (t < P.types.size)) = true) (k20 : (c.ifacesOut == fn.resultTypes.toList.any (P.ifacesRec ·)) = true) (k21 : (c.loopsOut == fn.resultTypes.toList.any (P.loopsFrom ·)) = true) (k22 : (c.plainKeys == P.plainKeys) = true) (k23 : c.shortTexts.isNone = true) (k23b : P.stopsHeard = true) (k24 : P.mayEnter = true) (k24b : (c.lifted == P.liftsFinal) = true) (k24c : (P.make == some c.make) = true)
    (k25 : (c.kinds == (if c.domain.isEmpty then [] else fn.params.toList.map fun t => match P.underlying t with | some (.int k) => some k | _ => none)) = true) (k26 : (c.pinned == c.pinnedBy) = true)
    (k27 : (c.veiled == (fn.params.toList ++ s.plain.varTypes P ++ fn.resultTypes.toList).any (P.veiledRec ·)) = true) (k28 : c.veiledFits P fn.params.toList (fn.params.toList ++ s.plain.varTypes P ++ fn.resultTypes.toList) = true) :
    joinedFacts P f fn s c = true := by
  unfold joinedFacts
  simp only [Bool.and_eq_true]
  exact ⟨⟨⟨⟨⟨⟨⟨⟨⟨⟨⟨⟨⟨⟨⟨⟨⟨⟨⟨⟨⟨⟨⟨⟨⟨⟨⟨⟨⟨⟨⟨k1, k2⟩, k3⟩, k4⟩, k5⟩, k6⟩, k7⟩, k8⟩, k9⟩, k10⟩, k11⟩, k12⟩, k13⟩, k14⟩, k15⟩, k16⟩, k17⟩, k17b⟩, k18⟩, k19⟩, k20⟩, k21⟩, k22⟩, k23⟩, k23b⟩, k24⟩, k24b⟩, k24c⟩, k25⟩, k26⟩, k27⟩, k28⟩
theorem rowed : mapsRowed Tryz.prog = true := by kernel_rfl
theorem heard : Tryz.prog.stopsHeard = true := by kernel_rfl
theorem enters : Tryz.prog.mayEnter = true := by kernel_rfl
theorem lifts_no : (false == Tryz.prog.liftsFinal) = true := by kernel_rfl
end Go.Proofs.YtfdgijmmgllmgaaGreat
namespace Go.Proofs.YtfdgijmmgllmgaaGreat
theorem plain_yes : (true == Tryz.prog.plainKeys) = true := by kernel_rfl
end Go.Proofs.YtfdgijmmgllmgaaGreat
namespace Go.Proofs.YtfdgijmmgllmgaaGreat
open Go.ChangeShapes Go.WideShapes Go.ChangeAt Go.RowKit Go.Joins
set_option linter.unusedSimpArgs false
set_option linter.unusedVariables false
set_option maxRecDepth 100000
attribute [local go_sem] store_f
open Ieee
theorem isNaN_no {x : Nat} (h : FloatKind.f32.format.order x x = some .eq) (w : World) :
    Calls Tryz.prog 133 #[.float .f32 x] w fun e w' => e = .returned (.bool false) ∧ w' = w := by
  have h1 : (FloatKind.f32.format.order x x != some .eq) = false := by rw [h]; rfl
  clear h
  go_enter Tryz.func133, Tryz.ntmps133
  go_wp2
  all_goals (go_ret; exact ⟨by simp_all, rfl⟩)
structure NaNI (x : Nat) : Prop where
  call : ∀ w : World, Calls Tryz.prog 133 #[.float .f32 x] w fun e w' => e = .returned (.bool false) ∧ w' = w
theorem compare_of {x y : Nat} (X : NaNI x) (Y : NaNI y) (l g : Bool) (hl : (FloatKind.f32.format.order x y == some .lt) = l) (hg : (FloatKind.f32.format.order x y == some .gt) = g) (w : World) :
    Calls Tryz.prog 95 #[.float .f32 x, .float .f32 y] w fun e w' => e = .returned (.int .i64 (if l = true then -1 else if g = true then 1 else 0)) ∧ w' = w := by
  cases l
  · cases g
    all_goals
      go_enter Tryz.func95, Tryz.ntmps95
      go_wp2_with (go_at_call 133; (first | (with_reducible refine (X.call _).mono ?_) | (with_reducible refine (Y.call _).mono ?_)); rintro e w1 ⟨rfl, rfl⟩)
      all_goals (first | (go_ret; exact ⟨rfl, rfl⟩) | (exfalso; simp_all; done))
  · clear hg
    go_enter Tryz.func95, Tryz.ntmps95
    go_wp2_with (go_at_call 133; (first | (with_reducible refine (X.call _).mono ?_) | (with_reducible refine (Y.call _).mono ?_)); rintro e w1 ⟨rfl, rfl⟩)
    all_goals (first | (go_ret; exact ⟨rfl, rfl⟩) | (exfalso; simp_all; done))
end Go.Proofs.YtfdgijmmgllmgaaGreat
namespace Go.Proofs.YtfdgijmmgllmgaaGreat
open Go.ChangeShapes Go.WideShapes Go.ChangeAt Go.RowKit Go.Joins
set_option linter.unusedSimpArgs false
set_option linter.unusedVariables false
set_option maxRecDepth 100000
attribute [local go_sem] store_f
open Ieee
def cmpV (a b : Int) : Int := if a < b then -1 else if b < a then 1 else 0
theorem compare_v {x y : Nat} (hx : Fin32 x) (hy : Fin32 y) (w : World) :
    Calls Tryz.prog 95 #[.float .f32 x, .float .f32 y] w fun e w' => e = .returned (.int .i64 (cmpV (valOf F32 x) (valOf F32 y))) ∧ w' = w := by
  have same : ∀ {z : Nat}, Fin32 z → FloatKind.f32.format.order z z = some .eq := fun {z} h => by
    show F32.order z z = _
    rw [order_fin F32 h h]; simp
  have h1 : (FloatKind.f32.format.order x y == some .lt) = decide (valOf F32 x < valOf F32 y) := by
    show (F32.order x y == some .lt) = _
    rw [order_fin F32 hx hy, cmp_lt]
  have h2 : (FloatKind.f32.format.order x y == some .gt) = decide (valOf F32 y < valOf F32 x) := by
    show (F32.order x y == some .gt) = _
    rw [order_fin F32 hx hy, cmp_gt]
  have := compare_of ⟨fun w => isNaN_no (same hx) w⟩ ⟨fun w => isNaN_no (same hy) w⟩ _ _ h1 h2 w
  unfold cmpV
  simpa using this
structure CmpM (x y : Nat) (n : Int) : Prop where
  call : ∀ w : World, Calls Tryz.prog 95 #[.float .f32 x, .float .f32 y] w fun e w' => e = .returned (.int .i64 n) ∧ w' = w
theorem or_i (g : Nat) (a b : Int) (w : World) (c0 : w.cell? ⟨g, 0, Option.none⟩ = some (.int .i64 a)) (c1 : w.cell? ⟨g, 1, Option.none⟩ = some (.int .i64 b)) :
    Calls Tryz.prog 94 #[.slice (some ⟨g, 0, Option.none⟩) 2 2] w fun e w' => e = .returned (.int .i64 (if a = 0 then b else a)) ∧ w = w' := by
  by_cases ha : a = 0
  · subst ha
    by_cases hb : b = 0
    · subst hb
      go_enter Tryz.func94, Tryz.ntmps94
      go_wp2
      refine wp_loop_rounds 3 ?_
      rw [rounds_succ]
      go_wp2
      rw [rounds_succ]
      go_wp2
      rw [rounds_succ]
      go_wp2
      go_ret
      exact ⟨rfl, rfl⟩
    · have h2 : (b != 0) = true := by simpa using hb
      go_enter Tryz.func94, Tryz.ntmps94
      go_wp2
      refine wp_loop_rounds 2 ?_
      rw [rounds_succ]
      go_wp2
      rw [rounds_succ]
      go_wp2
      go_ret
      exact ⟨rfl, rfl⟩
  · rw [if_neg ha]
    have h2 : (a != 0) = true := by simpa using ha
    go_enter Tryz.func94, Tryz.ntmps94
    go_wp2
    refine wp_loop_rounds 1 ?_
    rw [rounds_succ]
    go_wp2
    go_ret
    exact ⟨rfl, rfl⟩
end Go.Proofs.YtfdgijmmgllmgaaGreat
