/-
  Texts Qc, joined.
-/
import Derived.Test.YtfdgijmmgllmgaaGreatDoorS13
import Derived.Test.YtfdgijmmgllmgaaGreatDoorS31
import Derived.Deep.RegionHeld3
namespace Go.Proofs.YtfdgijmmgllmgaaGreatDoor
open Go.ChangeShapes Go.WideShapes Go.ChangeAt Go.RowKit Go.Joins
set_option linter.unusedSimpArgs false
set_option linter.unusedVariables false
set_option maxRecDepth 100000
attribute [local go_sem] store_f
open Ieee Go.Lib
attribute [local go_sem] store_c
structure DoEvS : Prop where
  some : ∀ {S T : Shw} {e : Ev}, Good S → e.Ok → doE S e = some T → cost (S.log ++ [e]) ≤ 10 → S.log.length ≤ 23 → DoMC 35 S.w S.bds.length S.bds.length S.log.length e.w T.w T.bds.length T.bds.length T.log.length true
  none : ∀ {S : Shw} {e : Ev}, Good S → e.Ok → doE S e = none → S.log.length ≤ 23 → DoMC 35 S.w S.bds.length S.bds.length S.log.length e.w S.w S.bds.length S.bds.length S.log.length false
structure NextM (S : Shw) (e : Ev) (T : Shw) (p : Bool) : Prop where
  call : DoMC 35 S.w S.bds.length S.bds.length S.log.length e.w T.w T.bds.length T.bds.length T.log.length p
  told : Told T
  len : T.log.length ≤ S.log.length + 1
  cost : cost T.log ≤ cost S.log + e.big
  ge : S.log.length ≤ T.log.length
  lit : ∀ c, e = .light c → 1 ≤ T.log.length
theorem nextM (H : DoEvS) {S : Shw} {e : Ev} (T : Told S) (he : e.Ok) (hc : cost S.log + e.big ≤ 10) (hn : S.log.length ≤ 23) : ∃ U p, NextM S e U p := by
  have G := T.good (by omega) (by omega)
  have e1 : cost (S.log ++ [e]) = cost S.log + e.big := by rw [cost_append]; simp [cost]
  cases h : doE S e with
  | none => exact ⟨S, false, ⟨H.none G he h hn, T, by omega, by omega, by omega, fun c hc => by subst hc; simp [doE, doB] at h⟩⟩
  | some U =>
    obtain ⟨g1, _, _⟩ := do_log h
    exact ⟨U, true, ⟨H.some G he h (by omega) hn, told_do T he h (by omega), by rw [g1]; simp, by rw [g1, e1]; omega, by rw [g1]; simp, fun c _ => by rw [g1]; simp⟩⟩
theorem LiesZ.grownCur {W w1 : World} {a : Option Addr} {xs : List Value} {B q : Nat} (h : LiesZ W a xs) (hc : Cur B W q) (hg : W.grownBy w1 (some q)) (hx : ∀ u, xs[0]? = some u → ∀ y n c, u ≠ .slice y n c) : LiesZ w1 a xs := by
  obtain ⟨y, len, cap, bs, i, hh, h1, _⟩ := hc
  refine h.grownAt hg (h1.cell 0) fun h0 => ?_
  cases xs with
  | nil => exact absurd rfl h0
  | cons u xs => exact ⟨u, rfl, hx u rfl _ _ _⟩
theorem ShoIn.grownCur {W w1 : World} {s : Sho} {a b l : Option Addr} {B q : Nat} (h : ShoIn W s a b l) (hc : Cur B W q) (hg : W.grownBy w1 (some q)) : ShoIn w1 s a b l := by
  refine ⟨h.sh.grownCur hc hg fun u hu y n c e => ?_, h.bd.grownCur hc hg fun u hu y n c e => ?_, h.lg.grownCur hc hg fun u hu y n c e => ?_⟩
  · subst e
    cases h0 : s.shs with
    | nil => rw [h0] at hu; simp [shCells] at hu
    | cons x L => rw [h0] at hu; simp [shCells, Shd.cells] at hu
  · subst e
    cases h0 : s.bds with
    | nil => rw [h0] at hu; simp [bwCells] at hu
    | cons x L => rw [h0] at hu; simp [bwCells, Bw.cells] at hu
  · subst e
    cases h0 : s.log with
    | nil => rw [h0] at hu; simp [evCells] at hu
    | cons x L => rw [h0] at hu; simp [evCells, Evw.cells] at hu
structure Shs (B q P R : Nat) (w W : World) (S : Shw) (a b l : Option Addr) (ca cb cl : Nat) : Prop where
  cur : Cur B W q
  gr : w.grownBy W (some q)
  box : Blk W P #[.int .i64 S.w.size, .float .f32 S.w.step, .float .f32 S.w.lit.r, .float .f32 S.w.lit.g, .float .f32 S.w.lit.b, .slice a S.bds.length ca, .int .i64 S.w.kind, .complex .f32 S.w.g1 S.w.g2, .float .f32 0, .slice b S.bds.length cb, .int .i64 S.w.ticks, .slice l S.log.length cl] 34
  inn : ShoIn W S.w a b l
  res : Blk W R #[.int .i64 0, .float .f32 0, .float .f32 0, .float .f32 0, .float .f32 0, .slice Option.none 0 0, .int .i64 0, .complex .f32 0 0, .float .f32 0, .slice Option.none 0 0, .int .i64 0, .slice Option.none 0 0] 34
  qlt : q < w.heap.size
  Rge : w.heap.size ≤ R
  Pge : w.heap.size ≤ P
  ne : R ≠ P
  cap : S.log.length ≤ cl
theorem Shs.step {B q P R : Nat} {w W w1 : World} {S : Shw} {a b l : Option Addr} {ca cb cl : Nat} (h : Shs B q P R w W S a b l ca cb cl) (hc : Cur B w1 q) (hg : W.grownBy w1 (some q)) : Shs B q P R w w1 S a b l ca cb cl :=
  ⟨hc, grownBy_trans h.gr hg, h.box.grown hg (by have := h.qlt; have := h.Pge; omega), h.inn.grownCur h.cur hg, h.res.grown hg (by have := h.qlt; have := h.Rge; omega), h.qlt, h.Rge, h.Pge, h.ne, h.cap⟩
theorem Shs.below {B q P R : Nat} {w W w1 : World} {S : Shw} {a b l : Option Addr} {ca cb cl : Nat} (h : Shs B q P R w W S a b l ca cb cl) (hb : Below W.heap.size W w1) : Shs B q P R w w1 S a b l ca cb cl :=
  ⟨h.cur.below hb, grown_st' h.gr ⟨hb.os, hb.tape, hb.output, hb.size, fun i hi _ => hb.block i hi⟩ (r := Option.none) (fun x e => by cases e), h.box.below hb, h.inn.below hb, h.res.below hb, h.qlt, h.Rge, h.Pge, h.ne, h.cap⟩
theorem Shs.drew {B q P R : Nat} {w W : World} {S : Shw} {a b l : Option Addr} {ca cb cl : Nat} (h : Shs B q P R w W S a b l ca cb cl) : Shs B q P R w W.drew S a b l ca cb cl := h.below ((Below.refl _ _).drew)
theorem Shs.alloc {B q P R : Nat} {w W : World} {S : Shw} {a b l : Option Addr} {ca cb cl : Nat} {o : Obj} (h : Shs B q P R w W S a b l ca cb cl) : Shs B q P R w (W.alloc o) S a b l ca cb cl := h.below ((Below.refl _ _).alloc (Nat.le_refl _) _)
theorem new12 {w W : World} {r : Option Nat} {P : Nat} {u0 u1 u2 u3 u4 u5 u6 u7 u8 u9 u10 u11 : Value} (h : w.grownBy W r) (hP : w.heap.size ≤ P) : w.grownBy ((((((((((((W.setCell ⟨P, 0, Option.none⟩ u0).setCell ⟨P, 1, Option.none⟩ u1).setCell ⟨P, 2, Option.none⟩ u2).setCell ⟨P, 3, Option.none⟩ u3).setCell ⟨P, 4, Option.none⟩ u4).setCell ⟨P, 5, Option.none⟩ u5).setCell ⟨P, 6, Option.none⟩ u6).setCell ⟨P, 7, Option.none⟩ u7).setCell ⟨P, 8, Option.none⟩ u8).setCell ⟨P, 9, Option.none⟩ u9).setCell ⟨P, 10, Option.none⟩ u10).setCell ⟨P, 11, Option.none⟩ u11) r := by
  iterate 12 (refine grown_setNew ?_ (by exact hP) _)
  exact h
theorem cur12 {W : World} {B q P : Nat} {u0 u1 u2 u3 u4 u5 u6 u7 u8 u9 u10 u11 : Value} (h : Cur B W q) (hP : q < P) : Cur B ((((((((((((W.setCell ⟨P, 0, Option.none⟩ u0).setCell ⟨P, 1, Option.none⟩ u1).setCell ⟨P, 2, Option.none⟩ u2).setCell ⟨P, 3, Option.none⟩ u3).setCell ⟨P, 4, Option.none⟩ u4).setCell ⟨P, 5, Option.none⟩ u5).setCell ⟨P, 6, Option.none⟩ u6).setCell ⟨P, 7, Option.none⟩ u7).setCell ⟨P, 8, Option.none⟩ u8).setCell ⟨P, 9, Option.none⟩ u9).setCell ⟨P, 10, Option.none⟩ u10).setCell ⟨P, 11, Option.none⟩ u11) q := by
  iterate 12 (refine Cur.set ?_ (by exact hP))
  exact h
theorem Shs.put {B q P R : Nat} {w W w1 : World} {S T : Shw} {a b l a' b' l' : Option Addr} {ca cb cl ca' cb' cl' : Nat} (h : Shs B q P R w W S a b l ca cb cl) (hb : Below W.heap.size W w1) (hI : ShoIn w1 T.w a' b' l') (hcp : T.log.length ≤ cl') :
    Shs B q P R w ((((((((((((w1.setCell ⟨P, 0, Option.none⟩ (.int .i64 T.w.size)).setCell ⟨P, 1, Option.none⟩ (.float .f32 T.w.step)).setCell ⟨P, 2, Option.none⟩ (.float .f32 T.w.lit.r)).setCell ⟨P, 3, Option.none⟩ (.float .f32 T.w.lit.g)).setCell ⟨P, 4, Option.none⟩ (.float .f32 T.w.lit.b)).setCell ⟨P, 5, Option.none⟩ (.slice a' T.bds.length ca')).setCell ⟨P, 6, Option.none⟩ (.int .i64 T.w.kind)).setCell ⟨P, 7, Option.none⟩ (.complex .f32 T.w.g1 T.w.g2)).setCell ⟨P, 8, Option.none⟩ (.float .f32 0)).setCell ⟨P, 9, Option.none⟩ (.slice b' T.bds.length cb')).setCell ⟨P, 10, Option.none⟩ (.int .i64 T.w.ticks)).setCell ⟨P, 11, Option.none⟩ (.slice l' T.log.length cl')) T a' b' l' ca' cb' cl' := by
  have h1 := h.below hb
  have hq := h.qlt
  have hP := h.Pge
  refine ⟨cur12 h1.cur (by omega), new12 h1.gr hP, put_sho h1.box, ?_, h1.res.grown grown12 h1.ne, h.qlt, h.Rge, h.Pge, h.ne, hcp⟩
  exact hI.grownAt grown12 (h1.box.cell 1)
structure ShowDrawn (B q : Nat) (w : World) (e : Ending) (w' : World) (S : Shw) (a b l : Option Addr) (ca cb cl : Nat) : Prop where
  ret : e = .returned (.agg #[.int .i64 S.w.size, .float .f32 S.w.step, .float .f32 S.w.lit.r, .float .f32 S.w.lit.g, .float .f32 S.w.lit.b, .slice a S.bds.length ca, .int .i64 S.w.kind, .complex .f32 S.w.g1 S.w.g2, .float .f32 0, .slice b S.bds.length cb, .int .i64 S.w.ticks, .slice l S.log.length cl])
  told : Told S
  len : S.log.length ≤ 11
  cost : cost S.log ≤ 9
  inn : ShoIn w' S.w a b l
  cur : Cur B w' q
  grown : w.grownBy w' (some q)
  cap : S.log.length ≤ cl
  pos : 1 ≤ S.log.length
theorem st4 : ∀ n, n < 4 → ([.float .f32 1056964608, .float .f32 1065353216, .float .f32 1073741824, .float .f32 1050253722] : List Value)[n]? = some (.float .f32 (stepB (n + 1))) := by
  intro n hn
  rcases (by omega : n = 0 ∨ n = 1 ∨ n = 2 ∨ n = 3) with rfl | rfl | rfl | rfl <;> rfl
structure Drn (B q P R : Nat) (w W : World) (n c : Nat) : Prop where
  ex : ∃ S a b l ca cb cl, Shs B q P R w W S a b l ca cb cl ∧ Told S ∧ S.log.length ≤ n ∧ cost S.log ≤ c ∧ 1 ≤ S.log.length
theorem Drn.step {B q P R : Nat} {w W w1 : World} {n c : Nat} (h : Drn B q P R w W n c) (hc : Cur B w1 q) (hg : W.grownBy w1 (some q)) : Drn B q P R w w1 n c := by
  obtain ⟨S, a, b, l, ca, cb, cl, h1, h2, h3, h4, h5⟩ := h.ex
  exact ⟨S, a, b, l, ca, cb, cl, h1.step hc hg, h2, h3, h4, h5⟩
theorem Drn.mono {B q P R : Nat} {w W : World} {n c n' c' : Nat} (h : Drn B q P R w W n c) (hn : n ≤ n') (hc : c ≤ c') : Drn B q P R w W n' c' := by
  obtain ⟨S, a, b, l, ca, cb, cl, h1, h2, h3, h4, h5⟩ := h.ex
  exact ⟨S, a, b, l, ca, cb, cl, h1, h2, by omega, by omega, h5⟩
set_option maxHeartbeats 64000000 in
theorem l6Draw_s (H : DoEvS) (B q : Nat) (w : World) (hcur : Cur B w q) : Calls Tryz.prog 14 #[.pointer (some ⟨q, 0, Option.none⟩), .int .i64 9] w fun e w' => ∃ S a b l ca cb cl, ShowDrawn B q w e w' S a b l ca cb cl := by
  have hq := hcur.lt
  have HH := Lib.hid H
  have C0 : Hid (Cur B (w.alloc (.cells #[.int .i64 0, .float .f32 0, .float .f32 0, .float .f32 0, .float .f32 0, .slice Option.none 0 0, .int .i64 0, .complex .f32 0 0, .float .f32 0, .slice Option.none 0 0, .int .i64 0, .slice Option.none 0 0] 34)) q) := hcur.alloc
  have G0 : Hid (w.grownBy (w.alloc (.cells #[.int .i64 0, .float .f32 0, .float .f32 0, .float .f32 0, .float .f32 0, .slice Option.none 0 0, .int .i64 0, .complex .f32 0 0, .float .f32 0, .slice Option.none 0 0, .int .i64 0, .slice Option.none 0 0] 34)) (some q)) := grown_alloc (grownBy_refl _ _) _
  have R0 : Hid (Blk (w.alloc (.cells #[.int .i64 0, .float .f32 0, .float .f32 0, .float .f32 0, .float .f32 0, .slice Option.none 0 0, .int .i64 0, .complex .f32 0 0, .float .f32 0, .slice Option.none 0 0, .int .i64 0, .slice Option.none 0 0] 34)) w.heap.size #[.int .i64 0, .float .f32 0, .float .f32 0, .float .f32 0, .float .f32 0, .slice Option.none 0 0, .int .i64 0, .complex .f32 0 0, .float .f32 0, .slice Option.none 0 0, .int .i64 0, .slice Option.none 0 0] 34) := Blk.new _ _ _
  clear hcur H
  go_enter Tryz.func14, Tryz.ntmps14
  go_wp2_with fail
  generalize w.alloc (.cells #[.int .i64 0, .float .f32 0, .float .f32 0, .float .f32 0, .float .f32 0, .slice Option.none 0 0, .int .i64 0, .complex .f32 0 0, .float .f32 0, .slice Option.none 0 0, .int .i64 0, .slice Option.none 0 0] 34) = X at *
  refine (little_5 B q _ C0.out).mono ?_
  rintro e w1 ⟨m, ⟨rfl, hm1, hm5, hc, hg⟩⟩
  have C1 := Lib.hid hc
  have G1 : Hid (w.grownBy w1 (some q)) := grownBy_trans G0.out hg
  have R1 : Hid (Blk w1 w.heap.size #[.int .i64 0, .float .f32 0, .float .f32 0, .float .f32 0, .float .f32 0, .slice Option.none 0 0, .int .i64 0, .complex .f32 0 0, .float .f32 0, .slice Option.none 0 0, .int .i64 0, .slice Option.none 0 0] 34) := R0.out.grown hg (by omega)
  have q1 := hc.lt
  clear hc hg C0 G0 R0
  go_wp2_with fail
  refine (l1Below_s B q 4 _ C1.out.alloc (by omega) (by omega)).mono ?_
  rintro e w2 ⟨x, rfl, hx0, hx1, hc, hg⟩
  obtain ⟨n, rfl⟩ : ∃ n : Nat, x = n := ⟨x.toNat, by omega⟩
  have hn : n < 4 := by omega
  have HB := (Blk.new w1 #[.float .f32 1056964608, .float .f32 1065353216, .float .f32 1073741824, .float .f32 1050253722] 24).grown hg (by omega)
  have hcell : w2.cell? ⟨w1.heap.size, n, Option.none⟩ = some (.float .f32 (stepB (n + 1))) := (HB.cell n).trans (by simpa using st4 n hn)
  have hl := HB.lt
  have C2 := Lib.hid hc
  have G2 : Hid (w.grownBy w2 (some q)) := grownBy_trans (grown_alloc G1.out _) hg
  have R2 : Hid (Blk w2 w.heap.size #[.int .i64 0, .float .f32 0, .float .f32 0, .float .f32 0, .float .f32 0, .slice Option.none 0 0, .int .i64 0, .complex .f32 0 0, .float .f32 0, .slice Option.none 0 0, .int .i64 0, .slice Option.none 0 0] 34) := R1.out.alloc.grown hg (by omega)
  have s2 := hg.size
  have HST : Hid (∃ i, i < 5 ∧ stepB (n + 1) = stepB i) := ⟨n + 1, by omega, rfl⟩
  generalize stepB (n + 1) = st at *
  clear hc hg HB C1 G1 R1
  go_wp2_with fail
  have NM : NewM 32 0 m st lit0 (bare 0 m st lit0) := (fine_start hm1 hm5 HST.out).newS
  refine (NM.call _).mono ?_
  rintro e w3 ⟨rfl, hb⟩
  have C3 : Hid (Cur B w3 q) := C2.out.below hb
  have G3 : Hid (w.grownBy w3 (some q)) := grown_st' G2.out ⟨hb.os, hb.tape, hb.output, hb.size, fun i hi _ => hb.block i hi⟩ (r := Option.none) (fun x e => by cases e)
  have R3 : Hid (Blk w3 w.heap.size #[.int .i64 0, .float .f32 0, .float .f32 0, .float .f32 0, .float .f32 0, .slice Option.none 0 0, .int .i64 0, .complex .f32 0 0, .float .f32 0, .slice Option.none 0 0, .int .i64 0, .slice Option.none 0 0] 34) := R2.out.below hb
  clear hb C2 G2 R2 NM hcell hl
  have s3 := G3.out.size
  have st0 : Told (start m st) := ⟨fine_start hm1 hm5 HST.out, rfl⟩
  go_wp2_with fail
  generalize hY : w3.alloc (.cells #[.int .i64 (bare 0 (m : Int) st lit0).size, .float .f32 (bare 0 (m : Int) st lit0).step, .float .f32 (bare 0 (m : Int) st lit0).lit.r, .float .f32 (bare 0 (m : Int) st lit0).lit.g, .float .f32 (bare 0 (m : Int) st lit0).lit.b, .slice Option.none 0 0, .int .i64 (bare 0 (m : Int) st lit0).kind, .complex .f32 (bare 0 (m : Int) st lit0).g1 (bare 0 (m : Int) st lit0).g2, .float .f32 0, .slice Option.none 0 0, .int .i64 (bare 0 (m : Int) st lit0).ticks, .slice Option.none 0 0] 34) = Y
  have T0 : Shs B q w3.heap.size w.heap.size w Y (start m st) Option.none Option.none Option.none 0 0 0 := by
    rw [← hY]
    exact ⟨C3.out.alloc, grown_alloc G3.out _, Blk.new _ _ _, bare_in _ _ _ _ _, R3.out.alloc, hq, Nat.le_refl _, by omega, by have := R3.out.lt; omega, Nat.le_refl 0⟩
  have T1 := Lib.hid T0
  clear hY C3 G3 R3 T0
  have D1 := Lib.hid st0
  have L1 : Hid ((start m st).log.length ≤ 0) := Nat.le_refl 0
  have C1 : Hid (cost (start m st).log ≤ 0) := Nat.le_refl 0
  generalize w3.heap.size = P at *
  generalize w.heap.size = R at *
  clear st0 HST
  generalize start m st = S1 at *
  go_cut [5] (fun v wx => v = .pointer (some ⟨P, 0, Option.none⟩) ∧ Drn B q P R w wx 1 0)
  case first =>
    (obtain ⟨p0, p1, p2, p3, p4, p5, p6, p7, p8, p9, p10, p11⟩ := blk12 (T1.out.box))
    have lP := T1.out.box.lt
    go_region_with (first | (go_at_call 36; (with_reducible refine (l2Draw_s B q _ T1.out.drew.cur).mono ?_); rintro e w4 ⟨r, g, c, ⟨rfl, lr, lg, lb, hc, hg⟩⟩; have S4 := Lib.hid (T1.out.drew.step hc hg); obtain ⟨U, pu, NM⟩ := nextM HH.out D1.out (e := .light ⟨r, g, c⟩) ⟨lr, lg, lb⟩ (by have := C1.out; simp only [Ev.big]; omega) (by have := L1.out; omega); (obtain ⟨y0, y1, y2, y3, y4, y5, y6, y7, y8, y9, y10, y11⟩ := blk12 (S4.out.box)); have yl := S4.out.box.lt; clear hc hg) | (go_at_call 35; (refine (NM.call.call _ _ _ _ _ _ _ S4.out.inn).mono ?_); rintro e w5 ⟨a5, b5, l5, ca5, cb5, cl5, ⟨⟨rfl, hI5, hb⟩, hcp⟩⟩; have HCP := Lib.hid hcp; have HI5 := Lib.hid hI5; have HB5 := Lib.hid hb; have hB5 := S4.out.box.below hb; (obtain ⟨u0, u1, u2, u3, u4, u5, u6, u7, u8, u9, u10, u11⟩ := blk12 (hB5)); (have z0 := hB5.free 0; have z1 := hB5.free 1; have z2 := hB5.free 2; have z3 := hB5.free 3; have z4 := hB5.free 4; have z5 := hB5.free 5; have z6 := hB5.free 6; have z7 := hB5.free 7; have z8 := hB5.free 8; have z9 := hB5.free 9; have z10 := hB5.free 10; have z11 := hB5.free 11); have lP5 := hB5.lt; clear hI5 hcp))
    all_goals
      go_wp2_with fail
      go_meet
      have h1 := NM.len
      have h2 := L1.out
      have h3 := NM.cost
      have h4 := C1.out
      (try simp only [Ev.big] at h3)
      exact ⟨rfl, ⟨U, a5, b5, l5, ca5, cb5, cl5, S4.out.put HB5.out HI5.out HCP.out, NM.told, by omega, by omega, NM.lit _ rfl⟩⟩
  case rest =>
    obtain ⟨rfl, ⟨S2, a2, b2, l2, ca2, cb2, cl2, hT, hD, hL, hC, hO⟩⟩ := hcut
    have O2 := Lib.hid hO
    have T2 := Lib.hid hT
    have D2 := Lib.hid hD
    have L2 := Lib.hid hL
    have C2 := Lib.hid hC
    clear hT hD hL hC hO
    clear T1 D1 L1 C1
    go_wp2_with fail
    go_cut [5] (fun v wx => v = .pointer (some ⟨P, 0, Option.none⟩) ∧ Drn B q P R w wx 2 0)
    case first =>
      (obtain ⟨p0, p1, p2, p3, p4, p5, p6, p7, p8, p9, p10, p11⟩ := blk12 (T2.out.box))
      have lP := T2.out.box.lt
      go_region_with (first | (go_at_call 37; (with_reducible refine (l1Int_5 B q _ _ _ T2.out.alloc.drew.cur (by have := T2.out.cur.lt; omega) (Blk.new _ _ _).drew).mono ?_); rintro e w4 ⟨k, ⟨rfl, hk, hc, hg⟩⟩; have S4 := Lib.hid (T2.out.alloc.drew.step hc hg); obtain ⟨U, pu, NM⟩ := nextM HH.out D2.out (e := .mirrors k) (show k ≤ 3 by omega) (by have := C2.out; simp only [Ev.big]; omega) (by have := L2.out; omega); (obtain ⟨y0, y1, y2, y3, y4, y5, y6, y7, y8, y9, y10, y11⟩ := blk12 (S4.out.box)); have yl := S4.out.box.lt; clear hc hg) | (go_at_call 35; (refine (NM.call.call _ _ _ _ _ _ _ S4.out.inn).mono ?_); rintro e w5 ⟨a5, b5, l5, ca5, cb5, cl5, ⟨⟨rfl, hI5, hb⟩, hcp⟩⟩; have HCP := Lib.hid hcp; have HI5 := Lib.hid hI5; have HB5 := Lib.hid hb; have hB5 := S4.out.box.below hb; (obtain ⟨u0, u1, u2, u3, u4, u5, u6, u7, u8, u9, u10, u11⟩ := blk12 (hB5)); (have z0 := hB5.free 0; have z1 := hB5.free 1; have z2 := hB5.free 2; have z3 := hB5.free 3; have z4 := hB5.free 4; have z5 := hB5.free 5; have z6 := hB5.free 6; have z7 := hB5.free 7; have z8 := hB5.free 8; have z9 := hB5.free 9; have z10 := hB5.free 10; have z11 := hB5.free 11); have lP5 := hB5.lt; clear hI5 hcp))
      all_goals
        go_wp2_with fail
        go_meet
        have h1 := NM.len
        have h2 := L2.out
        have h3 := NM.cost
        have h4 := C2.out
        (try simp only [Ev.big] at h3)
        exact ⟨rfl, ⟨U, a5, b5, l5, ca5, cb5, cl5, S4.out.put HB5.out HI5.out HCP.out, NM.told, by omega, by omega, Nat.le_trans O2.out NM.ge⟩⟩
    case rest =>
      obtain ⟨rfl, hDr⟩ := hcut
      have T3 := Lib.hid hDr
      clear hDr T2 D2 L2 C2
      obtain ⟨_, _, _, _, _, _, _, hT, _⟩ := T3.out.ex
      have hcc := Lib.hid hT.cur
      go_wp2_with fail
      refine (l1Below_s B q 10 _ hT.cur (by omega) (by omega)).mono ?_
      rintro e w6 ⟨x, rfl, hx0, hx1, hc, hg⟩
      obtain ⟨n0, rfl⟩ : ∃ n : Nat, x = n := ⟨x.toNat, by omega⟩
      have hn0 : n0 ≤ 9 := by omega
      have T6 : Hid (Drn B q P R w w6 2 0) := T3.out.step hc hg
      clear hc hg hcc hT T3
      go_wp2_with fail
      go_loopw [7] (fun i wr => ∃ j : Nat, j ≤ n0 ∧ i = .int .i64 j ∧ Drn B q P R w wr (11 - j) (9 - j)) (fun i _ => (intOf i).toNat)
      case atStart => exact ⟨n0, Nat.le_refl _, rfl, T6.out.mono (by omega) (by omega)⟩
      case round =>
        obtain ⟨j, hj, rfl, hst⟩ := hrel
        clear T6
        obtain ⟨S3, a3, b3, l3, ca3, cb3, cl3, hT, hD, hL, hC, hO⟩ := hst.ex
        have T3 := Lib.hid hT
        have D3 := Lib.hid hD
        have N8 : Hid (S3.bds.length ≤ 8) := hD.fine.few
        clear hT hD hst
        by_cases hlt : 0 < j
        · have L3 : Hid (S3.log.length ≤ 10) := by show _ ≤ _; omega
          have C3 : Hid (cost S3.log ≤ 8) := by show _ ≤ _; omega
          have hk0 : (0 : Int) < (j : Int) := by omega
          go_upto_region 7 with fail
          (obtain ⟨p0, p1, p2, p3, p4, p5, p6, p7, p8, p9, p10, p11⟩ := blk12 (T3.out.box))
          have lP := T3.out.box.lt
          go_region_with (first | (go_at_call 15; (with_reducible refine (l6Event_s B q _ T3.out.drew.cur _ _ _ _ N8.out _ _ _ _ _ _).mono ?_); rintro e w4 ⟨x, ⟨rfl, hx, hc, hg⟩⟩; have S4 := Lib.hid (T3.out.drew.step hc hg); obtain ⟨U, pu, NM⟩ := nextM HH.out D3.out (e := x) hx (by have := C3.out; have := x.big_le; omega) (by have := L3.out; omega); (obtain ⟨y0, y1, y2, y3, y4, y5, y6, y7, y8, y9, y10, y11⟩ := blk12 (S4.out.box)); have yl := S4.out.box.lt; clear hc hg) | (go_at_call 35; (refine (NM.call.call _ _ _ _ _ _ _ S4.out.inn).mono ?_); rintro e w5 ⟨a5, b5, l5, ca5, cb5, cl5, ⟨⟨rfl, hI5, hb⟩, hcp⟩⟩; have HCP := Lib.hid hcp; have HI5 := Lib.hid hI5; have HB5 := Lib.hid hb; have hB5 := S4.out.box.below hb; (obtain ⟨u0, u1, u2, u3, u4, u5, u6, u7, u8, u9, u10, u11⟩ := blk12 (hB5)); (have z0 := hB5.free 0; have z1 := hB5.free 1; have z2 := hB5.free 2; have z3 := hB5.free 3; have z4 := hB5.free 4; have z5 := hB5.free 5; have z6 := hB5.free 6; have z7 := hB5.free 7; have z8 := hB5.free 8; have z9 := hB5.free 9; have z10 := hB5.free 10; have z11 := hB5.free 11); have lP5 := hB5.lt; clear hI5 hcp))
          all_goals
            have h1 := NM.len
            have h2 := L3.out
            have h3 := NM.cost
            have h4 := C3.out
            have h5 := x.big_le
            have TD : Hid (Drn B q P R w ((((((((((((w5.setCell ⟨P, 0, Option.none⟩ (.int .i64 U.w.size)).setCell ⟨P, 1, Option.none⟩ (.float .f32 U.w.step)).setCell ⟨P, 2, Option.none⟩ (.float .f32 U.w.lit.r)).setCell ⟨P, 3, Option.none⟩ (.float .f32 U.w.lit.g)).setCell ⟨P, 4, Option.none⟩ (.float .f32 U.w.lit.b)).setCell ⟨P, 5, Option.none⟩ (.slice a5 U.bds.length ca5)).setCell ⟨P, 6, Option.none⟩ (.int .i64 U.w.kind)).setCell ⟨P, 7, Option.none⟩ (.complex .f32 U.w.g1 U.w.g2)).setCell ⟨P, 8, Option.none⟩ (.float .f32 0)).setCell ⟨P, 9, Option.none⟩ (.slice b5 U.bds.length cb5)).setCell ⟨P, 10, Option.none⟩ (.int .i64 U.w.ticks)).setCell ⟨P, 11, Option.none⟩ (.slice l5 U.log.length cl5)) (11 - (j - 1)) (9 - (j - 1))) := ⟨U, a5, b5, l5, ca5, cb5, cl5, S4.out.put HB5.out HI5.out HCP.out, NM.told, by omega, by omega, Nat.le_trans hO NM.ge⟩
            clear hB5 u0 u1 u2 u3 u4 u5 u6 u7 u8 u9 u10 u11 z0 z1 z2 z3 z4 z5 z6 z7 z8 z9 z10 z11 y0 y1 y2 y3 y4 y5 y6 y7 y8 y9 y10 y11 yl p0 p1 p2 p3 p4 p5 p6 p7 p8 p9 p10 p11 lP S4 NM HB5 HI5 T3 hb
            go_wp2_with fail
            go_roundw
            case rel => exact ⟨j - 1, by omega, by first | go_num | (congr 1; omega), TD.out⟩
            case measure => simp [intOf]; omega
        · have hj0 : j = 0 := by omega
          subst hj0
          (obtain ⟨p0, p1, p2, p3, p4, p5, p6, p7, p8, p9, p10, p11⟩ := blk12 (T3.out.box))
          (obtain ⟨q0, q1, q2, q3, q4, q5, q6, q7, q8, q9, q10, q11⟩ := blk12 (T3.out.res))
          (have h0 := T3.out.res.free 0; have h1 := T3.out.res.free 1; have h2 := T3.out.res.free 2; have h3 := T3.out.res.free 3; have h4 := T3.out.res.free 4; have h5 := T3.out.res.free 5; have h6 := T3.out.res.free 6; have h7 := T3.out.res.free 7; have h8 := T3.out.res.free 8; have h9 := T3.out.res.free 9; have h10 := T3.out.res.free 10; have h11 := T3.out.res.free 11)
          have lP := T3.out.box.lt
          have lR := T3.out.res.lt
          have P5 := Lib.hid (put_z (t := S3.w) (x' := .slice a3 S3.bds.length ca3) (y' := .slice b3 S3.bds.length cb3) (z' := .slice l3 S3.log.length cl3) T3.out.res)
          go_wp2_with fail
          (obtain ⟨e0, e1, e2, e3, e4, e5, e6, e7, e8, e9, e10, e11⟩ := blk12 (P5.out))
          have hRg := T3.out.Rge
          have hql := T3.out.qlt
          refine bodyPost_ret (v := .agg #[.int .i64 S3.w.size, .float .f32 S3.w.step, .float .f32 S3.w.lit.r, .float .f32 S3.w.lit.g, .float .f32 S3.w.lit.b, .slice a3 S3.bds.length ca3, .int .i64 S3.w.kind, .complex .f32 S3.w.g1 S3.w.g2, .float .f32 0, .slice b3 S3.bds.length cb3, .int .i64 S3.w.ticks, .slice l3 S3.log.length cl3]) (by simp [results, Tryz.results14, go_sem, e0, e1, e2, e3, e4, e5, e6, e7, e8, e9, e10, e11]) rfl ⟨S3, a3, b3, l3, ca3, cb3, cl3, ⟨rfl, D3.out, by omega, by omega, T3.out.inn.grownAt grown12 q1, cur12 T3.out.cur (by omega), new12 T3.out.gr hRg, T3.out.cap, hO⟩⟩
end Go.Proofs.YtfdgijmmgllmgaaGreatDoor
