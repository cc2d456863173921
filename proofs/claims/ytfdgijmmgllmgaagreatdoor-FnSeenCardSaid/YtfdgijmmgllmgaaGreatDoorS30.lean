/-
  Texts Wi Wj Wk Wl, joined.
-/
import Derived.Test.YtfdgijmmgllmgaaGreatDoorS29
import Derived.Deep.RegionHeld3
namespace Go.Proofs.YtfdgijmmgllmgaaGreatDoor
open Go.ChangeShapes Go.WideShapes Go.ChangeAt Go.RowKit Go.Joins
set_option linter.unusedSimpArgs false
set_option linter.unusedVariables false
set_option maxRecDepth 100000
attribute [local go_sem] store_f
open Ieee Go.Lib
attribute [local go_sem] store_c
structure WaitOut (w : World) (r : Ending) (w' : World) (t : Sho) (N M K : Nat) (a b l : Option Addr) (ca cb cl : Nat) : Prop where
  ret : r = .returned (.tuple #[.agg #[.int .i64 t.size, .float .f32 t.step, .float .f32 t.lit.r, .float .f32 t.lit.g, .float .f32 t.lit.b, .slice a N ca, .int .i64 t.kind, .complex .f32 t.g1 t.g2, .float .f32 0, .slice b M cb, .int .i64 t.ticks, .slice l K cl], .bool true])
  bd : LiesZ w' b (bwCells t.bds)
  below : Below w.heap.size w w'
structure WaitS (F : FuncId) (s t : Sho) (N M K n : Nat) : Prop where
  call : ∀ (w : World) (a b l : Option Addr) (ca cb cl : Nat), LiesZ w b (bwCells s.bds) → Calls Tryz.prog F #[.agg #[.int .i64 s.size, .float .f32 s.step, .float .f32 s.lit.r, .float .f32 s.lit.g, .float .f32 s.lit.b, .slice a N ca, .int .i64 s.kind, .complex .f32 s.g1 s.g2, .float .f32 0, .slice b M cb, .int .i64 s.ticks, .slice l K cl], .int .i64 n] w fun r w' => ∃ b' cb', WaitOut w r w' t N M K a b' l ca cb' cl
def Sho.at_ (s : Sho) (L : Nat → List Bw) (j : Nat) : Sho := { s with bds := L j, ticks := s.ticks + j }
structure WaitSt (w : World) (s : Sho) (N M K : Nat) (a l : Option Addr) (ca cl : Nat) (wr : World) : Prop where
  run : ∃ (b : Option Addr) (cb : Nat), Blk wr w.heap.size #[.int .i64 s.size, .float .f32 s.step, .float .f32 s.lit.r, .float .f32 s.lit.g, .float .f32 s.lit.b, .slice a N ca, .int .i64 s.kind, .complex .f32 s.g1 s.g2, .float .f32 0, .slice b M cb, .int .i64 s.ticks, .slice l K cl] 34 ∧ LiesZ wr b (bwCells s.bds)
  res : Blk wr (w.heap.size + 1) #[.int .i64 0, .float .f32 0, .float .f32 0, .float .f32 0, .float .f32 0, .slice Option.none 0 0, .int .i64 0, .complex .f32 0 0, .float .f32 0, .slice Option.none 0 0, .int .i64 0, .slice Option.none 0 0] 34
  below : Below w.heap.size w wr
set_option maxHeartbeats 32000000 in
theorem waitS {s : Sho} {L : Nat → List Bw} {N M K n : Nat} (h0 : L 0 = s.bds) (hn : n ≤ 64) (t0 : 0 ≤ s.ticks) (t2 : s.ticks ≤ 300) (H : ∀ j, j < n → StepTuM 138 s.kind s.g1 s.g2 0 M (L j) (L (j + 1))) : WaitS 106 s (s.at_ L n) N M K n := ⟨fun w a b l ca cb cl hr => by
  have HH := Lib.hid H
  have e0 : s.at_ L 0 = s := by unfold Sho.at_; rw [h0]; simp
  have ST : Hid (WaitSt w (s.at_ L 0) N M K a l ca cl ((w.alloc (.cells #[.int .i64 s.size, .float .f32 s.step, .float .f32 s.lit.r, .float .f32 s.lit.g, .float .f32 s.lit.b, .slice a N ca, .int .i64 s.kind, .complex .f32 s.g1 s.g2, .float .f32 0, .slice b M cb, .int .i64 s.ticks, .slice l K cl] 34)).alloc (.cells #[.int .i64 0, .float .f32 0, .float .f32 0, .float .f32 0, .float .f32 0, .slice Option.none 0 0, .int .i64 0, .complex .f32 0 0, .float .f32 0, .slice Option.none 0 0, .int .i64 0, .slice Option.none 0 0] 34))) := by
    rw [e0]
    exact ⟨⟨b, cb, (Blk.new _ _ _).alloc, hr.alloc.alloc⟩, Blk.newAt (by simp), ((Below.refl _ _).alloc (Nat.le_refl _) _).alloc (by simp) _⟩
  clear hr H h0 e0
  go_enter Tryz.func106, Tryz.ntmps106
  go_wp2_with fail
  generalize (w.alloc (.cells #[.int .i64 s.size, .float .f32 s.step, .float .f32 s.lit.r, .float .f32 s.lit.g, .float .f32 s.lit.b, .slice a N ca, .int .i64 s.kind, .complex .f32 s.g1 s.g2, .float .f32 0, .slice b M cb, .int .i64 s.ticks, .slice l K cl] 34)).alloc (.cells #[.int .i64 0, .float .f32 0, .float .f32 0, .float .f32 0, .float .f32 0, .slice Option.none 0 0, .int .i64 0, .complex .f32 0 0, .float .f32 0, .slice Option.none 0 0, .int .i64 0, .slice Option.none 0 0] 34) = Z at *
  go_loopw [6] (fun i wr => ∃ j : Nat, j ≤ n ∧ i = .int .i64 j ∧ WaitSt w (s.at_ L j) N M K a l ca cl wr) (fun i _ => n - (intOf i).toNat)
  case atStart => exact ⟨0, by omega, rfl, ST.out⟩
  case round =>
    obtain ⟨j, hj, rfl, hst⟩ := hrel
    clear ST
    obtain ⟨⟨b3, cb3, hP, hI⟩, hres, hbel⟩ := hst
    have P3 := Lib.hid hP
    have I3 := Lib.hid hI
    have R3 := Lib.hid hres
    have G3 := Lib.hid hbel
    have lP := hP.lt
    have lR := hres.lt
    simp only [Sho.at_] at hP
    (obtain ⟨p0, p1, p2, p3, p4, p5, p6, p7, p8, p9, p10, p11⟩ := blk12 (hP))
    clear hP hI hres hbel
    by_cases hlt : j < n
    · have D := HH.out j hlt
      go_wp2_with fail
      refine (D.call _ _ _ (bwIn_of_lies I3.out)).mono ?_
      rintro r w4 ⟨b4, cb4, ⟨rfl, hI4, hb⟩⟩
      have P4 := P3.out.below hb
      have R4 := Lib.hid (R3.out.below hb)
      have I4 := Lib.hid hI4
      have G4 : Hid (Below w.heap.size w w4) := G3.out.trans (hb.mono G3.out.size)
      clear hb hI4 P3 R3 I3 G3 D p0 p1 p2 p3 p4 p5 p6 p7 p8 p9 p10 p11 lP lR
      have PA := P4.alloc (o := .cells #[.int .i64 s.kind, .complex .f32 s.g1 s.g2, .float .f32 0, .slice b4 M cb4] 31)
      have P5 := Lib.hid PA
      simp only [Sho.at_] at PA
      (obtain ⟨p0, p1, p2, p3, p4, p5, p6, p7, p8, p9, p10, p11⟩ := blk12 (PA))
      (have f0 := PA.free 0; have f1 := PA.free 1; have f2 := PA.free 2; have f3 := PA.free 3; have f4 := PA.free 4; have f5 := PA.free 5; have f6 := PA.free 6; have f7 := PA.free 7; have f8 := PA.free 8; have f9 := PA.free 9; have f10 := PA.free 10; have f11 := PA.free 11)
      have lP := PA.lt
      clear PA P4
      go_wp2_with fail
      go_roundw
      case rel =>
        refine ⟨j + 1, by omega, by go_num, ?_⟩
        rw [show s.at_ L (j + 1) = { s with bds := L (j + 1), ticks := s.ticks + ↑j + 1 } from by unfold Sho.at_; congr 1; omega]
        have hg := grownBy_set (o := 10) (v := .int .i64 (s.ticks + ↑j + 1)) (grownBy_set (o := 9) (v := .slice b4 M cb4) (grownBy_set (o := 8) (v := .float .f32 0) (grownBy_set (o := 7) (v := .complex .f32 s.g1 s.g2) (grownBy_set (o := 6) (v := .int .i64 s.kind) (grownBy_refl (w4.alloc (.cells #[.int .i64 s.kind, .complex .f32 s.g1 s.g2, .float .f32 0, .slice b4 M cb4] 31)) w.heap.size)))))
        have RS := ((((P5.out.set (i := 6) (v := .int .i64 s.kind)).set (i := 7) (v := .complex .f32 s.g1 s.g2)).set (i := 8) (v := .float .f32 0)).set (i := 9) (v := .slice b4 M cb4)).set (i := 10) (v := .int .i64 (s.ticks + ↑j + 1))
        simp only [List.setIfInBounds_toArray, List.set_cons_zero, List.set_cons_succ, Sho.at_] at RS
        refine ⟨⟨b4, cb4, RS, (lies_of_bwIn I4.out).alloc.grownAt hg p1 (fun h0 => ?_)⟩, R4.out.alloc.grown hg (by omega), ?_⟩
        · obtain ⟨u, e, hu⟩ := bw_at1 _ h0; exact ⟨u, e, hu _⟩
        · exact (((((G4.out.alloc G4.out.size _).setCell (by dsimp only; omega) _).setCell (by dsimp only; omega) _).setCell (by dsimp only; omega) _).setCell (by dsimp only; omega) _).setCell (by dsimp only; omega) _
      case measure => simp [intOf]; omega
    · have hjn : j = n := by omega
      subst hjn
      have R4 := R3.out
      (obtain ⟨q0, q1, q2, q3, q4, q5, q6, q7, q8, q9, q10, q11⟩ := blk12 (R4))
      (have h0 := R4.free 0; have h1 := R4.free 1; have h2 := R4.free 2; have h3 := R4.free 3; have h4 := R4.free 4; have h5 := R4.free 5; have h6 := R4.free 6; have h7 := R4.free 7; have h8 := R4.free 8; have h9 := R4.free 9; have h10 := R4.free 10; have h11 := R4.free 11)
      have P5 := Lib.hid (put_z (t := s.at_ L j) (x' := .slice a N ca) (y' := .slice b3 M cb3) (z' := .slice l K cl) R4)
      clear R4
      simp only [Sho.at_] at P5
      go_wp2_with fail
      (obtain ⟨e0, e1, e2, e3, e4, e5, e6, e7, e8, e9, e10, e11⟩ := blk12 (P5.out))
      refine bodyPost_ret (v := .tuple #[.agg #[.int .i64 (s.at_ L j).size, .float .f32 (s.at_ L j).step, .float .f32 (s.at_ L j).lit.r, .float .f32 (s.at_ L j).lit.g, .float .f32 (s.at_ L j).lit.b, .slice a N ca, .int .i64 (s.at_ L j).kind, .complex .f32 (s.at_ L j).g1 (s.at_ L j).g2, .float .f32 0, .slice b3 M cb3, .int .i64 (s.at_ L j).ticks, .slice l K cl], .bool true]) (by simp [results, Tryz.results106, go_sem, Sho.at_, e0, e1, e2, e3, e4, e5, e6, e7, e8, e9, e10, e11]) rfl ⟨b3, cb3, ⟨rfl, I3.out.grownAt grown12 q1 (fun h0 => ?_), ?_⟩⟩
      · obtain ⟨u, e, hu⟩ := bw_at1 _ h0; exact ⟨u, e, hu _⟩
      · exact below12 G3.out (by omega)⟩
end Go.Proofs.YtfdgijmmgllmgaaGreatDoor
namespace Go.Proofs.YtfdgijmmgllmgaaGreatDoor
open Go.ChangeShapes Go.WideShapes Go.ChangeAt Go.RowKit Go.Joins
set_option linter.unusedSimpArgs false
set_option linter.unusedVariables false
set_option maxRecDepth 100000
attribute [local go_sem] store_f
open Ieee Go.Lib
attribute [local go_sem] store_c
theorem bd_apart {W : World} {B : Nat} {K cl : Nat} {b l : Option Addr} {L : List Bw} {E : List Evw} (hb : LiesZ W b (bwCells L)) (hl : W.ownsRow B 38 13 (.slice l K cl) K (evCells E)) (hE : E.length = K) (hK : 0 < K ∨ L = []) : ∀ g, l = some ⟨g, 0, Option.none⟩ → b = some ⟨g, 0, Option.none⟩ → L = [] := fun g e1 e2 => by
  subst e1
  subst e2
  rcases hK with hK | hK
  · rcases hb with h | ⟨g', e, h⟩
    · exact flat_nil (f := Bw.cells) (m := 2) (by omega) (fun _ => rfl) h
    · cases e
      cases L with
      | nil => rfl
      | cons x L =>
        exfalso
        have h1 := h 0 (.complex .f32 x.a1 x.a2) rfl
        cases E with
        | nil => simp at hE; omega
        | cons y E =>
          have h2 := hl.cellAt 0 (by omega)
          rw [Nat.zero_add] at h1
          rw [h1] at h2
          have h3 : (evCells (y :: E))[0]? = some (.int .i64 y.kind) := rfl
          rw [h3] at h2
          cases h2
  · exact hK
set_option maxHeartbeats 32000000 in
theorem doS_wait {s : Sho} {L : Nat → List Bw} {N M K n : Nat} (Wt : WaitS 106 s (s.at_ L n) N M K n) (hE : s.log.length = K) (hK : 0 < K ∨ L n = []) : DoS 69 s N M K ⟨7, n, 0, 0, shd0, lit0⟩ (s.at_ L n) N M true := ⟨fun w B a b l ca cb cl hr hB => by
  have D0 := Lib.hid (DoBx.start w B s N M K ⟨7, n, 0, 0, shd0, lit0⟩ a b l ca cb cl hr hB)
  clear hr
  go_enter Tryz.func69, Tryz.ntmps69
  go_wp2_with fail
  generalize ((w.alloc (.cells #[.int .i64 s.size, .float .f32 s.step, .float .f32 s.lit.r, .float .f32 s.lit.g, .float .f32 s.lit.b, .slice a N ca, .int .i64 s.kind, .complex .f32 s.g1 s.g2, .float .f32 0, .slice b M cb, .int .i64 s.ticks, .slice l K cl] 34)).alloc (.cells #[.int .i64 (⟨7, n, 0, 0, shd0, lit0⟩ : Evw).kind, .int .i64 (⟨7, n, 0, 0, shd0, lit0⟩ : Evw).n, .complex .f32 (⟨7, n, 0, 0, shd0, lit0⟩ : Evw).z1 (⟨7, n, 0, 0, shd0, lit0⟩ : Evw).z2, .complex .f32 (⟨7, n, 0, 0, shd0, lit0⟩ : Evw).s.a1 (⟨7, n, 0, 0, shd0, lit0⟩ : Evw).s.a2, .complex .f32 (⟨7, n, 0, 0, shd0, lit0⟩ : Evw).s.b1 (⟨7, n, 0, 0, shd0, lit0⟩ : Evw).s.b2, .complex .f32 (⟨7, n, 0, 0, shd0, lit0⟩ : Evw).s.c1 (⟨7, n, 0, 0, shd0, lit0⟩ : Evw).s.c2, .float .f32 (⟨7, n, 0, 0, shd0, lit0⟩ : Evw).s.r, .float .f32 (⟨7, n, 0, 0, shd0, lit0⟩ : Evw).s.g, .float .f32 (⟨7, n, 0, 0, shd0, lit0⟩ : Evw).s.b, .float .f32 (⟨7, n, 0, 0, shd0, lit0⟩ : Evw).s.k, .float .f32 (⟨7, n, 0, 0, shd0, lit0⟩ : Evw).l.r, .float .f32 (⟨7, n, 0, 0, shd0, lit0⟩ : Evw).l.g, .float .f32 (⟨7, n, 0, 0, shd0, lit0⟩ : Evw).l.b] 38)).alloc (.cells #[.int .i64 0, .float .f32 0, .float .f32 0, .float .f32 0, .float .f32 0, .slice Option.none 0 0, .int .i64 0, .complex .f32 0 0, .float .f32 0, .slice Option.none 0 0, .int .i64 0, .slice Option.none 0 0] 34) = X at *
  refine (Wt.call _ _ _ _ _ _ _ D0.out.own.in_.bd).mono ?_
  rintro r w1 ⟨b1, cb1, ⟨rfl, hbd, hb⟩⟩
  have Z1 := D0.out.z.below hb
  have S1 := Lib.hid (ownsBelow hb D0.out.own.sh)
  have L1 := Lib.hid (ownsBelow hb D0.out.own.lg)
  have I1 := Lib.hid hbd
  have sX := D0.out.size
  have s1 := hb.size
  have G1 : Hid (Below B w w1) := D0.out.below.trans (hb.mono (by omega))
  have K1 : Hid (∀ P cs, Blk w P cs 34 → Blk w1 P cs 34) := fun P cs h' => (D0.out.keep P cs h').below hb
  clear hb hbd D0 Wt
  have IB := Lib.hid (bd_apart I1.out L1.out hE hK)
  (obtain ⟨q0, q1, q2, q3, q4, q5, q6, q7, q8, q9, q10, q11⟩ := blk12 (Z1))
  (have h0 := Z1.free 0; have h1 := Z1.free 1; have h2 := Z1.free 2; have h3 := Z1.free 3; have h4 := Z1.free 4; have h5 := Z1.free 5; have h6 := Z1.free 6; have h7 := Z1.free 7; have h8 := Z1.free 8; have h9 := Z1.free 9; have h10 := Z1.free 10; have h11 := Z1.free 11)
  have l8 := Z1.lt
  have P5 := Lib.hid (put_z (t := s.at_ L n) (x' := .slice a N ca) (y' := .slice b1 M cb1) (z' := .slice l K cl) Z1)
  have OS := Lib.hid (owns_other (grown12 (W := w1) (P := w.heap.size + 1 + 1) (u0 := .int .i64 (s.at_ L n).size) (u1 := .float .f32 (s.at_ L n).step) (u2 := .float .f32 (s.at_ L n).lit.r) (u3 := .float .f32 (s.at_ L n).lit.g) (u4 := .float .f32 (s.at_ L n).lit.b) (u5 := .slice a N ca) (u6 := .int .i64 (s.at_ L n).kind) (u7 := .complex .f32 (s.at_ L n).g1 (s.at_ L n).g2) (u8 := .float .f32 0) (u9 := .slice b1 M cb1) (u10 := .int .i64 (s.at_ L n).ticks) (u11 := .slice l K cl)) S1.out (owns_blk S1.out Z1 (by decide)))
  have OL := Lib.hid (owns_other (grown12 (W := w1) (P := w.heap.size + 1 + 1) (u0 := .int .i64 (s.at_ L n).size) (u1 := .float .f32 (s.at_ L n).step) (u2 := .float .f32 (s.at_ L n).lit.r) (u3 := .float .f32 (s.at_ L n).lit.g) (u4 := .float .f32 (s.at_ L n).lit.b) (u5 := .slice a N ca) (u6 := .int .i64 (s.at_ L n).kind) (u7 := .complex .f32 (s.at_ L n).g1 (s.at_ L n).g2) (u8 := .float .f32 0) (u9 := .slice b1 M cb1) (u10 := .int .i64 (s.at_ L n).ticks) (u11 := .slice l K cl)) L1.out (owns_blk L1.out Z1 (by decide)))
  clear Z1
  go_wp2_with fail
  (obtain ⟨e0, e1, e2, e3, e4, e5, e6, e7, e8, e9, e10, e11⟩ := blk12 (P5.out))
  refine bodyPost_ret (v := .tuple #[.agg #[.int .i64 (s.at_ L n).size, .float .f32 (s.at_ L n).step, .float .f32 (s.at_ L n).lit.r, .float .f32 (s.at_ L n).lit.g, .float .f32 (s.at_ L n).lit.b, .slice a N ca, .int .i64 (s.at_ L n).kind, .complex .f32 (s.at_ L n).g1 (s.at_ L n).g2, .float .f32 0, .slice b1 M cb1, .int .i64 (s.at_ L n).ticks, .slice l K cl], .bool true]) (by simp [results, Tryz.results69, go_sem, e0, e1, e2, e3, e4, e5, e6, e7, e8, e9, e10, e11]) rfl ⟨a, b1, ca, cb1, ⟨rfl, OS.out, I1.out.grownAt grown12 q1 (fun h0 => ?_), IB.out, OL.out, below12 G1.out (by omega), by simp; omega, fun P cs h' => (K1.out P cs h').grown grown12 (by have := h'.lt; omega)⟩⟩
  obtain ⟨u, e, hu⟩ := bw_at1 _ h0; exact ⟨u, e, hu _⟩⟩
end Go.Proofs.YtfdgijmmgllmgaaGreatDoor
namespace Go.Proofs.YtfdgijmmgllmgaaGreatDoor
open Go.ChangeShapes Go.WideShapes Go.ChangeAt Go.RowKit Go.Joins
set_option linter.unusedSimpArgs false
set_option linter.unusedVariables false
set_option maxRecDepth 100000
attribute [local go_sem] store_f
open Ieee Go.Lib
attribute [local go_sem] store_c
structure RefoldS (k : Int) (b c : Bw) (t : Int) (f : Bool) : Prop where
  fold : FoldMS k b.a1 b.a2 c.a1 c.a2 t f
  act : ActS' t f b.v1 b.v2 c.v1 c.v2
structure MirSt (w : World) (B : Nat) (n : Int) (g1 g2 M : Nat) (L : List Bw) (b : Option Addr) (cb : Nat) (wr : World) : Prop where
  x : Blk wr w.heap.size #[.int .i64 n, .complex .f32 g1 g2, .float .f32 0, .slice b M cb] 31
  z : Blk wr (w.heap.size + 1) #[.int .i64 0, .complex .f32 0 0, .float .f32 0, .slice Option.none 0 0] 31
  own : wr.ownsRow B 74 2 (.slice b M cb) M (bwCells L)
  keep : ∀ P, P < w.heap.size → b ≠ some ⟨P, 0, Option.none⟩ → wr.heap[P]? = w.heap[P]?
  below : Below B w wr
  size : w.heap.size + 2 ≤ wr.heap.size
theorem MirSt.mono {w W W1 : World} {B : Nat} {n : Int} {g1 g2 M : Nat} {L : List Bw} {b : Option Addr} {cb : Nat} (h : MirSt w B n g1 g2 M L b cb W) (hB : B ≤ w.heap.size) (hb : Below W.heap.size W W1) : MirSt w B n g1 g2 M L b cb W1 :=
  ⟨h.x.below hb, h.z.below hb, ownsBelow hb h.own, fun P hP hne => (hb.block P (by have := h.size; omega)).trans (h.keep P hP hne), h.below.trans (hb.mono (by have := h.size; omega)), Nat.le_trans h.size hb.size⟩
theorem MirSt.alloc {w W : World} {B : Nat} {n : Int} {g1 g2 M : Nat} {L : List Bw} {b : Option Addr} {cb : Nat} {o : Obj} (h : MirSt w B n g1 g2 M L b cb W) (hB : B ≤ w.heap.size) : MirSt w B n g1 g2 M L b cb (W.alloc o) := h.mono hB ((Below.refl _ _).alloc (Nat.le_refl _) _)
theorem MirSt.put {w W : World} {B : Nat} {n : Int} {g1 g2 M g i : Nat} {L : List Bw} {cb : Nat} {v : Value} (h : MirSt w B n g1 g2 M L (some ⟨g, 0, Option.none⟩) cb W) (hB : B ≤ w.heap.size) (hM : 0 < M) (hi : i < (bwCells L).length) :
    Blk (W.setCell ⟨g, i, Option.none⟩ v) w.heap.size #[.int .i64 n, .complex .f32 g1 g2, .float .f32 0, .slice (some ⟨g, 0, Option.none⟩) M cb] 31 ∧ Blk (W.setCell ⟨g, i, Option.none⟩ v) (w.heap.size + 1) #[.int .i64 0, .complex .f32 0 0, .float .f32 0, .slice Option.none 0 0] 31 ∧ (W.setCell ⟨g, i, Option.none⟩ v).ownsRow B 74 2 (.slice (some ⟨g, 0, Option.none⟩) M cb) M ((bwCells L).set i v) ∧ (∀ P, P < w.heap.size → (some ⟨g, 0, Option.none⟩ : Option Addr) ≠ some ⟨P, 0, Option.none⟩ → (W.setCell ⟨g, i, Option.none⟩ v).heap[P]? = w.heap[P]?) ∧ Below B w (W.setCell ⟨g, i, Option.none⟩ v) := by
  obtain ⟨g', HG⟩ := rowOf h.own hM
  have hgg : g = g' := by have := HG.at_; simpa using this
  subst hgg
  obtain ⟨cs, hgb⟩ := HG.blk
  have ne : ∀ {P : Nat} {T : TypeId} {c2 : Array Value}, Blk W P c2 T → T ≠ 74 → g ≠ P := fun hP hT e => by
    subst e
    have := hgb.symm.trans hP
    simp at this
    exact hT this.2.symm
  refine ⟨h.x.other (by dsimp only; exact fun e => ne h.x (by decide) e.symm), h.z.other (by dsimp only; exact fun e => ne h.z (by decide) e.symm), owns_put h.own hi, fun P hP hne => ?_, h.below.setCell HG.ge _⟩
  rw [← h.keep P hP hne]
  exact Below.heap_setCell _ _ _ _ (fun e => hne (by rw [e]))
theorem MirSt.look {w W : World} {B : Nat} {n : Int} {g1 g2 M g k : Nat} {L : List Bw} {cb : Nat} (h : MirSt w B n g1 g2 M L (some ⟨g, 0, Option.none⟩) cb W) (hk : k < M) (hl : L.length = M) :
    W.frozen? ⟨g, k * 2, Option.none⟩ = false ∧ W.frozen? ⟨g, k * 2 + 1, Option.none⟩ = false ∧ W.cell? ⟨g, k * 2, Option.none⟩ = some (.complex .f32 (L.getD k default).a1 (L.getD k default).a2) ∧ W.cell? ⟨g, k * 2 + 1, Option.none⟩ = some (.complex .f32 (L.getD k default).v1 (L.getD k default).v2) := by
  obtain ⟨g', HG⟩ := rowOf h.own (by omega)
  have hgg : g = g' := by have := HG.at_; simpa using this
  subst hgg
  obtain ⟨c0, c1⟩ := (bwRow_of_lie HG.lie) k (by omega)
  exact ⟨HG.free _, HG.free _, c0, c1⟩
structure MirOut (w : World) (B : Nat) (r : Ending) (w' : World) (n : Int) (g1 g2 M : Nat) (R : List Bw) (b : Option Addr) (cb : Nat) : Prop where
  ret : r = .returned (.agg #[.int .i64 n, .complex .f32 g1 g2, .float .f32 0, .slice b M cb])
  own : w'.ownsRow B 74 2 (.slice b M cb) M (bwCells R)
  keep : ∀ P, P < w.heap.size → b ≠ some ⟨P, 0, Option.none⟩ → w'.heap[P]? = w.heap[P]?
  below : Below B w w'
  size : w.heap.size ≤ w'.heap.size
structure MirS (F : FuncId) (k0 n : Int) (g1 g2 M : Nat) (L R : List Bw) : Prop where
  call : ∀ (w : World) (B : Nat) (b : Option Addr) (cb : Nat), w.ownsRow B 74 2 (.slice b M cb) M (bwCells L) → B ≤ w.heap.size → Calls Tryz.prog F #[.agg #[.int .i64 k0, .complex .f32 g1 g2, .float .f32 0, .slice b M cb], .int .i64 n] w fun r w' => MirOut w B r w' n g1 g2 M R b cb
set_option maxHeartbeats 32000000 in
theorem mirS {k0 n : Int} {g1 g2 M : Nat} {L R : List Bw} (hm : L.length = M) (hR : R.length = M) (hM : M ≤ 8) (HF : ∀ k, k < M → ∃ t f, RefoldS n (L.getD k default) (R.getD k default) t f) : MirS 105 k0 n g1 g2 M L R := ⟨fun w B b cb hr hB => by
  have ST : Hid (MirSt w B n g1 g2 M (mixL L R 0) b cb ((w.alloc (.cells #[.int .i64 n, .complex .f32 g1 g2, .float .f32 0, .slice b M cb] 31)).alloc (.cells #[.int .i64 0, .complex .f32 0 0, .float .f32 0, .slice Option.none 0 0] 31))) := by
    rw [mixL_0]
    refine ⟨(Blk.new _ _ _).alloc, Blk.newAt (by simp), (hr.alloc _).alloc _, fun P hP _ => ?_, ((Below.refl _ _).alloc hB _).alloc (by simp; omega) _, by simp⟩
    exact (((Below.refl w.heap.size w).alloc (Nat.le_refl _) _).alloc (by simp) _).block P hP
  have HFX := Lib.hid HF
  have HML := Lib.hid hm
  have HRL := Lib.hid hR
  clear hr HF hm hR
  go_enter Tryz.func105, Tryz.ntmps105
  go_wp2_with fail
  generalize (w.alloc (.cells #[.int .i64 n, .complex .f32 g1 g2, .float .f32 0, .slice b M cb] 31)).alloc (.cells #[.int .i64 0, .complex .f32 0 0, .float .f32 0, .slice Option.none 0 0] 31) = Z at *
  go_loopw [15] (fun i wr => ∃ k : Nat, k ≤ M ∧ i = .int .i64 k ∧ MirSt w B n g1 g2 M (mixL L R k) b cb wr) (fun i _ => M - (intOf i).toNat)
  case atStart => exact ⟨0, by omega, rfl, ST.out⟩
  case round =>
    obtain ⟨k, hk, rfl, hst⟩ := hrel
    clear ST
    have S0 := Lib.hid hst
    clear hst
    have sz := S0.out.size
    by_cases hlt : k < M
    · obtain ⟨g, HG⟩ := rowOf S0.out.own (by omega)
      obtain rfl := HG.at_
      have hgl := HG.lt
      have hgx : g ≠ w.heap.size := fun e => by
        obtain ⟨cs, h1⟩ := HG.blk
        have h2 := S0.out.x
        rw [← e] at h2
        have := h1.symm.trans h2
        simp at this
      have hml : (mixL L R k).length = M := by rw [mixL_len (by rw [HRL.out, HML.out]) (by rw [HML.out]; omega), HML.out]
      have c01 := (bwRow_of_lie HG.lie) k (by omega)
      rw [mixL_get (by rw [HRL.out, HML.out]) (by rw [HML.out]; omega)] at c01
      obtain ⟨c0, c1⟩ := c01
      have HST : Hid (mixL L R (k + 1) = (mixL L R k).set k (R.getD k default)) := mixL_step (by rw [HRL.out, HML.out]) (by rw [HML.out]; omega)
      obtain ⟨t, f, RF⟩ := HFX.out k hlt
      have FO := RF.fold
      have AC := RF.act
      generalize L.getD k default = bd at FO AC c0 c1
      generalize R.getD k default = rd at FO AC HST
      have hk0 : (0 : Int) ≤ (k : Int) := by omega
      have hk1 : (k : Int) < (M : Int) := by omega
      clear HG RF
      have HMX := Lib.hid hml
      clear hml
      go_wp2_with fail
      have S1 := Lib.hid (S0.out.alloc (o := .cells #[.complex .f32 bd.a1 bd.a2, .complex .f32 bd.v1 bd.v2] 74) hB)
      have D1 : Hid (Blk (wr.alloc (.cells #[.complex .f32 bd.a1 bd.a2, .complex .f32 bd.v1 bd.v2] 74)) wr.heap.size #[.complex .f32 bd.a1 bd.a2, .complex .f32 bd.v1 bd.v2] 74) := Blk.new _ _ _
      refine (FO.call _).mono ?_
      rintro e w3 ⟨rfl, hb⟩
      have s3 := hb.size
      simp only [World.size_alloc] at s3
      have S3 := Lib.hid ((S1.out.mono hB hb).alloc (o := .cells #[.int .i64 t, .bool f] 52) hB)
      have D3 := Lib.hid ((D1.out.below hb).alloc (o := .cells #[.int .i64 t, .bool f] 52))
      have T3 : Hid (Blk (w3.alloc (.cells #[.int .i64 t, .bool f] 52)) w3.heap.size #[.int .i64 t, .bool f] 52) := Blk.new _ _ _
      clear hb S0 S1 D1 FO c0 c1
      go_wp2_with fail
      generalize hY : w3.alloc (.cells #[.int .i64 t, .bool f] 52) = Y at *
      have sY : w3.heap.size < Y.heap.size := by rw [← hY]; simp
      clear hY
      have p3 := Blk.cellAt (i := 3) S3.out.x rfl
      have t0 := Blk.cellAt (i := 0) T3.out rfl
      have t1 := Blk.cellAt (i := 1) T3.out rfl
      have d1 := Blk.cellAt (i := 1) D3.out rfl
      simp only [List.getElem_toArray, List.getElem_cons_zero, List.getElem_cons_succ] at p3 t0 t1 d1
      have lY : g < Y.heap.size := by omega
      have lYP : w.heap.size < Y.heap.size := by omega
      have lYr : wr.heap.size < Y.heap.size := by omega
      have hY1 : Y.heap.size ≤ Y.heap.size := Nat.le_refl _
      go_region_held3 (fun wx => Y.heap.size ≤ wx.heap.size ∧ w.heap.size < wx.heap.size ∧ wr.heap.size < wx.heap.size ∧ w3.heap.size < wx.heap.size ∧ g < wx.heap.size ∧ wx.cell? ⟨w.heap.size, 3, Option.none⟩ = some (.slice (some ⟨g, 0, Option.none⟩) M cb) ∧ wx.cell? ⟨w3.heap.size, 0, Option.none⟩ = some (.int .i64 t) ∧ wx.cell? ⟨w3.heap.size, 1, Option.none⟩ = some (.bool f) ∧ wx.cell? ⟨wr.heap.size, 1, Option.none⟩ = some (.complex .f32 bd.v1 bd.v2))
        (((repeat' apply And.intro) <;> first | (with_reducible assumption) | (((repeat (first | (with_reducible assumption) | (with_reducible exact cNewAt (by first | rfl | (simp only [World.size_alloc, World.size_setCell, World.size_drew]; done) | omega) rfl) | (with_reducible exact sNewAt (by first | rfl | (simp only [World.size_alloc, World.size_setCell, World.size_drew]; done) | omega) rfl) | (simp; done) | (with_reducible apply cAlloc) | (with_reducible apply cDrew) | (with_reducible refine cSet (by dsimp only; omega) ?_) | (with_reducible refine cSetOff (by dsimp only; omega) ?_) | (with_reducible apply cSame) | (with_reducible refine cBelow (by assumption) ?_) | (with_reducible apply sAlloc) | (with_reducible apply sDrew) | (with_reducible refine sBelow (by assumption) ?_) | (with_reducible refine sSet (by dsimp only; omega) ?_))); first | done | (simp [*]; done)); done) | (simp only [World.size_alloc, World.size_setCell, World.size_drew]; omega) | omega | (go_keep; done) | ((repeat' (first | (with_reducible exact Below.refl _ _) | (with_reducible assumption) | (with_reducible refine Below.alloc ?_ ?_ _) | (with_reducible refine Below.drew ?_) | (with_reducible refine Below.setCell ?_ ?_ _) | (with_reducible refine Below.trans ?_ (Below.mono (by assumption) ?_)) | (with_reducible exact Nat.le_refl _) | omega | (simp only [World.size_alloc, World.size_setCell, World.size_drew]; omega) | (simp; omega) | (simp; done))); done)))
        (first | (go_at_call 136; (with_reducible refine (AC.call _).mono ?_); rintro e w4 ⟨rfl, hb⟩; have hbs := hb.size; (try simp only [World.size_alloc, World.size_setCell, World.size_drew] at hbs); have HBD : Hid (Below Y.heap.size Y w4) := ((Below.refl _ _).drew).trans hb; obtain ⟨z0, z1, y0, y1⟩ := (S3.out.mono hB HBD.out).look hlt HMX.out))
      all_goals
       rename_i hHeld
       clear hHeld
       have S5 := Lib.hid (S3.out.mono hB HBD.out)
       obtain ⟨g', HG⟩ := rowOf S5.out.own (by omega)
       obtain rfl : g = g' := by have := HG.at_; simpa using this
       have hl1 : k * 2 < (bwCells (mixL L R k)).length := by rw [bwCells_len, HMX.out]; omega
       have hl2 : k * 2 + 1 < ((bwCells (mixL L R k)).set (k * 2) (.complex .f32 rd.a1 rd.a2)).length := by rw [List.length_set, bwCells_len, HMX.out]; omega
       have E6 := S5.out.put (i := k * 2) (v := .complex .f32 rd.a1 rd.a2) hB (by omega) hl1
       have eR : bwCells (mixL L R (k + 1)) = ((bwCells (mixL L R k)).set (k * 2) (.complex .f32 rd.a1 rd.a2)).set (k * 2 + 1) (.complex .f32 rd.v1 rd.v2) := by
         rw [HST.out, bw_set2 _ _ _ (by rw [HMX.out]; exact hlt)]
       have F6 := owns_put (i := k * 2 + 1) (v := .complex .f32 rd.v1 rd.v2) E6.2.2.1 hl2
       rw [← eR] at F6
       have hgz : g ≠ w.heap.size + 1 := fun e => by
         have h1 := HG.blk
         obtain ⟨cs, h1⟩ := h1
         have h2 := S5.out.z
         rw [← e] at h2
         have := h1.symm.trans h2
         simp at this
       have S7 : Hid (MirSt w B n g1 g2 M (mixL L R (k + 1)) (some ⟨g, 0, Option.none⟩) cb ((w4.setCell ⟨g, k * 2, Option.none⟩ (.complex .f32 rd.a1 rd.a2)).setCell ⟨g, k * 2 + 1, Option.none⟩ (.complex .f32 rd.v1 rd.v2))) := by
         refine ⟨E6.1.other (by dsimp only; omega), E6.2.1.other (by dsimp only; omega), F6, fun P hP hne => ?_, E6.2.2.2.2.setCell HG.ge _, by simp; exact S5.out.size⟩
         rw [← E6.2.2.2.1 P hP hne]
         exact Below.heap_setCell _ _ _ _ (fun e => hne (by rw [e]))
       clear E6 F6 eR HG S5 p3 t0 t1 d1 T3 D3 S3 y0 y1 z0 z1
       go_wp2
       go_roundw
       case rel => exact ⟨k + 1, by omega, by go_num, S7.out⟩
       case measure => simp [intOf]; omega
    · have hkm : k = M := by omega
      subst hkm
      have eM : mixL L R k = R := by rw [← HML.out]; exact mixL_all (by rw [HRL.out, HML.out])
      have S1 := S0.out
      rw [eM] at S1
      have S2 := Lib.hid S1
      clear eM S1 S0
      (obtain ⟨p0, p1, p2, p3⟩ := blk4 (S2.out.x))
      (obtain ⟨q0, q1, q2, q3⟩ := blk4 (S2.out.z))
      have f0 := S2.out.z.free 0
      have f1 := S2.out.z.free 1
      have f2 := S2.out.z.free 2
      have f3 := S2.out.z.free 3
      have l1 := S2.out.z.lt
      have RS := ((((S2.out.z.set (i := 0) (v := .int .i64 n)).set (i := 1) (v := .complex .f32 g1 g2)).set (i := 2) (v := .float .f32 0)).set (i := 3) (v := .slice b k cb))
      simp only [List.setIfInBounds_toArray, List.set_cons_zero, List.set_cons_succ] at RS
      have RH := Lib.hid RS
      have OB := S2.out.own
      have OH := Lib.hid (owns_other (grown_set4' (W := wr) (R := w.heap.size + 1) (i := 0) (j := 1) (k := 2) (l := 3) (u0 := .int .i64 n) (u1 := .complex .f32 g1 g2) (u2 := .float .f32 0) (u3 := .slice b k cb)) OB (fun g' e' e2 => by
        subst e'
        have h1 := rowOf OB
        cases e2
        rcases OB.2 with ⟨h, _⟩ | ⟨g2', cap, cur, e1, hb2, hg2, _⟩
        · cases h
        · cases e1
          have := Eq.trans (Eq.symm hg2) S2.out.z
          simp at this))
      clear RS OB
      go_wp2_with fail
      (obtain ⟨e0, e1, e2, e3⟩ := blk4 (RH.out))
      refine bodyPost_ret (v := .agg #[.int .i64 n, .complex .f32 g1 g2, .float .f32 0, .slice b k cb]) (by simp [results, Tryz.results105, go_sem, e0, e1, e2, e3]) rfl ⟨rfl, OH.out, fun P hP hne => ?_, ?_, ?_⟩
      · rw [← S2.out.keep P hP hne]
        rw [Below.heap_setCell _ _ _ _ (by dsimp only; omega), Below.heap_setCell _ _ _ _ (by dsimp only; omega), Below.heap_setCell _ _ _ _ (by dsimp only; omega), Below.heap_setCell _ _ _ _ (by dsimp only; omega)]
      · exact (((S2.out.below.setCell (by dsimp only; omega) _).setCell (by dsimp only; omega) _).setCell (by dsimp only; omega) _).setCell (by dsimp only; omega) _
      · simp; omega⟩
end Go.Proofs.YtfdgijmmgllmgaaGreatDoor
namespace Go.Proofs.YtfdgijmmgllmgaaGreatDoor
open Go.ChangeShapes Go.WideShapes Go.ChangeAt Go.RowKit Go.Joins
set_option linter.unusedSimpArgs false
set_option linter.unusedVariables false
set_option maxRecDepth 100000
attribute [local go_sem] store_f
open Ieee Go.Lib
attribute [local go_sem] store_c
theorem owns_heap {W w1 : World} {B T sz n m c : Nat} {a : Option Addr} {xs : List Value} (h : W.ownsRow B T sz (.slice a m c) n xs) (hk : ∀ g, g < W.heap.size → a = some ⟨g, 0, Option.none⟩ → w1.heap[g]? = W.heap[g]?) : w1.ownsRow B T sz (.slice a m c) n xs := by
  refine ⟨h.1, ?_⟩
  rcases h.2 with h2 | ⟨g, cap, cur, e1, hb, hg, h3⟩
  · exact .inl h2
  · refine .inr ⟨g, cap, cur, e1, hb, ?_, h3⟩
    cases e1
    exact (hk g (Blk.lt (W := W) (cs := cur) (t := T) hg) rfl).trans hg
theorem DoBx.mir {w W w1 : World} {B : Nat} {s : Sho} {N M K : Nat} {e : Evw} {a b l : Option Addr} {ca cb cl : Nat} {r : Ending} {n : Int} {g1 g2 : Nat} {R : List Bw} (h : DoBx w W B s N M K e a b l ca cb cl) (hB : B ≤ w.heap.size) (o : MirOut W B r w1 n g1 g2 M R b cb) : DoBx w w1 B { s with bds := R } N M K e a b l ca cb cl := by
  have hs := h.size
  have ne : ∀ {P : Nat} {T : TypeId} {cs : Array Value}, Blk W P cs T → T ≠ 74 → b ≠ some ⟨P, 0, Option.none⟩ := fun hP hT e => owns_blk h.own.bd hP (fun e' => hT e'.symm) _ e rfl
  refine ⟨(o.keep _ h.x.lt (ne h.x (by decide))).trans h.x, (o.keep _ h.y.lt (ne h.y (by decide))).trans h.y, (o.keep _ h.z.lt (ne h.z (by decide))).trans h.z, ⟨?_, o.own, ?_⟩, h.below.trans o.below, Nat.le_trans h.size o.size, fun P cs h' => (o.keep _ (h.keep P cs h').lt (ne (h.keep P cs h') (by decide))).trans (h.keep P cs h')⟩
  · refine owns_heap h.own.sh fun g hg ea => o.keep g hg fun eb => ?_
    subst ea
    subst eb
    exact owns_apart h.own.sh h.own.bd (by decide) rfl
  · refine owns_heap h.own.lg fun g hg ea => o.keep g hg fun eb => ?_
    subst ea
    subst eb
    exact owns_apart h.own.lg h.own.bd (by decide) rfl
theorem DoBx.tum {w W : World} {B : Nat} {s : Sho} {N M K : Nat} {e : Evw} {a b l : Option Addr} {ca cb cl : Nat} {n : Int} {z1 z2 : Nat} (h : DoBx w W B s N M K e a b l ca cb cl) (hB : B ≤ w.heap.size) :
    DoBx w ((((W.setCell ⟨w.heap.size, 6, Option.none⟩ (.int .i64 n)).setCell ⟨w.heap.size, 7, Option.none⟩ (.complex .f32 z1 z2)).setCell ⟨w.heap.size, 8, Option.none⟩ (.float .f32 0)).setCell ⟨w.heap.size, 9, Option.none⟩ (.slice b M cb)) B { s with kind := n, g1 := z1, g2 := z2 } N M K e a b l ca cb cl := by
  have RS := (((h.x.set (i := 6) (v := .int .i64 n)).set (i := 7) (v := .complex .f32 z1 z2)).set (i := 8) (v := .float .f32 0)).set (i := 9) (v := .slice b M cb)
  simp only [List.setIfInBounds_toArray, List.set_cons_zero, List.set_cons_succ] at RS
  have hg := grown_set4' (W := W) (R := w.heap.size) (i := 6) (j := 7) (k := 8) (l := 9) (u0 := .int .i64 n) (u1 := .complex .f32 z1 z2) (u2 := .float .f32 0) (u3 := .slice b M cb)
  have O := h.own.grownP h.x hg
  refine ⟨RS, h.y.grown hg (by omega), h.z.grown hg (by omega), ⟨O.sh, O.bd, O.lg⟩, ?_, by simp; exact h.size, fun P cs h' => (h.keep P cs h').grown hg (by have := h'.lt; omega)⟩
  exact (((h.below.setCell (by dsimp only; omega) _).setCell (by dsimp only; omega) _).setCell (by dsimp only; omega) _).setCell (by dsimp only; omega) _
set_option maxHeartbeats 32000000 in
theorem doS_mirrors {s : Sho} {N M K : Nat} {n : Int} {R : List Bw} (Mi : MirS 105 s.kind n s.g1 s.g2 M s.bds R) : DoS 69 s N M K ⟨4, n, 0, 0, shd0, lit0⟩ { s with kind := n, bds := R } N M true := ⟨fun w B a b l ca cb cl hr hB => by
  have D0 := Lib.hid (DoBx.start w B s N M K ⟨4, n, 0, 0, shd0, lit0⟩ a b l ca cb cl hr hB)
  clear hr
  go_enter Tryz.func69, Tryz.ntmps69
  go_wp2_with fail
  generalize ((w.alloc (.cells #[.int .i64 s.size, .float .f32 s.step, .float .f32 s.lit.r, .float .f32 s.lit.g, .float .f32 s.lit.b, .slice a N ca, .int .i64 s.kind, .complex .f32 s.g1 s.g2, .float .f32 0, .slice b M cb, .int .i64 s.ticks, .slice l K cl] 34)).alloc (.cells #[.int .i64 (⟨4, n, 0, 0, shd0, lit0⟩ : Evw).kind, .int .i64 (⟨4, n, 0, 0, shd0, lit0⟩ : Evw).n, .complex .f32 (⟨4, n, 0, 0, shd0, lit0⟩ : Evw).z1 (⟨4, n, 0, 0, shd0, lit0⟩ : Evw).z2, .complex .f32 (⟨4, n, 0, 0, shd0, lit0⟩ : Evw).s.a1 (⟨4, n, 0, 0, shd0, lit0⟩ : Evw).s.a2, .complex .f32 (⟨4, n, 0, 0, shd0, lit0⟩ : Evw).s.b1 (⟨4, n, 0, 0, shd0, lit0⟩ : Evw).s.b2, .complex .f32 (⟨4, n, 0, 0, shd0, lit0⟩ : Evw).s.c1 (⟨4, n, 0, 0, shd0, lit0⟩ : Evw).s.c2, .float .f32 (⟨4, n, 0, 0, shd0, lit0⟩ : Evw).s.r, .float .f32 (⟨4, n, 0, 0, shd0, lit0⟩ : Evw).s.g, .float .f32 (⟨4, n, 0, 0, shd0, lit0⟩ : Evw).s.b, .float .f32 (⟨4, n, 0, 0, shd0, lit0⟩ : Evw).s.k, .float .f32 (⟨4, n, 0, 0, shd0, lit0⟩ : Evw).l.r, .float .f32 (⟨4, n, 0, 0, shd0, lit0⟩ : Evw).l.g, .float .f32 (⟨4, n, 0, 0, shd0, lit0⟩ : Evw).l.b] 38)).alloc (.cells #[.int .i64 0, .float .f32 0, .float .f32 0, .float .f32 0, .float .f32 0, .slice Option.none 0 0, .int .i64 0, .complex .f32 0 0, .float .f32 0, .slice Option.none 0 0, .int .i64 0, .slice Option.none 0 0] 34) = X at *
  refine (Mi.call _ B _ _ D0.out.own.bd (by have := D0.out.size; omega)).mono ?_
  rintro r w1 hout
  have D1 := Lib.hid (D0.out.mir hB hout)
  obtain rfl := hout.ret
  clear hout D0 Mi
  have D2 := Lib.hid (D1.out.tum (n := n) (z1 := s.g1) (z2 := s.g2) hB)
  (obtain ⟨k0, k1, k2, k3, k4, k5, k6, k7, k8, k9, k10, k11⟩ := blk12 (D1.out.x))
  have f6 := D1.out.x.free 6
  have f7 := D1.out.x.free 7
  have f8 := D1.out.x.free 8
  have f9 := D1.out.x.free 9
  have l1 := D1.out.x.lt
  clear D1
  have sC := D2.out.size
  (obtain ⟨p0, p1, p2, p3, p4, p5, p6, p7, p8, p9, p10, p11⟩ := blk12 (D2.out.x))
  (obtain ⟨q0, q1, q2, q3, q4, q5, q6, q7, q8, q9, q10, q11⟩ := blk12 (D2.out.z))
  (have h0 := D2.out.z.free 0; have h1 := D2.out.z.free 1; have h2 := D2.out.z.free 2; have h3 := D2.out.z.free 3; have h4 := D2.out.z.free 4; have h5 := D2.out.z.free 5; have h6 := D2.out.z.free 6; have h7 := D2.out.z.free 7; have h8 := D2.out.z.free 8; have h9 := D2.out.z.free 9; have h10 := D2.out.z.free 10; have h11 := D2.out.z.free 11)
  have l8 := D2.out.z.lt
  have P5 := Lib.hid (put_z (t := { s with kind := n, bds := R }) (x' := .slice a N ca) (y' := .slice b M cb) (z' := .slice l K cl) D2.out.z)
  go_wp2_with fail
  (obtain ⟨e0, e1, e2, e3, e4, e5, e6, e7, e8, e9, e10, e11⟩ := blk12 (P5.out))
  refine bodyPost_ret (v := .tuple #[.agg #[.int .i64 s.size, .float .f32 s.step, .float .f32 s.lit.r, .float .f32 s.lit.g, .float .f32 s.lit.b, .slice a N ca, .int .i64 n, .complex .f32 s.g1 s.g2, .float .f32 0, .slice b M cb, .int .i64 s.ticks, .slice l K cl], .bool true]) (by simp [results, Tryz.results69, go_sem, e0, e1, e2, e3, e4, e5, e6, e7, e8, e9, e10, e11]) rfl ⟨_, _, _, _, do_out D2.out.z D2.out.own D2.out.below hB sC D2.out.keep⟩⟩
end Go.Proofs.YtfdgijmmgllmgaaGreatDoor
