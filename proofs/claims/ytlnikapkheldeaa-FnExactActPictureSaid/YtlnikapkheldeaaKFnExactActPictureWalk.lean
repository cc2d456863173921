/-
  The call of FnExactActPicture returns true and writes nothing that was there.
-/
import Derived.Test.YtlnikapkheldeaaK43
import Derived.Test.YtlnikapkheldeaaK23
import Derived.Test.YtlnikapkheldeaaK16
import Derived.Deep.RegionHeld3
import Derived.Deep.DeepCutAuto
namespace Go.Proofs.Ytlnikapkheldeaa.wFnExactActPicture
open Go.ChangeShapes Go.WideShapes Go.ChangeAt Go.RowKit Go.Joins
set_option linter.unusedSimpArgs false
set_option linter.unusedVariables false
set_option maxRecDepth 100000
attribute [local go_sem] store_f
open Ieee

structure ToSymM (t : Int) (f : Bool) : Prop where
  call : ∀ w : World, Calls Try.prog 50 #[.agg #[.int .i64 t, .bool f]] w fun e w' => e = .returned (.agg #[.int .i64 t, .bool f]) ∧ Below w.heap.size w w'

set_option maxHeartbeats 32000000 in
theorem walk (t : Int) (f : Bool) (n : Int) (a : Option Addr) (cap : Nat) (l : List Lit) (w : World) (_ : -9223372036854775808 ≤ t) (_ : t ≤ 9223372036854775807) (_ : -9223372036854775808 ≤ n) (_ : n ≤ 9223372036854775807) (hrow : LitsAt w a l) (hw : ∀ c ∈ l, c.W) (hlc : l.length ≤ cap) (hcm : cap ≤ 9223372036854775807) :
    Calls Try.prog 12 #[.agg #[.int .i64 t, .bool f], .agg #[.int .i64 n, .slice a l.length cap]] w fun e w' => e = .returned (.bool true) ∧ Below w.heap.size w w' := by
  by_cases hlen : l.length ≤ 1048576
  · have Z := szPic_yes (n := n) (a := a) (cap := cap) (len := l.length) (left := 1048576) (by omega) (by omega)
    have T := toPicA (n := n) (a := a) (cap := cap) hlen
    have TS : ToSymM t f := ⟨fun w => toSym_any t f w⟩
    obtain ⟨m, k, AI, AX, hk64, hkW⟩ := act_both t f n hw
    have HI : Hid (∀ a cap, ActI t f n a cap l m k) := AI
    have HX : Hid (∀ a cap, ActX t f n a cap l m k) := AX
    have EP : Hid (∀ a c b d, EqPic n a c b d l) := fun a c b d => eqPic hw hlen
    have EK : Hid (∀ a c b d, EqPic m a c b d k) := fun a c b d => eqPic hkW (by omega)
    have HR : Hid (LitsAt w a l) := hrow
    have hle : ¬ (1048576 - (l.length : Int)) < 0 := by omega
    have hld : decide ((1048576 - (l.length : Int)) < 0) = false := by simpa using hle
    clear hrow hw AI AX hkW
    go_enter Try.func12, Try.ntmps12
    go_wp2_with fail
    generalize hV : (w.alloc (.cells #[.int .i64 t, .bool f] 76)).alloc (.cells #[.int .i64 n, .slice a l.length cap] 69) = V
    have C0 : Hid (CtxS w V w.heap.size t f (w.heap.size + 1) n a cap l) := by
      rw [← hV]
      exact ⟨(Blk.new _ _ _).alloc, ⟨Blk.newAt (by simp), (HR.out.alloc).alloc, ((Below.refl _ _).alloc (Nat.le_refl _) _).alloc (by simp) _, by omega⟩, by omega, Nat.le_refl _⟩
    clear hV
    refine (Z.call _).mono ?_
    rintro e w1 ⟨rfl, hb⟩
    have C1 : Hid (CtxS w w1 w.heap.size t f (w.heap.size + 1) n a cap l) := C0.out.below hb
    clear hb C0
    (have s0 := Blk.cellAt (i := 0) C1.out.sym rfl; have s1 := Blk.cellAt (i := 1) C1.out.sym rfl; simp only [List.getElem_toArray, List.getElem_cons_zero, List.getElem_cons_succ] at s0 s1)
    (have p0 := Blk.cellAt (i := 0) C1.out.ctx.blk rfl; have p1 := Blk.cellAt (i := 1) C1.out.ctx.blk rfl; simp only [List.getElem_toArray, List.getElem_cons_zero, List.getElem_cons_succ] at p0 p1)
    have hL1 := C1.out.ctx.row
    have hB1 : Below w1.heap.size w1 w1 := Below.refl _ _
    have hz1 := Nat.le_refl w1.heap.size
    have l1 := C1.out.ctx.lt
    have m1 : w.heap.size < w1.heap.size := by omega
    go_wp2_with fail
    go_cut [6] (fun v wx => ∃ p B C b3 c3, v = .pointer (some ⟨p, 0, Option.none⟩) ∧ PV wx p w1.heap.size wx.heap.size m b3 c3 k B C ∧ Below w1.heap.size w1 wx)
    case first =>
      go_region_held3 (fun wx => Below w1.heap.size w1 wx ∧ w1.heap.size ≤ wx.heap.size ∧ w.heap.size < wx.heap.size ∧ w.heap.size + 1 < wx.heap.size ∧ wx.cell? ⟨w.heap.size, 0, Option.none⟩ = some (.int .i64 (t)) ∧ wx.cell? ⟨w.heap.size, 1, Option.none⟩ = some (.bool (f)) ∧ wx.cell? ⟨w.heap.size + 1, 0, Option.none⟩ = some (.int .i64 n) ∧ wx.cell? ⟨w.heap.size + 1, 1, Option.none⟩ = some (.slice a l.length cap))
        (((repeat' apply And.intro) <;> first | (with_reducible assumption) | ((repeat (first | (with_reducible assumption) | (with_reducible exact And.left (by assumption)) | (with_reducible exact And.left (And.right (by assumption))) | (with_reducible exact And.left (And.right (And.right (by assumption)))) | (with_reducible refine LitsAt.drew ?_) | (with_reducible refine LitsAt.below ?_ hb) | (with_reducible refine LitsAt.alloc ?_))); done) | (((repeat (first | (with_reducible assumption) | (with_reducible exact cNewAt (by first | rfl | (simp only [World.size_alloc, World.size_setCell, World.size_drew]; done) | omega) rfl) | (with_reducible exact sNewAt (by first | rfl | (simp only [World.size_alloc, World.size_setCell, World.size_drew]; done) | omega) rfl) | (simp; done) | (with_reducible apply cAlloc) | (with_reducible apply cDrew) | (with_reducible refine cSet (by dsimp only; omega) ?_) | (with_reducible refine cSetOff (by dsimp only; omega) ?_) | (with_reducible apply cSame) | (with_reducible refine cBelow (by assumption) ?_) | (with_reducible apply sAlloc) | (with_reducible apply sDrew) | (with_reducible refine sBelow (by assumption) ?_) | (with_reducible refine sSet (by dsimp only; omega) ?_))); first | done | (simp [*]; done)); done) | (simp only [World.size_alloc, World.size_setCell, World.size_drew]; omega) | omega | (go_keep; done) | ((repeat' (first | (with_reducible exact Below.refl _ _) | (with_reducible assumption) | (with_reducible refine Below.alloc ?_ ?_ _) | (with_reducible refine Below.drew ?_) | (with_reducible refine Below.setCell ?_ ?_ _) | (with_reducible refine Below.trans ?_ (Below.mono (by assumption) ?_)) | (with_reducible exact Nat.le_refl _) | omega | (simp only [World.size_alloc, World.size_setCell, World.size_drew]; omega) | (simp; omega) | (simp; done))); done)))
        (first | (go_at_call 50; (with_reducible refine (TS.call _).mono ?_); rintro e w2 ⟨rfl, hb⟩; have hbs := hb.size; (try simp only [World.size_alloc, World.size_setCell, World.size_drew] at hbs); (try ((first | have hN := Blk.belowAt hb hN | have hN := Blk.belowAt hb (Blk.drew (Blk.new _ _ _)) | have hN := Blk.belowAt hb (Blk.new _ _ _)); (try simp only [World.size_drew] at hN); have y0 := Blk.cellAt (i := 0) hN rfl; have y1 := Blk.cellAt (i := 1) hN rfl; simp only [List.getElem_toArray, List.getElem_cons_zero, List.getElem_cons_succ] at y0 y1; have z0 := hN.free 0; have z1 := hN.free 1; have zl := hN.lt))) | (go_at_call 45; (with_reducible refine (T.call _ ?_).mono ?_); (next => exact LitsAt.below hL1 (And.left (by assumption))); rintro e w3 ⟨⟨b2, rfl, ho⟩, hb⟩; have K3 : Hid (LitsAt w3 b2 l) := ho.lits; clear ho; have hbs := hb.size; (try simp only [World.size_alloc, World.size_setCell, World.size_drew] at hbs); (try ((first | have hN := Blk.belowAt hb hN | have hN := Blk.belowAt hb (Blk.drew (Blk.new _ _ _)) | have hN := Blk.belowAt hb (Blk.new _ _ _)); (try simp only [World.size_drew] at hN); have y0 := Blk.cellAt (i := 0) hN rfl; have y1 := Blk.cellAt (i := 1) hN rfl; simp only [List.getElem_toArray, List.getElem_cons_zero, List.getElem_cons_succ] at y0 y1; have z0 := hN.free 0; have z1 := hN.free 1; have zl := hN.lt))) | (go_at_call 51; (with_reducible refine ((HX.out _ _).call _ ?_).mono ?_); (next => first | exact K3.out | exact LitsAt.alloc K3.out); rintro e w4 ⟨b3, c3, ⟨rfl, ho, hb⟩⟩; have hle4 := hb.size; (try simp only [World.size_alloc, World.size_drew] at ho hle4); have HO : Hid (OwnIn w4 _ w4.heap.size b3 k) := ho; clear ho; have hbs := hb.size; (try simp only [World.size_alloc, World.size_setCell, World.size_drew] at hbs); (try ((first | have hN := Blk.belowAt hb hN | have hN := Blk.belowAt hb (Blk.drew (Blk.new _ _ _)) | have hN := Blk.belowAt hb (Blk.new _ _ _)); (try simp only [World.size_drew] at hN); have y0 := Blk.cellAt (i := 0) hN rfl; have y1 := Blk.cellAt (i := 1) hN rfl; simp only [List.getElem_toArray, List.getElem_cons_zero, List.getElem_cons_succ] at y0 y1; have z0 := hN.free 0; have z1 := hN.free 1; have zl := hN.lt))))
      all_goals
        rename_i hHeld
        have hb8 := hHeld.1
        clear hHeld
        go_wp2_with fail
        go_meet
        first
          | exact ⟨_, _, _, b3, c3, rfl, PV.late HO.out (by omega) (by omega), hb8⟩
          | exact ⟨_, _, _, b3, c3, rfl, PV.early HO.out (by omega) hN (by omega) (by omega), hb8⟩
    case rest =>
      obtain ⟨p, B, C, b3, c3, rfl, hPV, hb⟩ := hcut
      have C2 : Hid (CtxS w wc w.heap.size t f (w.heap.size + 1) n a cap l) := C1.out.below hb
      have A2 : Hid (PV wc p w1.heap.size wc.heap.size m b3 c3 k B C) := hPV
      have h12 := hb.size
      clear hb hPV C1 s0 s1 p0 p1 hL1 hB1 hz1
      (have p0 := Blk.cellAt (i := 0) C2.out.ctx.blk rfl; have p1 := Blk.cellAt (i := 1) C2.out.ctx.blk rfl; simp only [List.getElem_toArray, List.getElem_cons_zero, List.getElem_cons_succ] at p0 p1)
      go_wp2_with fail
      refine (T.call _ C2.out.ctx.row).mono ?_
      rintro e w3 ⟨⟨b4, rfl, ho⟩, hb⟩
      have C3 : Hid (CtxS w w3 w.heap.size t f (w.heap.size + 1) n a cap l) := C2.out.below hb
      have A3 : Hid (PV w3 p w1.heap.size wc.heap.size m b3 c3 k B C) := A2.out.below hb
      have O3 : Hid (OwnIn w3 wc.heap.size w3.heap.size b4 l) := ho
      have s3 := hb.size
      clear hb ho C2 A2 p0 p1
      go_wp2_with fail
      generalize hU : w3.alloc (.cells #[.int .i64 n, .slice b4 l.length l.length] 37) = U
      have CU : Hid (CtxS w U w.heap.size t f (w.heap.size + 1) n a cap l) := by rw [← hU]; exact C3.out.alloc
      have AU : Hid (PV U p w1.heap.size wc.heap.size m b3 c3 k B C) := by rw [← hU]; exact A3.out.alloc
      have XU : Hid (PV U w3.heap.size wc.heap.size (w3.heap.size + 1) n b4 l.length l wc.heap.size w3.heap.size) := by rw [← hU]; exact PV.new O3.out s3
      have sU : w3.heap.size < U.heap.size := XU.out.lt
      clear hU C3 A3 O3
      generalize hwh : wc.heap.size = h0 at *
      clear hwh
      generalize w3.heap.size = x at *
      (have s0 := Blk.cellAt (i := 0) CU.out.sym rfl; have s1 := Blk.cellAt (i := 1) CU.out.sym rfl; simp only [List.getElem_toArray, List.getElem_cons_zero, List.getElem_cons_succ] at s0 s1)
      (have x0 := Blk.cellAt (i := 0) XU.out.blk rfl; have x1 := Blk.cellAt (i := 1) XU.out.blk rfl; simp only [List.getElem_toArray, List.getElem_cons_zero, List.getElem_cons_succ] at x0 x1)
      have hLU := XU.out.lits
      have hBU : Below U.heap.size U U := Below.refl _ _
      have hzU := Nat.le_refl U.heap.size
      have lU := CU.out.ctx.lt
      have mU : w.heap.size < U.heap.size := by omega
      go_cut [8] (fun v wx => ∃ g B C b5 c5, v = .pointer (some ⟨g, 0, Option.none⟩) ∧ PV wx g U.heap.size wx.heap.size m b5 c5 k B C ∧ Below U.heap.size U wx)
      case first =>
        go_region_held3 (fun wx => Below U.heap.size U wx ∧ U.heap.size ≤ wx.heap.size ∧ w.heap.size < wx.heap.size ∧ x < wx.heap.size ∧ wx.cell? ⟨w.heap.size, 0, Option.none⟩ = some (.int .i64 (t)) ∧ wx.cell? ⟨w.heap.size, 1, Option.none⟩ = some (.bool (f)) ∧ wx.cell? ⟨x, 0, Option.none⟩ = some (.int .i64 n) ∧ wx.cell? ⟨x, 1, Option.none⟩ = some (.slice b4 l.length l.length))
          (((repeat' apply And.intro) <;> first | (with_reducible assumption) | ((repeat (first | (with_reducible assumption) | (with_reducible exact And.left (by assumption)) | (with_reducible exact And.left (And.right (by assumption))) | (with_reducible exact And.left (And.right (And.right (by assumption)))) | (with_reducible refine LitsAt.drew ?_) | (with_reducible refine LitsAt.below ?_ hb) | (with_reducible refine LitsAt.alloc ?_))); done) | (((repeat (first | (with_reducible assumption) | (with_reducible exact cNewAt (by first | rfl | (simp only [World.size_alloc, World.size_setCell, World.size_drew]; done) | omega) rfl) | (with_reducible exact sNewAt (by first | rfl | (simp only [World.size_alloc, World.size_setCell, World.size_drew]; done) | omega) rfl) | (simp; done) | (with_reducible apply cAlloc) | (with_reducible apply cDrew) | (with_reducible refine cSet (by dsimp only; omega) ?_) | (with_reducible refine cSetOff (by dsimp only; omega) ?_) | (with_reducible apply cSame) | (with_reducible refine cBelow (by assumption) ?_) | (with_reducible apply sAlloc) | (with_reducible apply sDrew) | (with_reducible refine sBelow (by assumption) ?_) | (with_reducible refine sSet (by dsimp only; omega) ?_))); first | done | (simp [*]; done)); done) | (simp only [World.size_alloc, World.size_setCell, World.size_drew]; omega) | omega | (go_keep; done) | ((repeat' (first | (with_reducible exact Below.refl _ _) | (with_reducible assumption) | (with_reducible refine Below.alloc ?_ ?_ _) | (with_reducible refine Below.drew ?_) | (with_reducible refine Below.setCell ?_ ?_ _) | (with_reducible refine Below.trans ?_ (Below.mono (by assumption) ?_)) | (with_reducible exact Nat.le_refl _) | omega | (simp only [World.size_alloc, World.size_setCell, World.size_drew]; omega) | (simp; omega) | (simp; done))); done)))
          (first | (go_at_call 50; (with_reducible refine (TS.call _).mono ?_); rintro e w4 ⟨rfl, hb⟩; have hbs := hb.size; (try simp only [World.size_alloc, World.size_setCell, World.size_drew] at hbs); (try ((first | have hN := Blk.belowAt hb hN | have hN := Blk.belowAt hb (Blk.drew (Blk.new _ _ _)) | have hN := Blk.belowAt hb (Blk.new _ _ _)); (try simp only [World.size_drew] at hN); have y0 := Blk.cellAt (i := 0) hN rfl; have y1 := Blk.cellAt (i := 1) hN rfl; simp only [List.getElem_toArray, List.getElem_cons_zero, List.getElem_cons_succ] at y0 y1; have z0 := hN.free 0; have z1 := hN.free 1; have zl := hN.lt))) | (go_at_call 29; (with_reducible refine ((HI.out _ _).call _ ?_).mono ?_); (next => exact LitsAt.below hLU (And.left (by assumption))); rintro e w5 ⟨b5, c5, ⟨rfl, ho, hb⟩⟩; have hle4 := hb.size; (try simp only [World.size_alloc, World.size_drew] at ho hle4); have HO : Hid (OwnIn w5 _ w5.heap.size b5 k) := ho; clear ho; have hbs := hb.size; (try simp only [World.size_alloc, World.size_setCell, World.size_drew] at hbs); (try ((first | have hN := Blk.belowAt hb hN | have hN := Blk.belowAt hb (Blk.drew (Blk.new _ _ _)) | have hN := Blk.belowAt hb (Blk.new _ _ _)); (try simp only [World.size_drew] at hN); have y0 := Blk.cellAt (i := 0) hN rfl; have y1 := Blk.cellAt (i := 1) hN rfl; simp only [List.getElem_toArray, List.getElem_cons_zero, List.getElem_cons_succ] at y0 y1; have z0 := hN.free 0; have z1 := hN.free 1; have zl := hN.lt))))
        all_goals
          rename_i hHeld
          have hb8 := hHeld.1
          clear hHeld
          go_wp2_with fail
          go_meet
          first
            | exact ⟨_, _, _, b5, c5, rfl, PV.late HO.out (by omega) (by omega), hb8⟩
            | exact ⟨_, _, _, b5, c5, rfl, PV.early HO.out (by omega) hN (by omega) (by omega), hb8⟩
      case rest =>
        obtain ⟨g, Bg, Cg, b5, c5, rfl, hPV, hb⟩ := hcut
        have C5 : Hid (CtxS w wc w.heap.size t f (w.heap.size + 1) n a cap l) := CU.out.below hb
        have A5 : Hid (PV wc p w1.heap.size h0 m b3 c3 k B C) := AU.out.below hb
        have X5 : Hid (PV wc x h0 (x + 1) n b4 l.length l h0 x) := XU.out.below hb
        have G5 : Hid (PV wc g U.heap.size wc.heap.size m b5 c5 k Bg Cg) := hPV
        clear hb hPV CU AU XU s0 s1 x0 x1 hLU hBU hzU lU mU
        (have a0 := Blk.cellAt (i := 0) A5.out.blk rfl; have a1 := Blk.cellAt (i := 1) A5.out.blk rfl; simp only [List.getElem_toArray, List.getElem_cons_zero, List.getElem_cons_succ] at a0 a1)
        (have g0 := Blk.cellAt (i := 0) G5.out.blk rfl; have g1 := Blk.cellAt (i := 1) G5.out.blk rfl; simp only [List.getElem_toArray, List.getElem_cons_zero, List.getElem_cons_succ] at g0 g1)
        go_wp2_with fail
        refine ((EK.out _ _ _ _).call _ G5.out.lits A5.out.lits).mono ?_
        rintro e w6 ⟨rfl, hb⟩
        have C6 : Hid (CtxS w w6 w.heap.size t f (w.heap.size + 1) n a cap l) := C5.out.below hb
        have A6 : Hid (PV w6 p w1.heap.size h0 m b3 c3 k B C) := A5.out.below hb
        have X6 : Hid (PV w6 x h0 (x + 1) n b4 l.length l h0 x) := X5.out.below hb
        have G6 : Hid (PV w6 g U.heap.size wc.heap.size m b5 c5 k Bg Cg) := G5.out.below hb
        clear hb C5 A5 X5 G5 a0 a1 g0 g1
        generalize wc.heap.size = hg at *
        (have p0 := Blk.cellAt (i := 0) C6.out.ctx.blk rfl; have p1 := Blk.cellAt (i := 1) C6.out.ctx.blk rfl; simp only [List.getElem_toArray, List.getElem_cons_zero, List.getElem_cons_succ] at p0 p1)
        (have x0 := Blk.cellAt (i := 0) X6.out.blk rfl; have x1 := Blk.cellAt (i := 1) X6.out.blk rfl; simp only [List.getElem_toArray, List.getElem_cons_zero, List.getElem_cons_succ] at x0 x1)
        have hL6 := C6.out.ctx.row
        have hK6 := X6.out.lits
        have hB6 : Below w6.heap.size w6 w6 := Below.refl _ _
        have hz6 := Nat.le_refl w6.heap.size
        have l6 := C6.out.ctx.lt
        have m6 := X6.out.lt
        go_wp2_with fail
        go_cut [37] (fun v wx => v = .bool false ∧ Below w6.heap.size w6 wx)
        case first =>
          go_region_held3 (fun wx => Below w6.heap.size w6 wx ∧ w6.heap.size ≤ wx.heap.size ∧ x < wx.heap.size ∧ w.heap.size + 1 < wx.heap.size ∧ wx.cell? ⟨w.heap.size + 1, 0, Option.none⟩ = some (.int .i64 n) ∧ wx.cell? ⟨w.heap.size + 1, 1, Option.none⟩ = some (.slice a l.length cap) ∧ wx.cell? ⟨x, 0, Option.none⟩ = some (.int .i64 n) ∧ wx.cell? ⟨x, 1, Option.none⟩ = some (.slice b4 l.length l.length))
            (((repeat' apply And.intro) <;> first | (with_reducible assumption) | ((repeat (first | (with_reducible assumption) | (with_reducible exact And.left (by assumption)) | (with_reducible exact And.left (And.right (by assumption))) | (with_reducible exact And.left (And.right (And.right (by assumption)))) | (with_reducible refine LitsAt.drew ?_) | (with_reducible refine LitsAt.below ?_ hb) | (with_reducible refine LitsAt.alloc ?_))); done) | (((repeat (first | (with_reducible assumption) | (with_reducible exact cNewAt (by first | rfl | (simp only [World.size_alloc, World.size_setCell, World.size_drew]; done) | omega) rfl) | (with_reducible exact sNewAt (by first | rfl | (simp only [World.size_alloc, World.size_setCell, World.size_drew]; done) | omega) rfl) | (simp; done) | (with_reducible apply cAlloc) | (with_reducible apply cDrew) | (with_reducible refine cSet (by dsimp only; omega) ?_) | (with_reducible refine cSetOff (by dsimp only; omega) ?_) | (with_reducible apply cSame) | (with_reducible refine cBelow (by assumption) ?_) | (with_reducible apply sAlloc) | (with_reducible apply sDrew) | (with_reducible refine sBelow (by assumption) ?_) | (with_reducible refine sSet (by dsimp only; omega) ?_))); first | done | (simp [*]; done)); done) | (simp only [World.size_alloc, World.size_setCell, World.size_drew]; omega) | omega | (go_keep; done) | ((repeat' (first | (with_reducible exact Below.refl _ _) | (with_reducible assumption) | (with_reducible refine Below.alloc ?_ ?_ _) | (with_reducible refine Below.drew ?_) | (with_reducible refine Below.setCell ?_ ?_ _) | (with_reducible refine Below.trans ?_ (Below.mono (by assumption) ?_)) | (with_reducible exact Nat.le_refl _) | omega | (simp only [World.size_alloc, World.size_setCell, World.size_drew]; omega) | (simp; omega) | (simp; done))); done)))
            (first | (go_at_call 45; (with_reducible refine (T.call _ ?_).mono ?_); (next => exact LitsAt.below hL6 (And.left (by assumption))); rintro e w7 ⟨⟨b7, rfl, ho⟩, hb⟩; have K7 : Hid (LitsAt w7 b7 l) := ho.lits; have hbs := hb.size; clear ho; (try simp only [World.size_alloc, World.size_setCell, World.size_drew] at hbs)) | (go_at_call 46; (with_reducible refine ((EP.out _ _ _ _).call _ ?_ ?_).mono ?_); (next => exact LitsAt.below hK6 (And.left (by assumption))); (next => exact K7.out); rintro e w8 ⟨rfl, hb⟩; have hbs := hb.size; (try simp only [World.size_alloc, World.size_setCell, World.size_drew] at hbs)))
          all_goals
            rename_i hHeld
            have hb8 := hHeld.1
            clear hHeld
            go_wp2_with fail
            go_meet
            exact ⟨rfl, hb8⟩
        case rest =>
          obtain ⟨rfl, hb⟩ := hcut
          have C9 : Hid (CtxS w wc w.heap.size t f (w.heap.size + 1) n a cap l) := C6.out.below hb
          have A9 : Hid (PV wc p w1.heap.size h0 m b3 c3 k B C) := A6.out.below hb
          have X9 : Hid (PV wc x h0 (x + 1) n b4 l.length l h0 x) := X6.out.below hb
          have G9 : Hid (PV wc g U.heap.size hg m b5 c5 k Bg Cg) := G6.out.below hb
          clear hb C6 A6 X6 G6 p0 p1 x0 x1 hL6 hK6 hB6 hz6 l6 m6
          (have x0 := Blk.cellAt (i := 0) X9.out.blk rfl; have x1 := Blk.cellAt (i := 1) X9.out.blk rfl; simp only [List.getElem_toArray, List.getElem_cons_zero, List.getElem_cons_succ] at x0 x1)
          go_wp2_with fail
          refine (X9.out.call hlen).mono ?_
          rintro e w10 ⟨rfl, hm, hwr⟩
          have C10 : Hid (CtxS w w10 w.heap.size t f (w.heap.size + 1) n a cap l) := C9.out.wrote HR.out hwr (by omega)
          have A10 : Hid (PV w10 p w1.heap.size h0 m b3 c3 k B C) := A9.out.wrote hwr (.inl (Nat.le_refl _))
          have G10 : Hid (PV w10 g U.heap.size hg m b5 c5 k Bg Cg) := G9.out.wrote hwr (.inr (by omega))
          clear hm hwr C9 A9 X9 G9 x0 x1
          have hn1 : ¬ (1 + 3 * (l.length : Int)) < 0 := by omega
          have hn2 : decide ((1 + 3 * (l.length : Int)) < 0) = false := by simpa using hn1
          (have a0 := Blk.cellAt (i := 0) A10.out.blk rfl; have a1 := Blk.cellAt (i := 1) A10.out.blk rfl; simp only [List.getElem_toArray, List.getElem_cons_zero, List.getElem_cons_succ] at a0 a1)
          (have g0 := Blk.cellAt (i := 0) G10.out.blk rfl; have g1 := Blk.cellAt (i := 1) G10.out.blk rfl; simp only [List.getElem_toArray, List.getElem_cons_zero, List.getElem_cons_succ] at g0 g1)
          go_wp2_with fail
          refine ((EK.out _ _ _ _).call _ G10.out.lits A10.out.lits).mono ?_
          rintro e w11 ⟨rfl, hb⟩
          have C11 : Hid (CtxS w w11 w.heap.size t f (w.heap.size + 1) n a cap l) := C10.out.below hb
          have A11 : Hid (PV w11 p w1.heap.size h0 m b3 c3 k B C) := A10.out.below hb
          have G11 : Hid (PV w11 g U.heap.size hg m b5 c5 k Bg Cg) := G10.out.below hb
          clear hb C10 A10 G10 a0 a1 g0 g1 hn1 hn2
          (have g0 := Blk.cellAt (i := 0) G11.out.blk rfl; have g1 := Blk.cellAt (i := 1) G11.out.blk rfl; simp only [List.getElem_toArray, List.getElem_cons_zero, List.getElem_cons_succ] at g0 g1)
          have hBg := G11.out.lo
          go_wp2_with fail
          refine (G11.out.call (by omega)).mono ?_
          rintro e w12 ⟨rfl, hm, hwr⟩
          have C12 : Hid (CtxS w w12 w.heap.size t f (w.heap.size + 1) n a cap l) := C11.out.wrote HR.out hwr (by omega)
          have A12 : Hid (PV w12 p w1.heap.size h0 m b3 c3 k B C) := A11.out.wrote hwr (.inl (by omega))
          have G12 : Hid (MV w12 g U.heap.size hg m b5 c5 k.length Bg Cg) := G11.out.mark hwr hm
          clear hm hwr C11 A11 G11 g0 g1
          (have g0 := Blk.cellAt (i := 0) G12.out.blk rfl; have g1 := Blk.cellAt (i := 1) G12.out.blk rfl; simp only [List.getElem_toArray, List.getElem_cons_zero, List.getElem_cons_succ] at g0 g1)
          go_wp2_with fail
          refine ((heldA (by omega)).call _ G12.out.own).mono ?_
          rintro e w13 ⟨rfl, hb⟩
          have C13 : Hid (CtxS w w13 w.heap.size t f (w.heap.size + 1) n a cap l) := C12.out.below hb
          have A13 : Hid (PV w13 p w1.heap.size h0 m b3 c3 k B C) := A12.out.below hb
          have G13 : Hid (MV w13 g U.heap.size hg m b5 c5 k.length Bg Cg) := G12.out.below hb
          clear hb C12 A12 G12 g0 g1
          have hn1 : ¬ (1 + 3 * (k.length : Int)) < 0 := by omega
          have hn2 : decide ((1 + 3 * (k.length : Int)) < 0) = false := by simpa using hn1
          (have s0 := Blk.cellAt (i := 0) C13.out.sym rfl; have s1 := Blk.cellAt (i := 1) C13.out.sym rfl; simp only [List.getElem_toArray, List.getElem_cons_zero, List.getElem_cons_succ] at s0 s1)
          (have p0 := Blk.cellAt (i := 0) C13.out.ctx.blk rfl; have p1 := Blk.cellAt (i := 1) C13.out.ctx.blk rfl; simp only [List.getElem_toArray, List.getElem_cons_zero, List.getElem_cons_succ] at p0 p1)
          have hL13 := C13.out.ctx.row
          have hB13 : Below w13.heap.size w13 w13 := Below.refl _ _
          have hz13 := Nat.le_refl w13.heap.size
          have l13 := C13.out.ctx.lt
          have m13 : w.heap.size < w13.heap.size := by omega
          go_wp2_with fail
          go_cut [12] (fun v wx => ∃ h B C b5 c5, v = .pointer (some ⟨h, 0, Option.none⟩) ∧ PV wx h w13.heap.size wx.heap.size m b5 c5 k B C ∧ Below w13.heap.size w13 wx)
          case first =>
            go_region_held3 (fun wx => Below w13.heap.size w13 wx ∧ w13.heap.size ≤ wx.heap.size ∧ w.heap.size < wx.heap.size ∧ w.heap.size + 1 < wx.heap.size ∧ wx.cell? ⟨w.heap.size, 0, Option.none⟩ = some (.int .i64 (t)) ∧ wx.cell? ⟨w.heap.size, 1, Option.none⟩ = some (.bool (f)) ∧ wx.cell? ⟨w.heap.size + 1, 0, Option.none⟩ = some (.int .i64 n) ∧ wx.cell? ⟨w.heap.size + 1, 1, Option.none⟩ = some (.slice a l.length cap))
              (((repeat' apply And.intro) <;> first | (with_reducible assumption) | ((repeat (first | (with_reducible assumption) | (with_reducible exact And.left (by assumption)) | (with_reducible exact And.left (And.right (by assumption))) | (with_reducible exact And.left (And.right (And.right (by assumption)))) | (with_reducible refine LitsAt.drew ?_) | (with_reducible refine LitsAt.below ?_ hb) | (with_reducible refine LitsAt.alloc ?_))); done) | (((repeat (first | (with_reducible assumption) | (with_reducible exact cNewAt (by first | rfl | (simp only [World.size_alloc, World.size_setCell, World.size_drew]; done) | omega) rfl) | (with_reducible exact sNewAt (by first | rfl | (simp only [World.size_alloc, World.size_setCell, World.size_drew]; done) | omega) rfl) | (simp; done) | (with_reducible apply cAlloc) | (with_reducible apply cDrew) | (with_reducible refine cSet (by dsimp only; omega) ?_) | (with_reducible refine cSetOff (by dsimp only; omega) ?_) | (with_reducible apply cSame) | (with_reducible refine cBelow (by assumption) ?_) | (with_reducible apply sAlloc) | (with_reducible apply sDrew) | (with_reducible refine sBelow (by assumption) ?_) | (with_reducible refine sSet (by dsimp only; omega) ?_))); first | done | (simp [*]; done)); done) | (simp only [World.size_alloc, World.size_setCell, World.size_drew]; omega) | omega | (go_keep; done) | ((repeat' (first | (with_reducible exact Below.refl _ _) | (with_reducible assumption) | (with_reducible refine Below.alloc ?_ ?_ _) | (with_reducible refine Below.drew ?_) | (with_reducible refine Below.setCell ?_ ?_ _) | (with_reducible refine Below.trans ?_ (Below.mono (by assumption) ?_)) | (with_reducible exact Nat.le_refl _) | omega | (simp only [World.size_alloc, World.size_setCell, World.size_drew]; omega) | (simp; omega) | (simp; done))); done)))
              (first | (go_at_call 50; (with_reducible refine (TS.call _).mono ?_); rintro e w2 ⟨rfl, hb⟩; have hbs := hb.size; (try simp only [World.size_alloc, World.size_setCell, World.size_drew] at hbs); (try ((first | have hN := Blk.belowAt hb hN | have hN := Blk.belowAt hb (Blk.drew (Blk.new _ _ _)) | have hN := Blk.belowAt hb (Blk.new _ _ _)); (try simp only [World.size_drew] at hN); have y0 := Blk.cellAt (i := 0) hN rfl; have y1 := Blk.cellAt (i := 1) hN rfl; simp only [List.getElem_toArray, List.getElem_cons_zero, List.getElem_cons_succ] at y0 y1; have z0 := hN.free 0; have z1 := hN.free 1; have zl := hN.lt))) | (go_at_call 45; (with_reducible refine (T.call _ ?_).mono ?_); (next => exact LitsAt.below hL13 (And.left (by assumption))); rintro e w3 ⟨⟨b2, rfl, ho⟩, hb⟩; have K3 : Hid (LitsAt w3 b2 l) := ho.lits; clear ho; have hbs := hb.size; (try simp only [World.size_alloc, World.size_setCell, World.size_drew] at hbs); (try ((first | have hN := Blk.belowAt hb hN | have hN := Blk.belowAt hb (Blk.drew (Blk.new _ _ _)) | have hN := Blk.belowAt hb (Blk.new _ _ _)); (try simp only [World.size_drew] at hN); have y0 := Blk.cellAt (i := 0) hN rfl; have y1 := Blk.cellAt (i := 1) hN rfl; simp only [List.getElem_toArray, List.getElem_cons_zero, List.getElem_cons_succ] at y0 y1; have z0 := hN.free 0; have z1 := hN.free 1; have zl := hN.lt))) | (go_at_call 29; (with_reducible refine ((HI.out _ _).call _ ?_).mono ?_); (next => first | exact K3.out | exact LitsAt.alloc K3.out); rintro e w4 ⟨b6, c6, ⟨rfl, ho, hb⟩⟩; have hle4 := hb.size; (try simp only [World.size_alloc, World.size_drew] at ho hle4); have HO : Hid (OwnIn w4 _ w4.heap.size b6 k) := ho; clear ho; have hbs := hb.size; (try simp only [World.size_alloc, World.size_setCell, World.size_drew] at hbs); (try ((first | have hN := Blk.belowAt hb hN | have hN := Blk.belowAt hb (Blk.drew (Blk.new _ _ _)) | have hN := Blk.belowAt hb (Blk.new _ _ _)); (try simp only [World.size_drew] at hN); have y0 := Blk.cellAt (i := 0) hN rfl; have y1 := Blk.cellAt (i := 1) hN rfl; simp only [List.getElem_toArray, List.getElem_cons_zero, List.getElem_cons_succ] at y0 y1; have z0 := hN.free 0; have z1 := hN.free 1; have zl := hN.lt))))
            all_goals
              rename_i hHeld
              have hb8 := hHeld.1
              clear hHeld
              go_wp2_with fail
              go_meet
              first
                | exact ⟨_, _, _, b6, c6, rfl, PV.late HO.out (by omega) (by omega), hb8⟩
                | exact ⟨_, _, _, b6, c6, rfl, PV.early HO.out (by omega) hN (by omega) (by omega), hb8⟩
          case rest =>
            obtain ⟨h, Bh, Ch, b6, c6, rfl, hPV, hb⟩ := hcut
            have B15 : Hid (Below w.heap.size w wc) := C13.out.ctx.bel.trans (hb.mono C13.out.ctx.bel.size)
            have A15 : Hid (PV wc p w1.heap.size h0 m b3 c3 k B C) := A13.out.below hb
            have G15 : Hid (MV wc g U.heap.size hg m b5 c5 k.length Bg Cg) := G13.out.below hb
            have H15 : Hid (PV wc h w13.heap.size wc.heap.size m b6 c6 k Bh Ch) := hPV
            clear hb hPV C13 A13 G13 s0 s1 p0 p1 hL13 hB13 hz13 l13 m13
            (have a0 := Blk.cellAt (i := 0) A15.out.blk rfl; have a1 := Blk.cellAt (i := 1) A15.out.blk rfl; simp only [List.getElem_toArray, List.getElem_cons_zero, List.getElem_cons_succ] at a0 a1)
            (have g0 := Blk.cellAt (i := 0) H15.out.blk rfl; have g1 := Blk.cellAt (i := 1) H15.out.blk rfl; simp only [List.getElem_toArray, List.getElem_cons_zero, List.getElem_cons_succ] at g0 g1)
            go_wp2_with fail
            refine ((EK.out _ _ _ _).call _ H15.out.lits A15.out.lits).mono ?_
            rintro e w16 ⟨rfl, hb⟩
            have B16 : Hid (Below w.heap.size w w16) := B15.out.trans (hb.mono B15.out.size)
            have G16 : Hid (MV w16 g U.heap.size hg m b5 c5 k.length Bg Cg) := G15.out.below hb
            clear hb A15 G15 H15 B15 a0 a1 g0 g1
            (have g0 := Blk.cellAt (i := 0) G16.out.blk rfl; have g1 := Blk.cellAt (i := 1) G16.out.blk rfl; simp only [List.getElem_toArray, List.getElem_cons_zero, List.getElem_cons_succ] at g0 g1)
            go_wp2_with fail
            refine ((heldA (by omega)).call _ G16.out.own).mono ?_
            rintro e w17 ⟨rfl, hb⟩
            have B17 : Hid (Below w.heap.size w w17) := B16.out.trans (hb.mono B16.out.size)
            clear hb B16 G16 g0 g1
            go_wp2
            go_ret
            exact ⟨rfl, B17.out⟩
  · have Z := szPic_no (n := n) (a := a) (cap := cap) (len := l.length) (left := 1048576) (by omega) (by omega) (by omega)
    clear hrow hw
    go_enter Try.func12, Try.ntmps12
    go_wp2_with fail
    refine (Z.call _).mono ?_
    rintro e w1 ⟨rfl, hb⟩
    have HB : Hid (Below w.heap.size w w1) := by
      show Below w.heap.size w w1
      exact Below.trans (by (repeat' (first | (with_reducible exact Below.refl _ _) | (with_reducible assumption) | (with_reducible refine Below.alloc ?_ ?_ _) | (with_reducible refine Below.drew ?_) | (with_reducible refine Below.setCell ?_ ?_ _) | (with_reducible refine Below.trans ?_ (Below.mono (by assumption) ?_)) | (with_reducible exact Nat.le_refl _) | omega | (simp only [World.size_alloc, World.size_setCell, World.size_drew]; omega) | (simp; omega) | (simp; done)))) (hb.mono (by simp; omega))
    clear hb
    go_wp2
    all_goals (go_ret; exact ⟨rfl, HB.out⟩)
end Go.Proofs.Ytlnikapkheldeaa.wFnExactActPicture
