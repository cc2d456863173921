/-
  The call of FnExactMirrorsOfPicture returns true and writes nothing that was there.
-/
import Derived.Test.YtlnikapkheldeaaK42
import Derived.Test.YtlnikapkheldeaaK45
import Derived.Test.YtlnikapkheldeaaK23
import Derived.Deep.RegionHeld3
namespace Go.Proofs.Ytlnikapkheldeaa.wFnExactMirrorsOfPicture
open Go.ChangeShapes Go.WideShapes Go.ChangeAt Go.RowKit Go.Joins
set_option linter.unusedSimpArgs false
set_option linter.unusedVariables false
set_option maxRecDepth 100000
attribute [local go_sem] store_f
open Ieee

set_option maxHeartbeats 8000000 in
theorem walk (n : Int) (a : Option Addr) (cap : Nat) (l : List Lit) (w : World) (_ : -9223372036854775808 ≤ n) (_ : n ≤ 9223372036854775807) (hrow : LitsAt w a l) (hw : ∀ c ∈ l, c.W) (hlc : l.length ≤ cap) (hcm : cap ≤ 9223372036854775807) :
    Calls Try.prog 15 #[.agg #[.int .i64 n, .slice a l.length cap]] w fun e w' => e = .returned (.bool true) ∧ Below w.heap.size w w' := by
  by_cases hlen : l.length ≤ 1048576
  · have Z := szPic_yes (n := n) (a := a) (cap := cap) (len := l.length) (left := 1048576) (by omega) (by omega)
    have T := toPic (n := n) (a := a) (cap := cap) hlen
    obtain ⟨p, MI, MZ⟩ := mir_both n hw
    have SP : Hid (∀ g c, MirZ n (some ⟨g, 0, Option.none⟩) c l p) := fun g c => MZ _ c
    have IP : Hid (∀ g c, MirM n (some ⟨g, 0, Option.none⟩) c l p) := fun g c => MI _ c
    have EP : Hid (∀ g c h d, EqPic n (some ⟨g, 0, Option.none⟩) c (some ⟨h, 0, Option.none⟩) d l) := fun g c h d => eqPic hw hlen
    have HR : Hid (LitsAt w a l) := hrow
    have hle : ¬ (1048576 - (l.length : Int)) < 0 := by omega
    have hld : decide ((1048576 - (l.length : Int)) < 0) = false := by simpa using hle
    clear hrow hw MI MZ
    go_enter Try.func15, Try.ntmps15
    go_wp2_with fail
    generalize hV : w.alloc (.cells #[.int .i64 n, .slice a l.length cap] 69) = V
    have BV : Hid (Blk V w.heap.size #[.int .i64 n, .slice a l.length cap] 69) := by rw [← hV]; exact Blk.new _ _ _
    have LV : Hid (LitsAt V a l) := by rw [← hV]; exact HR.out.alloc
    have HV : Hid (Below w.heap.size w V) := by rw [← hV]; show Below w.heap.size w _; (repeat' (first | (with_reducible exact Below.refl _ _) | (with_reducible assumption) | (with_reducible refine Below.alloc ?_ ?_ _) | (with_reducible refine Below.drew ?_) | (with_reducible refine Below.setCell ?_ ?_ _) | (with_reducible refine Below.trans ?_ (Below.mono (by assumption) ?_)) | (with_reducible exact Nat.le_refl _) | omega | (simp only [World.size_alloc, World.size_setCell, World.size_drew]; omega) | (simp; omega) | (simp; done)))
    have sV : w.heap.size < V.heap.size := BV.out.lt
    clear hV HR
    refine (Z.call _).mono ?_
    rintro e w1 ⟨rfl, hb⟩
    have B1 : Hid (Blk w1 w.heap.size #[.int .i64 n, .slice a l.length cap] 69) := BV.out.below hb
    have L1 : Hid (LitsAt w1 a l) := LV.out.below hb
    have H1 : Hid (Below w.heap.size w w1) := HV.out.trans (hb.mono (by omega))
    have s1 : w.heap.size < w1.heap.size := B1.out.lt
    clear hb BV LV HV sV
    (have p0 := Blk.cellAt (i := 0) B1.out rfl; have p1 := Blk.cellAt (i := 1) B1.out rfl; simp only [List.getElem_toArray, List.getElem_cons_zero, List.getElem_cons_succ] at p0 p1)
    go_wp2_with fail
    refine (T.call _ L1.out).mono ?_
    rintro e w2 ⟨⟨g2, rfl, hg2, hk⟩, hb⟩
    have B2 : Hid (Blk w2 w.heap.size #[.int .i64 n, .slice a l.length cap] 69) := B1.out.below hb
    have L2 : Hid (LitsAt w2 a l) := L1.out.below hb
    have H2 : Hid (Below w.heap.size w w2) := H1.out.trans (hb.mono (by omega))
    have s2 : w.heap.size < w2.heap.size := B2.out.lt
    have K2 : Hid (LitsAt w2 (some ⟨g2, 0, Option.none⟩) l) := Or.inr ⟨g2, 0, rfl, hk.row⟩
    clear hb hk hg2 B1 L1 H1 s1 p0 p1
    go_wp2_with fail
    refine ((SP.out _ _).call _ K2.out).mono ?_
    rintro e w3 ⟨rfl, hb⟩
    have B3 : Hid (Blk w3 w.heap.size #[.int .i64 n, .slice a l.length cap] 69) := B2.out.below hb
    have L3 : Hid (LitsAt w3 a l) := L2.out.below hb
    have H3 : Hid (Below w.heap.size w w3) := H2.out.trans (hb.mono (by omega))
    have s3 : w.heap.size < w3.heap.size := B3.out.lt
    clear hb B2 L2 H2 K2 s2
    (have p0 := Blk.cellAt (i := 0) B3.out rfl; have p1 := Blk.cellAt (i := 1) B3.out rfl; simp only [List.getElem_toArray, List.getElem_cons_zero, List.getElem_cons_succ] at p0 p1)
    go_wp2_with fail
    refine (T.call _ L3.out).mono ?_
    rintro e w4 ⟨⟨g4, rfl, hg4, hk⟩, hb⟩
    have B4 : Hid (Blk w4 w.heap.size #[.int .i64 n, .slice a l.length cap] 69) := B3.out.below hb
    have L4 : Hid (LitsAt w4 a l) := L3.out.below hb
    have H4 : Hid (Below w.heap.size w w4) := H3.out.trans (hb.mono (by omega))
    have s4 : w.heap.size < w4.heap.size := B4.out.lt
    have K4 : Hid (LitsAt w4 (some ⟨g4, 0, Option.none⟩) l) := Or.inr ⟨g4, 0, rfl, hk.row⟩
    clear hb hk hg4 B3 L3 H3 s3 p0 p1
    go_wp2_with fail
    generalize hX : w4.alloc (.cells #[.int .i64 n, .slice (some ⟨g4, 0, Option.none⟩) l.length l.length] 37) = X
    have XX : Hid (Blk X w4.heap.size #[.int .i64 n, .slice (some ⟨g4, 0, Option.none⟩) l.length l.length] 37) := by rw [← hX]; exact Blk.new _ _ _
    have BX : Hid (Blk X w.heap.size #[.int .i64 n, .slice a l.length cap] 69) := by rw [← hX]; exact B4.out.alloc
    have LX : Hid (LitsAt X a l) := by rw [← hX]; exact L4.out.alloc
    have KX : Hid (LitsAt X (some ⟨g4, 0, Option.none⟩) l) := by rw [← hX]; exact K4.out.alloc
    have HX : Hid (Below w.heap.size w X) := by rw [← hX]; exact H4.out.alloc (by omega) _
    have sX : w4.heap.size < X.heap.size := XX.out.lt
    clear hX B4 L4 H4 K4
    generalize w4.heap.size = nx at *
    refine ((IP.out _ _).call _ KX.out).mono ?_
    rintro e w5 ⟨rfl, hb⟩
    have X5 : Hid (Blk w5 nx #[.int .i64 n, .slice (some ⟨g4, 0, Option.none⟩) l.length l.length] 37) := XX.out.below hb
    have B5 : Hid (Blk w5 w.heap.size #[.int .i64 n, .slice a l.length cap] 69) := BX.out.below hb
    have L5 : Hid (LitsAt w5 a l) := LX.out.below hb
    have K5 : Hid (LitsAt w5 (some ⟨g4, 0, Option.none⟩) l) := KX.out.below hb
    have H5 : Hid (Below w.heap.size w w5) := HX.out.trans (hb.mono (by omega))
    clear hb XX BX LX KX HX sX s4
    (have p0 := Blk.cellAt (i := 0) B5.out rfl; have p1 := Blk.cellAt (i := 1) B5.out rfl; simp only [List.getElem_toArray, List.getElem_cons_zero, List.getElem_cons_succ] at p0 p1)
    (have x0 := Blk.cellAt (i := 0) X5.out rfl; have x1 := Blk.cellAt (i := 1) X5.out rfl; simp only [List.getElem_toArray, List.getElem_cons_zero, List.getElem_cons_succ] at x0 x1)
    have hL5 := L5.out
    have hK5 := K5.out
    have hB5 : Below w5.heap.size w5 w5 := Below.refl _ _
    have hz5 := Nat.le_refl w5.heap.size
    have l5 := X5.out.lt
    have m5 := B5.out.lt
    go_wp2_with fail
    go_region_held3 (fun wx => LitsAt wx a l ∧ LitsAt wx (some ⟨g4, 0, Option.none⟩) l ∧ Below w5.heap.size w5 wx ∧ w5.heap.size ≤ wx.heap.size ∧ nx < wx.heap.size ∧ w.heap.size < wx.heap.size ∧ wx.cell? ⟨w.heap.size, 0, Option.none⟩ = some (.int .i64 n) ∧ wx.cell? ⟨w.heap.size, 1, Option.none⟩ = some (.slice a l.length cap) ∧ wx.cell? ⟨nx, 0, Option.none⟩ = some (.int .i64 n) ∧ wx.cell? ⟨nx, 1, Option.none⟩ = some (.slice (some ⟨g4, 0, Option.none⟩) l.length l.length))
      (((repeat' apply And.intro) <;> first | (with_reducible assumption) | ((repeat (first | (with_reducible assumption) | (with_reducible exact And.left (by assumption)) | (with_reducible exact And.left (And.right (by assumption))) | (with_reducible exact And.left (And.right (And.right (by assumption)))) | (with_reducible refine LitsAt.drew ?_) | (with_reducible refine LitsAt.below ?_ hb) | (with_reducible refine LitsAt.alloc ?_))); done) | (((repeat (first | (with_reducible assumption) | (with_reducible exact cNewAt (by first | rfl | (simp only [World.size_alloc, World.size_setCell, World.size_drew]; done) | omega) rfl) | (with_reducible exact sNewAt (by first | rfl | (simp only [World.size_alloc, World.size_setCell, World.size_drew]; done) | omega) rfl) | (simp; done) | (with_reducible apply cAlloc) | (with_reducible apply cDrew) | (with_reducible refine cSet (by dsimp only; omega) ?_) | (with_reducible refine cSetOff (by dsimp only; omega) ?_) | (with_reducible apply cSame) | (with_reducible refine cBelow (by assumption) ?_) | (with_reducible apply sAlloc) | (with_reducible apply sDrew) | (with_reducible refine sBelow (by assumption) ?_) | (with_reducible refine sSet (by dsimp only; omega) ?_))); first | done | (simp [*]; done)); done) | (simp only [World.size_alloc, World.size_setCell, World.size_drew]; omega) | omega | (go_keep; done) | ((repeat' (first | (with_reducible exact Below.refl _ _) | (with_reducible assumption) | (with_reducible refine Below.alloc ?_ ?_ _) | (with_reducible refine Below.drew ?_) | (with_reducible refine Below.setCell ?_ ?_ _) | (with_reducible refine Below.trans ?_ (Below.mono (by assumption) ?_)) | (with_reducible exact Nat.le_refl _) | omega | (simp only [World.size_alloc, World.size_setCell, World.size_drew]; omega) | (simp; omega) | (simp; done))); done)))
      (first | (go_at_call 45; (with_reducible refine (T.call _ ?_).mono ?_); (next => exact And.left (by assumption)); rintro e w6 ⟨⟨g6, rfl, hg6, hk6⟩, hb⟩; have K6 : Hid (LitsAt w6 (some ⟨g6, 0, Option.none⟩) l) := Or.inr ⟨g6, 0, rfl, hk6.row⟩; have hbs := hb.size; clear hk6; (try simp only [World.size_alloc, World.size_setCell, World.size_drew] at hbs)) | (go_at_call 46; (with_reducible refine ((EP.out _ _ _ _).call _ ?_ ?_).mono ?_); (next => exact And.left (And.right (by assumption))); (next => exact K6.out); rintro e w7 ⟨rfl, hb⟩; have hbs := hb.size; (try simp only [World.size_alloc, World.size_setCell, World.size_drew] at hbs)))
    all_goals
      rename_i hHeld
      have hb7 := hHeld.2.2.1
      have HB7 : Hid (Below w.heap.size w w7) := H5.out.trans (hb7.mono (by omega))
      clear hHeld hb7
      go_wp2
      go_ret
      exact ⟨rfl, HB7.out⟩
  · have Z := szPic_no (n := n) (a := a) (cap := cap) (len := l.length) (left := 1048576) (by omega) (by omega) (by omega)
    clear hrow hw
    go_enter Try.func15, Try.ntmps15
    go_wp2_with fail
    refine (Z.call _).mono ?_
    rintro e w1 ⟨rfl, hb⟩
    have HB : Hid (Below w.heap.size w w1) := by
      show Below w.heap.size w w1
      exact Below.trans (by (repeat' (first | (with_reducible exact Below.refl _ _) | (with_reducible assumption) | (with_reducible refine Below.alloc ?_ ?_ _) | (with_reducible refine Below.drew ?_) | (with_reducible refine Below.setCell ?_ ?_ _) | (with_reducible refine Below.trans ?_ (Below.mono (by assumption) ?_)) | (with_reducible exact Nat.le_refl _) | omega | (simp only [World.size_alloc, World.size_setCell, World.size_drew]; omega) | (simp; omega) | (simp; done)))) (hb.mono (by simp))
    clear hb
    go_wp2
    all_goals (go_ret; exact ⟨rfl, HB.out⟩)
end Go.Proofs.Ytlnikapkheldeaa.wFnExactMirrorsOfPicture
