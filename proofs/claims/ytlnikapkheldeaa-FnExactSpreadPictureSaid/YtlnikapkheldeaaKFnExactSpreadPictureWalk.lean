/-
  The call of FnExactSpreadPicture returns true and writes nothing that was there.
-/
import Derived.Test.YtlnikapkheldeaaK42
import Derived.Test.YtlnikapkheldeaaK43
import Derived.Test.YtlnikapkheldeaaK23
import Derived.Deep.RegionHeld3
namespace Go.Proofs.Ytlnikapkheldeaa.wFnExactSpreadPicture
open Go.ChangeShapes Go.WideShapes Go.ChangeAt Go.RowKit Go.Joins
set_option linter.unusedSimpArgs false
set_option linter.unusedVariables false
set_option maxRecDepth 100000
attribute [local go_sem] store_f
open Ieee

set_option maxHeartbeats 16000000 in
theorem walk (kind : Int) (n : Int) (a : Option Addr) (cap : Nat) (l : List Lit) (w : World) (_ : -9223372036854775808 ≤ kind) (_ : kind ≤ 9223372036854775807) (_ : -9223372036854775808 ≤ n) (_ : n ≤ 9223372036854775807) (hrow : LitsAt w a l) (hw : ∀ c ∈ l, c.W) (hlc : l.length ≤ cap) (hcm : cap ≤ 9223372036854775807) :
    Calls Try.prog 17 #[.int .i64 kind, .agg #[.int .i64 n, .slice a l.length cap]] w fun e w' => e = .returned (.bool true) ∧ Below w.heap.size w w' := by
  by_cases hlen : l.length ≤ 1048576
  · have Z := szPic_yes (n := n) (a := a) (cap := cap) (len := l.length) (left := 1048576) (by omega) (by omega)
    have T := toPicA (n := n) (a := a) (cap := cap) hlen
    obtain ⟨m, k, ok, SI, SZ, hk64, hkW⟩ := spr_both kind n hw
    have HSI : Hid (∀ a cap, SprI kind n a cap l m k ok) := SI
    have HSZ : Hid (∀ a cap, SprZ kind n a cap l m k ok) := SZ
    have EP : Hid (∀ a c b d, EqPic n a c b d l) := fun a c b d => eqPic hw hlen
    have EK : Hid (∀ a c b d, EqPic m a c b d k) := fun a c b d => eqPic hkW (by omega)
    have HR : Hid (LitsAt w a l) := hrow
    have hle : ¬ (1048576 - (l.length : Int)) < 0 := by omega
    have hld : decide ((1048576 - (l.length : Int)) < 0) = false := by simpa using hle
    clear hrow hw SI SZ hkW
    go_enter Try.func17, Try.ntmps17
    go_wp2_with fail
    generalize hV : w.alloc (.cells #[.int .i64 n, .slice a l.length cap] 69) = V
    have C0 : Hid (Ctx w V w.heap.size n a cap l) := by rw [← hV]; exact ⟨Blk.new _ _ _, HR.out.alloc, (Below.refl _ _).alloc (Nat.le_refl _) _, Nat.le_refl _⟩
    clear hV
    refine (Z.call _).mono ?_
    rintro e w1 ⟨rfl, hb⟩
    have C1 : Hid (Ctx w w1 w.heap.size n a cap l) := C0.out.below hb
    clear hb C0
    (have p0 := Blk.cellAt (i := 0) C1.out.blk rfl; have p1 := Blk.cellAt (i := 1) C1.out.blk rfl; simp only [List.getElem_toArray, List.getElem_cons_zero, List.getElem_cons_succ] at p0 p1)
    go_wp2_with fail
    refine (T.call _ C1.out.row).mono ?_
    rintro e w2 ⟨⟨b2, rfl, ho⟩, hb⟩
    have C2 : Hid (Ctx w w2 w.heap.size n a cap l) := C1.out.below hb
    have K2 : Hid (LitsAt w2 b2 l) := ho.lits
    clear hb ho C1 p0 p1
    go_wp2_with fail
    refine ((HSZ.out _ _).call _ K2.out).mono ?_
    rintro e w3 ⟨b3, c3, ⟨rfl, ho, hb⟩⟩
    have C3 : Hid (Ctx w w3 w.heap.size n a cap l) := C2.out.below hb
    have O3 : Hid (OwnIn w3 w2.heap.size w3.heap.size b3 k) := ho
    have s3 := hb.size
    clear hb ho C2 K2
    (have p0 := Blk.cellAt (i := 0) C3.out.blk rfl; have p1 := Blk.cellAt (i := 1) C3.out.blk rfl; simp only [List.getElem_toArray, List.getElem_cons_zero, List.getElem_cons_succ] at p0 p1)
    have l3 := C3.out.lt
    go_wp2_with fail
    generalize hV : w3.alloc (.cells #[.int .i64 m, .slice b3 k.length c3] 37) = V
    have CV : Hid (Ctx w V w.heap.size n a cap l) := by rw [← hV]; exact C3.out.alloc
    have AV : Hid (PVar V w3.heap.size w2.heap.size w3.heap.size m b3 c3 k) := by rw [← hV]; exact PVar.new O3.out s3
    clear hV C3 O3 s3 p0 p1 l3
    generalize w3.heap.size = p at *
    generalize w2.heap.size = q at *
    refine (T.call _ CV.out.row).mono ?_
    rintro e w4 ⟨⟨b4, rfl, ho⟩, hb⟩
    have C4 : Hid (Ctx w w4 w.heap.size n a cap l) := CV.out.below hb
    have A4 : Hid (PVar w4 p q p m b3 c3 k) := AV.out.below hb
    have O4 : Hid (OwnIn w4 V.heap.size w4.heap.size b4 l) := ho
    have s4 := hb.size
    have hpV := AV.out.lt
    have hcV := CV.out.lt
    clear hb ho CV AV
    go_wp2_with fail
    generalize hU : w4.alloc (.cells #[.int .i64 n, .slice b4 l.length l.length] 37) = U
    have CU : Hid (Ctx w U w.heap.size n a cap l) := by rw [← hU]; exact C4.out.alloc
    have AU : Hid (PVar U p q p m b3 c3 k) := by rw [← hU]; exact A4.out.alloc
    have XU : Hid (PVar U w4.heap.size V.heap.size w4.heap.size n b4 l.length l) := by rw [← hU]; exact PVar.new O4.out s4
    clear hU C4 A4 O4 s4
    generalize w4.heap.size = x at *
    generalize V.heap.size = y at *
    refine ((HSI.out _ _).call _ XU.out.lits).mono ?_
    rintro e w5 ⟨b5, c5, ⟨rfl, ho, hb⟩⟩
    have C5 : Hid (Ctx w w5 w.heap.size n a cap l) := CU.out.below hb
    have A5 : Hid (PVar w5 p q p m b3 c3 k) := AU.out.below hb
    have X5 : Hid (PVar w5 x y x n b4 l.length l) := XU.out.below hb
    have O5 : Hid (OwnIn w5 U.heap.size w5.heap.size b5 k) := ho
    have s5 := hb.size
    have hxU := XU.out.lt
    have hyx := XU.out.le
    clear hb ho CU AU XU
    (have a0 := Blk.cellAt (i := 0) A5.out.blk rfl; have a1 := Blk.cellAt (i := 1) A5.out.blk rfl; simp only [List.getElem_toArray, List.getElem_cons_zero, List.getElem_cons_succ] at a0 a1)
    have l5 := A5.out.lt
    go_wp2_with fail
    generalize hT : w5.alloc (.cells #[.int .i64 m, .slice b5 k.length c5] 37) = T5
    have CT : Hid (Ctx w T5 w.heap.size n a cap l) := by rw [← hT]; exact C5.out.alloc
    have AT : Hid (PVar T5 p q p m b3 c3 k) := by rw [← hT]; exact A5.out.alloc
    have XT : Hid (PVar T5 x y x n b4 l.length l) := by rw [← hT]; exact X5.out.alloc
    have GT : Hid (PVar T5 w5.heap.size U.heap.size w5.heap.size m b5 c5 k) := by rw [← hT]; exact PVar.new O5.out s5
    clear hT C5 A5 X5 O5 s5 a0 a1 l5
    generalize w5.heap.size = g at *
    generalize U.heap.size = f at *
    refine ((EK.out _ _ _ _).call _ GT.out.lits AT.out.lits).mono ?_
    rintro e w6 ⟨rfl, hb⟩
    have C6 : Hid (Ctx w w6 w.heap.size n a cap l) := CT.out.below hb
    have A6 : Hid (PVar w6 p q p m b3 c3 k) := AT.out.below hb
    have X6 : Hid (PVar w6 x y x n b4 l.length l) := XT.out.below hb
    have G6 : Hid (PVar w6 g f g m b5 c5 k) := GT.out.below hb
    clear hb CT AT XT GT
    (have p0 := Blk.cellAt (i := 0) C6.out.blk rfl; have p1 := Blk.cellAt (i := 1) C6.out.blk rfl; simp only [List.getElem_toArray, List.getElem_cons_zero, List.getElem_cons_succ] at p0 p1)
    (have x0 := Blk.cellAt (i := 0) X6.out.blk rfl; have x1 := Blk.cellAt (i := 1) X6.out.blk rfl; simp only [List.getElem_toArray, List.getElem_cons_zero, List.getElem_cons_succ] at x0 x1)
    have hL6 := C6.out.row
    have hK6 := X6.out.lits
    have hB6 : Below w6.heap.size w6 w6 := Below.refl _ _
    have hz6 := Nat.le_refl w6.heap.size
    have l6 := C6.out.lt
    have m6 := X6.out.lt
    go_wp2_with fail
    go_cut [49] (fun v wx => v = .bool false ∧ Below w6.heap.size w6 wx)
    case first =>
      go_region_held3 (fun wx => LitsAt wx a l ∧ LitsAt wx b4 l ∧ Below w6.heap.size w6 wx ∧ w6.heap.size ≤ wx.heap.size ∧ x < wx.heap.size ∧ w.heap.size < wx.heap.size ∧ wx.cell? ⟨w.heap.size, 0, Option.none⟩ = some (.int .i64 n) ∧ wx.cell? ⟨w.heap.size, 1, Option.none⟩ = some (.slice a l.length cap) ∧ wx.cell? ⟨x, 0, Option.none⟩ = some (.int .i64 n) ∧ wx.cell? ⟨x, 1, Option.none⟩ = some (.slice b4 l.length l.length))
        (((repeat' apply And.intro) <;> first | (with_reducible assumption) | ((repeat (first | (with_reducible assumption) | (with_reducible exact And.left (by assumption)) | (with_reducible exact And.left (And.right (by assumption))) | (with_reducible exact And.left (And.right (And.right (by assumption)))) | (with_reducible refine LitsAt.drew ?_) | (with_reducible refine LitsAt.below ?_ hb) | (with_reducible refine LitsAt.alloc ?_))); done) | (((repeat (first | (with_reducible assumption) | (with_reducible exact cNewAt (by first | rfl | (simp only [World.size_alloc, World.size_setCell, World.size_drew]; done) | omega) rfl) | (with_reducible exact sNewAt (by first | rfl | (simp only [World.size_alloc, World.size_setCell, World.size_drew]; done) | omega) rfl) | (simp; done) | (with_reducible apply cAlloc) | (with_reducible apply cDrew) | (with_reducible refine cSet (by dsimp only; omega) ?_) | (with_reducible refine cSetOff (by dsimp only; omega) ?_) | (with_reducible apply cSame) | (with_reducible refine cBelow (by assumption) ?_) | (with_reducible apply sAlloc) | (with_reducible apply sDrew) | (with_reducible refine sBelow (by assumption) ?_) | (with_reducible refine sSet (by dsimp only; omega) ?_))); first | done | (simp [*]; done)); done) | (simp only [World.size_alloc, World.size_setCell, World.size_drew]; omega) | omega | (go_keep; done) | ((repeat' (first | (with_reducible exact Below.refl _ _) | (with_reducible assumption) | (with_reducible refine Below.alloc ?_ ?_ _) | (with_reducible refine Below.drew ?_) | (with_reducible refine Below.setCell ?_ ?_ _) | (with_reducible refine Below.trans ?_ (Below.mono (by assumption) ?_)) | (with_reducible exact Nat.le_refl _) | omega | (simp only [World.size_alloc, World.size_setCell, World.size_drew]; omega) | (simp; omega) | (simp; done))); done)))
        (first | (go_at_call 45; (with_reducible refine (T.call _ ?_).mono ?_); (next => exact And.left (by assumption)); rintro e w7 ⟨⟨b7, rfl, ho⟩, hb⟩; have K7 : Hid (LitsAt w7 b7 l) := ho.lits; have hbs := hb.size; clear ho; (try simp only [World.size_alloc, World.size_setCell, World.size_drew] at hbs)) | (go_at_call 46; (with_reducible refine ((EP.out _ _ _ _).call _ ?_ ?_).mono ?_); (next => exact And.left (And.right (by assumption))); (next => exact K7.out); rintro e w8 ⟨rfl, hb⟩; have hbs := hb.size; (try simp only [World.size_alloc, World.size_setCell, World.size_drew] at hbs)))
      all_goals
        rename_i hHeld
        have hb8 := hHeld.2.2.1
        clear hHeld
        go_wp2_with fail
        go_meet
        exact ⟨rfl, hb8⟩
    case rest =>
      obtain ⟨rfl, hb⟩ := hcut
      have C9 : Hid (Ctx w wc w.heap.size n a cap l) := C6.out.below hb
      have A9 : Hid (PVar wc p q p m b3 c3 k) := A6.out.below hb
      have X9 : Hid (PVar wc x y x n b4 l.length l) := X6.out.below hb
      have G9 : Hid (PVar wc g f g m b5 c5 k) := G6.out.below hb
      clear hb C6 A6 X6 G6 p0 p1 x0 x1 hL6 hK6 hB6 hz6 l6 m6
      (have x0 := Blk.cellAt (i := 0) X9.out.blk rfl; have x1 := Blk.cellAt (i := 1) X9.out.blk rfl; simp only [List.getElem_toArray, List.getElem_cons_zero, List.getElem_cons_succ] at x0 x1)
      go_wp2_with fail
      refine ((markA (l := l) hlen).call _ X9.out.own (Nat.le_trans X9.out.hi (Nat.le_of_lt X9.out.lt)) X9.out.le).mono ?_
      rintro e w10 ⟨rfl, hm, hwr⟩
      have C10 : Hid (Ctx w w10 w.heap.size n a cap l) := C9.out.wrote HR.out hwr hcV
      have A10 : Hid (PVar w10 p q p m b3 c3 k) := A9.out.wrote hwr (.inl hpV)
      have G10 : Hid (PVar w10 g f g m b5 c5 k) := G9.out.wrote hwr (.inr (by omega))
      clear hm hwr C9 A9 X9 G9 x0 x1
      have hn1 : ¬ (1 + 3 * (l.length : Int)) < 0 := by omega
      have hn2 : decide ((1 + 3 * (l.length : Int)) < 0) = false := by simpa using hn1
      (have a0 := Blk.cellAt (i := 0) A10.out.blk rfl; have a1 := Blk.cellAt (i := 1) A10.out.blk rfl; simp only [List.getElem_toArray, List.getElem_cons_zero, List.getElem_cons_succ] at a0 a1)
      (have g0 := Blk.cellAt (i := 0) G10.out.blk rfl; have g1 := Blk.cellAt (i := 1) G10.out.blk rfl; simp only [List.getElem_toArray, List.getElem_cons_zero, List.getElem_cons_succ] at g0 g1)
      go_wp2_with fail
      refine ((EK.out _ _ _ _).call _ G10.out.lits A10.out.lits).mono ?_
      rintro e w11 ⟨rfl, hb⟩
      have C11 : Hid (Ctx w w11 w.heap.size n a cap l) := C10.out.below hb
      have A11 : Hid (PVar w11 p q p m b3 c3 k) := A10.out.below hb
      have G11 : Hid (PVar w11 g f g m b5 c5 k) := G10.out.below hb
      clear hb C10 A10 G10 a0 a1 g0 g1 hn1 hn2
      (have g0 := Blk.cellAt (i := 0) G11.out.blk rfl; have g1 := Blk.cellAt (i := 1) G11.out.blk rfl; simp only [List.getElem_toArray, List.getElem_cons_zero, List.getElem_cons_succ] at g0 g1)
      go_wp2_with fail
      refine ((markA (l := k) (by omega)).call _ G11.out.own (Nat.le_trans G11.out.hi (Nat.le_of_lt G11.out.lt)) G11.out.le).mono ?_
      rintro e w12 ⟨rfl, hm, hwr⟩
      have C12 : Hid (Ctx w w12 w.heap.size n a cap l) := C11.out.wrote HR.out hwr (by omega)
      have A12 : Hid (PVar w12 p q p m b3 c3 k) := A11.out.wrote hwr (.inl (by omega))
      have G12 : Hid (MVar w12 g f g m b5 c5 k.length) := G11.out.mark hwr hm
      clear hm hwr C11 A11 G11 g0 g1
      (have g0 := Blk.cellAt (i := 0) G12.out.blk rfl; have g1 := Blk.cellAt (i := 1) G12.out.blk rfl; simp only [List.getElem_toArray, List.getElem_cons_zero, List.getElem_cons_succ] at g0 g1)
      go_wp2_with fail
      refine ((heldA (by omega)).call _ G12.out.own).mono ?_
      rintro e w13 ⟨rfl, hb⟩
      have C13 : Hid (Ctx w w13 w.heap.size n a cap l) := C12.out.below hb
      have A13 : Hid (PVar w13 p q p m b3 c3 k) := A12.out.below hb
      have G13 : Hid (MVar w13 g f g m b5 c5 k.length) := G12.out.below hb
      clear hb C12 A12 G12 g0 g1
      have hn1 : ¬ (1 + 3 * (k.length : Int)) < 0 := by omega
      have hn2 : decide ((1 + 3 * (k.length : Int)) < 0) = false := by simpa using hn1
      (have p0 := Blk.cellAt (i := 0) C13.out.blk rfl; have p1 := Blk.cellAt (i := 1) C13.out.blk rfl; simp only [List.getElem_toArray, List.getElem_cons_zero, List.getElem_cons_succ] at p0 p1)
      go_wp2_with fail
      refine (T.call _ C13.out.row).mono ?_
      rintro e w14 ⟨⟨b14, rfl, ho⟩, hb⟩
      have C14 : Hid (Ctx w w14 w.heap.size n a cap l) := C13.out.below hb
      have A14 : Hid (PVar w14 p q p m b3 c3 k) := A13.out.below hb
      have G14 : Hid (MVar w14 g f g m b5 c5 k.length) := G13.out.below hb
      have K14 : Hid (LitsAt w14 b14 l) := ho.lits
      clear hb ho C13 A13 G13 p0 p1
      go_wp2_with fail
      refine ((HSI.out _ _).call _ K14.out).mono ?_
      rintro e w15 ⟨b15, c15, ⟨rfl, ho, hb⟩⟩
      have C15 : Hid (Ctx w w15 w.heap.size n a cap l) := C14.out.below hb
      have A15 : Hid (PVar w15 p q p m b3 c3 k) := A14.out.below hb
      have G15 : Hid (MVar w15 g f g m b5 c5 k.length) := G14.out.below hb
      have K15 : Hid (LitsAt w15 b15 k) := ho.lits
      clear hb ho C14 A14 G14 K14
      (have a0 := Blk.cellAt (i := 0) A15.out.blk rfl; have a1 := Blk.cellAt (i := 1) A15.out.blk rfl; simp only [List.getElem_toArray, List.getElem_cons_zero, List.getElem_cons_succ] at a0 a1)
      have la := A15.out.lt
      go_wp2_with fail
      generalize hS : w15.alloc (.cells #[.int .i64 m, .slice b15 k.length c15] 37) = S5
      have CS : Hid (Ctx w S5 w.heap.size n a cap l) := by rw [← hS]; exact C15.out.alloc
      have AS : Hid (PVar S5 p q p m b3 c3 k) := by rw [← hS]; exact A15.out.alloc
      have GS : Hid (MVar S5 g f g m b5 c5 k.length) := by rw [← hS]; exact G15.out.alloc
      have KS : Hid (LitsAt S5 b15 k) := by rw [← hS]; exact K15.out.alloc
      clear hS C15 A15 G15 K15 a0 a1 la
      refine ((EK.out _ _ _ _).call _ KS.out AS.out.lits).mono ?_
      rintro e w16 ⟨rfl, hb⟩
      have C16 : Hid (Ctx w w16 w.heap.size n a cap l) := CS.out.below hb
      have G16 : Hid (MVar w16 g f g m b5 c5 k.length) := GS.out.below hb
      clear hb CS AS GS KS
      (have g0 := Blk.cellAt (i := 0) G16.out.blk rfl; have g1 := Blk.cellAt (i := 1) G16.out.blk rfl; simp only [List.getElem_toArray, List.getElem_cons_zero, List.getElem_cons_succ] at g0 g1)
      go_wp2_with fail
      refine ((heldA (by omega)).call _ G16.out.own).mono ?_
      rintro e w17 ⟨rfl, hb⟩
      have B17 : Hid (Below w.heap.size w w17) := C16.out.bel.trans (hb.mono C16.out.bel.size)
      clear hb C16 G16 g0 g1
      go_wp2
      go_ret
      exact ⟨rfl, B17.out⟩
  · have Z := szPic_no (n := n) (a := a) (cap := cap) (len := l.length) (left := 1048576) (by omega) (by omega) (by omega)
    clear hrow hw
    go_enter Try.func17, Try.ntmps17
    go_wp2_with fail
    refine (Z.call _).mono ?_
    rintro e w1 ⟨rfl, hb⟩
    have HB : Hid (Below w.heap.size w w1) := by
      show Below w.heap.size w w1
      exact Below.trans (by (repeat' (first | (with_reducible exact Below.refl _ _) | (with_reducible assumption) | (with_reducible refine Below.alloc ?_ ?_ _) | (with_reducible refine Below.drew ?_) | (with_reducible refine Below.setCell ?_ ?_ _) | (with_reducible refine Below.trans ?_ (Below.mono (by assumption) ?_)) | (with_reducible exact Nat.le_refl _) | omega | (simp only [World.size_alloc, World.size_setCell, World.size_drew]; omega) | (simp; omega) | (simp; done)))) (hb.mono (by simp))
    clear hb
    go_wp2
    all_goals (go_ret; exact ⟨rfl, HB.out⟩)
end Go.Proofs.Ytlnikapkheldeaa.wFnExactSpreadPicture
