/-
  Texts FnSeenWalk Laid Join PlainYes, joined.
-/
import Derived.Test.YtfdgijmmgllmgaaGreatDoorS41
import Derived.Deep.DeepCutAuto
import Derived.Deep.RegionHeld3
import Derived.Test.YtfdgijmmgllmgaaGreatDoorS01
import Derived.Test.YtfdgijmmgllmgaaGreatDoorCards
import Derived.Test.YtfdgijmmgllmgaaGreatDoorTie
import Derived.LaidMore
import Derived.LaidOnce
import Derived.SevenTiedAt
import Derived.Stop.Joined
namespace Go.Proofs.YtfdgijmmgllmgaaGreatDoor.wFnSeen
open Go.ChangeShapes Go.WideShapes Go.ChangeAt Go.RowKit Go.Joins
set_option linter.unusedSimpArgs false
set_option linter.unusedVariables false
set_option maxRecDepth 100000
attribute [local go_sem] store_f
open Ieee Go.Lib
attribute [local go_sem] store_c
structure Tq (w W : World) (T : Shw) (n : Nat) (a2 b2 l2 : Option Addr) (ca2 cb2 cl2 : Nat) : Prop where
  box : Blk W n #[.int .i64 T.w.size, .float .f32 T.w.step, .float .f32 T.w.lit.r, .float .f32 T.w.lit.g, .float .f32 T.w.lit.b, .slice a2 T.bds.length ca2, .int .i64 T.w.kind, .complex .f32 T.w.g1 T.w.g2, .float .f32 0, .slice b2 T.bds.length cb2, .int .i64 T.w.ticks, .slice l2 T.log.length cl2] 34
  inn : ShoIn W T.w a2 b2 l2
  below : Below w.heap.size w W
theorem Tq.mono {w W W1 : World} {T : Shw} {n : Nat} {a2 b2 l2 : Option Addr} {ca2 cb2 cl2 : Nat} (h : Tq w W T n a2 b2 l2 ca2 cb2 cl2) (hb : Below W.heap.size W W1) : Tq w W1 T n a2 b2 l2 ca2 cb2 cl2 :=
  ⟨h.box.below hb, h.inn.below hb, h.below.trans (hb.mono h.below.size)⟩
theorem Tq.alloc {w W : World} {T : Shw} {n : Nat} {a2 b2 l2 : Option Addr} {ca2 cb2 cl2 : Nat} {o : Obj} (h : Tq w W T n a2 b2 l2 ca2 cb2 cl2) : Tq w (W.alloc o) T n a2 b2 l2 ca2 cb2 cl2 :=
  h.mono ((Below.refl _ _).alloc (Nat.le_refl _) _)
theorem strs_keep {W W' : World} {g n B : Nat} {f : Nat → ByteArray} (h : StrsAt W g n f) (hb : Below B W W') (hB : g < B) : StrsAt W' g n f :=
  ⟨Nat.lt_of_lt_of_le h.1 hb.size, fun k hk => (hb.cell (p := ⟨g, k, Option.none⟩) hB).trans (h.2 k hk)⟩
structure HasIs (l : List (Int × Bool)) (g cap : Nat) (t : Int) (f : Bool) : Prop where
  call : ∀ w : World, SymRow w g l → Calls Tryz.prog 10 #[.slice (some ⟨g, 0, Option.none⟩) l.length cap, .agg #[.int .i64 t, .bool f]] w fun e w' => e = .returned (.bool true) ∧ Below w.heap.size w w'
theorem hasIs {l : List (Int × Bool)} (g cap : Nat) {t : Int} {f : Bool} (hl : l.length ≤ 8) (h : (t, f) ∈ l) : HasIs l g cap t f := ⟨fun w hr => has_yes l g _ cap t f w rfl (by omega) hr h⟩
set_option maxHeartbeats 64000000 in
theorem walk (a : Option Addr) (len cap : Nat) (bs : List Int) (w : World) (hrow : ByteRow w w.heap.size a len bs) :
    Calls Tryz.prog 3 #[.slice a len cap] w fun e w' => e = .returned (.bool true) ∧ Below w.heap.size w w' := by
  by_cases hl : len ≤ 4096
  · go_enter Tryz.func3, Tryz.ntmps3
    go_wp2_with fail
    refine (big_no _ _ _ _ hl).mono ?_
    rintro e w0 ⟨rfl, rfl⟩
    go_wp2_with fail
    refine (drawShow_s a len cap bs _ hrow hl).mono ?_
    rintro e w1 ⟨S, x, a1, b1, l1, ca1, cb1, cl1, ⟨rfl, told, ok, hlen, hcost, hinn, hb1, _, _⟩⟩
    obtain ⟨m, pl, sl, h, u, K⟩ := seenQ (told.good (by omega) (by omega))
    have SE := K.seen
    have IP := Lib.hid K.is
    have SY := Lib.hid K.sy
    have SO := K.so
    have SUB := Lib.hid K.sub
    have few := K.few
    have two := K.two
    have hsz : (((S.size : Nat) : Int) != S.w.size) = false := by rw [K.size]; simp
    have nb := K.nb
    have A1 := Lib.hid K.a1
    have A2 := Lib.hid K.a2
    have A3 := Lib.hid K.a3
    have B0 := Lib.hid hb1
    have I0 := Lib.hid hinn
    have s0 := hb1.size
    clear told ok hlen hcost hinn hb1 hrow K
    go_wp2_with fail
    generalize hV : (w1.alloc (.cells #[.int .i64 S.w.size, .float .f32 S.w.step, .float .f32 S.w.lit.r, .float .f32 S.w.lit.g, .float .f32 S.w.lit.b, .slice a1 S.bds.length ca1, .int .i64 S.w.kind, .complex .f32 S.w.g1 S.w.g2, .float .f32 0, .slice b1 S.bds.length cb1, .int .i64 S.w.ticks, .slice l1 S.log.length cl1] 34)).alloc (.cells #[.int .i64 x.w.kind, .int .i64 x.w.n, .complex .f32 x.w.z1 x.w.z2, .complex .f32 x.w.s.a1 x.w.s.a2, .complex .f32 x.w.s.b1 x.w.s.b2, .complex .f32 x.w.s.c1 x.w.s.c2, .float .f32 x.w.s.r, .float .f32 x.w.s.g, .float .f32 x.w.s.b, .float .f32 x.w.s.k, .float .f32 x.w.l.r, .float .f32 x.w.l.g, .float .f32 x.w.l.b] 38) = V
    have T1 : Hid (Tq w V S w1.heap.size a1 b1 l1 ca1 cb1 cl1) := by rw [← hV]; exact ⟨(Blk.new _ _ _).alloc, I0.out.alloc.alloc, (B0.out.alloc s0 _).alloc (by simp; omega) _⟩
    clear hV B0 I0 s0
    generalize w1.heap.size = n at *
    refine (SE.call _ _ _ _ _ _ _ T1.out.inn).mono ?_
    rintro e w2 ⟨g2, c2, ⟨rfl, hL2, _⟩, hb⟩
    have T2 := Lib.hid ((T1.out.mono hb).alloc (o := .cells #[.int .i64 S.size, .slice (some ⟨g2, 0, Option.none⟩) m.length c2] 43))
    have L2 := Lib.hid (hL2.alloc (o := .cells #[.int .i64 S.size, .slice (some ⟨g2, 0, Option.none⟩) m.length c2] 43))
    have P2 : Hid (Blk (w2.alloc (.cells #[.int .i64 S.size, .slice (some ⟨g2, 0, Option.none⟩) m.length c2] 43)) w2.heap.size #[.int .i64 S.size, .slice (some ⟨g2, 0, Option.none⟩) m.length c2] 43) := Blk.new _ _ _
    clear hb hL2 T1 SE
    go_wp2_with fail
    generalize w2.alloc (.cells #[.int .i64 S.size, .slice (some ⟨g2, 0, Option.none⟩) m.length c2] 43) = V2 at *
    generalize w2.heap.size = p2 at *
    refine ((IP.out _ _).call _ (Or.inr ⟨g2, 0, rfl, L2.out⟩)).mono ?_
    rintro e w3 ⟨rfl, hb⟩
    have T3 := Lib.hid (T2.out.mono hb)
    have L3 := Lib.hid (L2.out.below hb)
    have P3 := Lib.hid (P2.out.below hb)
    clear hb T2 L2 P2 IP
    (obtain ⟨t0, t1, t2, t3, t4, t5, t6, t7, t8, t9, t10, t11⟩ := blk12 (T3.out.box))
    (have q0 := Blk.cellAt (i := 0) P3.out rfl; have q1 := Blk.cellAt (i := 1) P3.out rfl; simp only [List.getElem_toArray, List.getElem_cons_zero, List.getElem_cons_succ] at q0 q1)
    go_wp2_with fail
    refine ((SY.out _ _).call _ (Or.inr ⟨g2, 0, rfl, L3.out⟩)).mono ?_
    rintro e w4 ⟨⟨g4, c4, ⟨rfl, hown⟩⟩, hb⟩
    have T4 := Lib.hid (T3.out.mono hb)
    have R4 : Hid (SymRow w4 g4 pl) := symRow_of hown rfl
    clear hb hown T3 L3 P3 SY q0 q1 t0 t1 t2 t3 t4 t5 t6 t7 t8 t9 t10 t11
    (obtain ⟨t0, t1, t2, t3, t4, t5, t6, t7, t8, t9, t10, t11⟩ := blk12 (T4.out.box))
    go_wp2_with fail
    refine (SO.call _).mono ?_
    rintro e w5 ⟨g5, c5, rfl, hown, hb⟩
    have T5 := Lib.hid (T4.out.mono hb)
    have R5 := Lib.hid (R4.out.below hb)
    have Q5 : Hid (SymRow w5 g5 sl) := symRow_of hown rfl
    clear hb hown T4 R4 SO t0 t1 t2 t3 t4 t5 t6 t7 t8 t9 t10 t11
    have HAS : Hid (∀ k, k < sl.length → HasIs pl g4 c4 (sl.getD k (0, false)).1 (sl.getD k (0, false)).2) := fun k hk => hasIs g4 c4 few (SUB.out _ (getD_memS hk))
    go_wp2_with fail
    go_loopw [9] (fun i wr => ∃ k : Nat, k ≤ sl.length ∧ i = .int .i64 k ∧ Below w5.heap.size w5 wr) (fun i _ => sl.length - (Lib.intOf i).toNat)
    case atStart => exact ⟨0, by omega, rfl, Below.refl _ _⟩
    case round =>
      obtain ⟨k, hk, rfl, hbel⟩ := hrel
      have HB := Lib.hid hbel
      have hbs := hbel.size
      by_cases hlt : k < sl.length
      · obtain ⟨c0, c1⟩ := (Q5.out.below hbel) k hlt
        have HK := HAS.out k hlt
        generalize sl.getD k (0, false) = p at *
        have hk0 : (0 : Int) ≤ (k : Int) := by omega
        have hk1 : (k : Int) < (sl.length : Int) := by omega
        clear hbel
        go_wp2_with fail
        refine (HK.call _ (R5.out.below HB.out)).mono ?_
        rintro e w6 ⟨rfl, hb⟩
        have HB6 : Hid (Below w5.heap.size w5 w6) := HB.out.trans (hb.mono hbs)
        clear hb c0 c1 HB
        go_wp2
        go_roundw
        case rel => exact ⟨k + 1, by omega, by go_num, HB6.out⟩
        case measure => simp [Lib.intOf]; omega
      · have hkl : k = sl.length := by omega
        subst hkl
        have T6 := Lib.hid (T5.out.mono hbel)
        have R6 := Lib.hid (R5.out.below hbel)
        clear hbel HB T5 R5 Q5 HAS SUB two
        (obtain ⟨t0, t1, t2, t3, t4, t5, t6, t7, t8, t9, t10, t11⟩ := blk12 (T6.out.box))
        go_wp2_with fail
        refine (A1.out.call _ _ _ _ _ _ _ T6.out.inn).mono ?_
        rintro e w7 ⟨⟨g7, c7, rfl, hS7⟩, hb⟩
        have T7 := Lib.hid (T6.out.mono hb)
        have R7 := Lib.hid (R6.out.below hb)
        have S7 := Lib.hid hS7
        clear hb hS7 T6 R6 A1 t0 t1 t2 t3 t4 t5 t6 t7 t8 t9 t10 t11
        (obtain ⟨t0, t1, t2, t3, t4, t5, t6, t7, t8, t9, t10, t11⟩ := blk12 (T7.out.box))
        go_wp2_with fail
        refine (A2.out.call _ _ _ _ _ _ _ T7.out.inn).mono ?_
        rintro e w8 ⟨⟨g8, c8, rfl, hS8⟩, hb⟩
        have T8 := Lib.hid (T7.out.mono hb)
        have R8 := Lib.hid (R7.out.below hb)
        have S8 := Lib.hid (strs_keep S7.out hb S7.out.1)
        clear hb hS8 T7 R7 S7 A2 t0 t1 t2 t3 t4 t5 t6 t7 t8 t9 t10 t11
        (obtain ⟨t0, t1, t2, t3, t4, t5, t6, t7, t8, t9, t10, t11⟩ := blk12 (T8.out.box))
        have lt := T8.out.box.lt
        have hB8 : Below w8.heap.size w8 w8 := Below.refl _ _
        have hz8 := Nat.le_refl w8.heap.size
        go_upto_region 16 with fail
        go_region_held3 (fun wx => Below w8.heap.size w8 wx ∧ w8.heap.size ≤ wx.heap.size ∧ n < wx.heap.size ∧ wx.cell? ⟨n, 0, Option.none⟩ = some (.int .i64 S.w.size) ∧ wx.cell? ⟨n, 1, Option.none⟩ = some (.float .f32 S.w.step) ∧ wx.cell? ⟨n, 2, Option.none⟩ = some (.float .f32 S.w.lit.r) ∧ wx.cell? ⟨n, 3, Option.none⟩ = some (.float .f32 S.w.lit.g) ∧ wx.cell? ⟨n, 4, Option.none⟩ = some (.float .f32 S.w.lit.b) ∧ wx.cell? ⟨n, 5, Option.none⟩ = some (.slice a1 S.bds.length ca1) ∧ wx.cell? ⟨n, 6, Option.none⟩ = some (.int .i64 S.w.kind) ∧ wx.cell? ⟨n, 7, Option.none⟩ = some (.complex .f32 S.w.g1 S.w.g2) ∧ wx.cell? ⟨n, 8, Option.none⟩ = some (.float .f32 0) ∧ wx.cell? ⟨n, 9, Option.none⟩ = some (.slice b1 S.bds.length cb1) ∧ wx.cell? ⟨n, 10, Option.none⟩ = some (.int .i64 S.w.ticks) ∧ wx.cell? ⟨n, 11, Option.none⟩ = some (.slice l1 S.log.length cl1))
          (((repeat' apply And.intro) <;> first | (with_reducible assumption) | (((repeat (first | (with_reducible assumption) | (with_reducible exact cNewAt (by first | rfl | (simp only [World.size_alloc, World.size_setCell, World.size_drew]; done) | omega) rfl) | (with_reducible exact sNewAt (by first | rfl | (simp only [World.size_alloc, World.size_setCell, World.size_drew]; done) | omega) rfl) | (simp; done) | (with_reducible apply cAlloc) | (with_reducible apply cDrew) | (with_reducible refine cSet (by dsimp only; omega) ?_) | (with_reducible refine cSetOff (by dsimp only; omega) ?_) | (with_reducible apply cSame) | (with_reducible refine cBelow (by assumption) ?_) | (with_reducible apply sAlloc) | (with_reducible apply sDrew) | (with_reducible refine sBelow (by assumption) ?_) | (with_reducible refine sSet (by dsimp only; omega) ?_))); first | done | (simp [*]; done)); done) | (simp only [World.size_alloc, World.size_setCell, World.size_drew]; omega) | omega | (go_keep; done) | ((repeat' (first | (with_reducible exact Below.refl _ _) | (with_reducible assumption) | (with_reducible refine Below.alloc ?_ ?_ _) | (with_reducible refine Below.drew ?_) | (with_reducible refine Below.setCell ?_ ?_ _) | (with_reducible refine Below.trans ?_ (Below.mono (by assumption) ?_)) | (with_reducible exact Nat.le_refl _) | omega | (simp only [World.size_alloc, World.size_setCell, World.size_drew]; omega) | (simp; omega) | (simp; done))); done)))
          (first | (go_at_call 11; (with_reducible refine (A3.out.call _ _ _ _ _ _ _ ?_).mono ?_); (next => exact ShoIn.below T8.out.inn (And.left (by assumption))); rintro e w9 ⟨⟨g9, c9, rfl, _⟩, hb⟩; have hbs := hb.size; (try simp only [World.size_alloc, World.size_drew] at hbs)))
        rename_i hHeld
        have hb9 := hHeld.1
        have T9 := Lib.hid (T8.out.mono hb9)
        have R9 := Lib.hid (R8.out.below hb9)
        have S9 := Lib.hid (strs_keep S8.out hb9 S8.out.1)
        clear hHeld hb9 hB8 T8 R8 S8 A3 t0 t1 t2 t3 t4 t5 t6 t7 t8 t9 t10 t11
        go_wp2_with fail
        go_loopw [12] (fun i wr => ∃ k : Nat, k ≤ pl.length ∧ i = .int .i64 k ∧ Below w9.heap.size w9 wr) (fun i _ => pl.length - (Lib.intOf i).toNat)
        case atStart => exact ⟨0, by omega, rfl, Below.refl _ _⟩
        case round =>
          obtain ⟨k, hk, rfl, hbel⟩ := hrel
          have HB := Lib.hid hbel
          have hbs := hbel.size
          by_cases hlt : k < pl.length
          · have s0 : _ = some (Value.string (textS (pl.getD k (0, false)).1 (pl.getD k (0, false)).2)) := (strs_keep S9.out hbel S9.out.1).2 k hlt
            obtain ⟨c0, c1⟩ := (R9.out.below hbel) k hlt
            generalize pl.getD k (0, false) = p at *
            have KF : ForQ p.1 p.2 (textS p.1 p.2) := ⟨fun w => formatSym_i _ _ w⟩
            generalize textS p.1 p.2 = s at *
            have hk0 : (0 : Int) ≤ (k : Int) := by omega
            have hk1 : (k : Int) < (pl.length : Int) := by omega
            have lg7 := cell_lt s0
            have lg4 := cell_lt c0
            have hBR : Below wr.heap.size wr wr := Below.refl _ _
            clear hbel
            go_wp2_with fail
            go_region_held3 (fun wx => Below wr.heap.size wr wx ∧ g7 < wx.heap.size ∧ g4 < wx.heap.size ∧ wx.cell? ⟨g7, k, Option.none⟩ = some (.string s) ∧ wx.cell? ⟨g4, k * 2, Option.none⟩ = some (.int .i64 p.1) ∧ wx.cell? ⟨g4, k * 2 + 1, Option.none⟩ = some (.bool p.2))
              (((repeat' apply And.intro) <;> first | (with_reducible assumption) | (((repeat (first | (with_reducible assumption) | (with_reducible exact cNewAt (by first | rfl | (simp only [World.size_alloc, World.size_setCell, World.size_drew]; done) | omega) rfl) | (with_reducible exact sNewAt (by first | rfl | (simp only [World.size_alloc, World.size_setCell, World.size_drew]; done) | omega) rfl) | (simp; done) | (with_reducible apply cAlloc) | (with_reducible apply cDrew) | (with_reducible refine cSet (by dsimp only; omega) ?_) | (with_reducible refine cSetOff (by dsimp only; omega) ?_) | (with_reducible apply cSame) | (with_reducible refine cBelow (by assumption) ?_) | (with_reducible apply sAlloc) | (with_reducible apply sDrew) | (with_reducible refine sBelow (by assumption) ?_) | (with_reducible refine sSet (by dsimp only; omega) ?_))); first | done | (simp [*]; done)); done) | (simp only [World.size_alloc, World.size_setCell, World.size_drew]; omega) | omega | (go_keep; done) | ((repeat' (first | (with_reducible exact Below.refl _ _) | (with_reducible assumption) | (with_reducible refine Below.alloc ?_ ?_ _) | (with_reducible refine Below.drew ?_) | (with_reducible refine Below.setCell ?_ ?_ _) | (with_reducible refine Below.trans ?_ (Below.mono (by assumption) ?_)) | (with_reducible exact Nat.le_refl _) | omega | (simp only [World.size_alloc, World.size_setCell, World.size_drew]; omega) | (simp; omega) | (simp; done))); done)))
              (first | (go_at_call 12; (with_reducible refine (KF.call _).mono ?_); rintro e w10 ⟨rfl, hb⟩; have hbs10 := hb.size; (try simp only [World.size_alloc, World.size_drew] at hbs10)))
            all_goals
              rename_i hHeld
              have HB10 : Hid (Below w9.heap.size w9 w10) := HB.out.trans (hHeld.1.mono hbs)
              clear hHeld hBR s0 c0 c1 lg7 lg4
              go_wp2
              go_roundw
              case rel => exact ⟨k + 1, by omega, by go_num, HB10.out⟩
              case measure => simp [Lib.intOf]; omega
          · have hkl : k = pl.length := by omega
            have BF : Hid (Below w.heap.size w wr) := T9.out.below.trans (hbel.mono T9.out.below.size)
            clear hbel HB T9 R9 S9
            go_wp2
            go_ret
            exact ⟨rfl, BF.out⟩
  · go_enter Tryz.func3, Tryz.ntmps3
    go_wp2_with fail
    refine (big_yes _ _ _ _ hl).mono ?_
    rintro e w0 ⟨rfl, rfl⟩
    go_wp2
    all_goals (go_returns; exact ⟨rfl, by (repeat' (first | (with_reducible exact Below.refl _ _) | (with_reducible assumption) | (with_reducible refine Below.alloc ?_ ?_ _) | (with_reducible refine Below.drew ?_) | (with_reducible refine Below.setCell ?_ ?_ _) | (with_reducible refine Below.trans ?_ (Below.mono (by assumption) ?_)) | (with_reducible exact Nat.le_refl _) | omega | (simp only [World.size_alloc, World.size_setCell, World.size_drew]; omega) | (simp; omega) | (simp; done)))⟩)
end Go.Proofs.YtfdgijmmgllmgaaGreatDoor.wFnSeen
namespace Go.Proofs.YtfdgijmmgllmgaaGreatDoor
open Go.ChangeShapes Go.WideShapes Go.ChangeAt Go.RowKit
def laidAll : List (String × DataW Unit) := [("math/bits.deBruijn32tab", Rows.laid_math_bits_deBruijn32tab), ("math/bits.deBruijn64tab", Rows.laid_math_bits_deBruijn64tab), ("internal/strconv.uint64pow10", Rows.laid_internal_strconv_uint64pow10)]
set_option maxRecDepth 100000 in
theorem door_met (os : Os) (args : Array Value) : laidMetH Tryz.prog laidAll ((World.doorLaid Tryz.prog 24 os).forCall (fun _ _ => 0) ⟨#[], args, []⟩).memory :=
  laidMetH_of_parts3 (fuel := 8) (laidMet_of_run' 8 (by kernel_rfl) (by kernel_rfl)) (by kernel_rfl) (by kernel_rfl)
set_option maxRecDepth 100000 in
theorem door_shaped (os : Os) (args : Array Value) : ((World.doorLaid Tryz.prog 24 os).forCall (fun _ _ => 0) ⟨#[], args, []⟩).Shaped Tryz.prog :=
  World.shaped_of_RefB (by kernel_rfl) (by kernel_rfl)
set_option maxRecDepth 100000 in
/-- THE FRAME, over the tables. -/
theorem lift_laid {H : Type} {enc : TypeId × Value → H} (F : FuncId) (fn : Func) (s : ChangeSpec) {os : Os} (started : os.Started)
    (noInit : Tryz.prog.inits.idxOf? F = Option.none) (hfn : Tryz.prog.funcs[F]? = some fn)
    (hvars : s.vars = []) (hres : fn.resultTypes = #[4])
    (hread : fn.params.toList.all (fun t => Tryz.prog.readableRec t && decide (t < Tryz.prog.types.size)) = true)
    (hspec : ∀ ds : List (DataW H), ds.length = fn.params.toList.length → s.fn H (ds ++ []) = { results := [.lit (.bool true)], args := ds })
    (witness : ∃ (w : World) (tape : Tape) (i : Input), w.os = os ∧ (w.forCall tape i).Shaped Tryz.prog ∧ i.vars = [] ∧ Input.okWide Tryz.prog (w.forCall tape i) .any w.heap.size F i ∧
      ((s.pre enc Tryz.prog fn [] false (w.forCall tape i).memory i.args ∧ laidMetH Tryz.prog laidAll (w.forCall tape i).memory) ∧ sizedMet enc Tryz.prog fn (OpenSpec.ofChange s) false (w.forCall tape i).memory i.args) ∧ Assume.holds {} Tryz.prog (lone (Frame.enter Tryz.prog F i.args .normal) [] (w.forCall tape i)))
    (walk : ∀ (W : World) (base : Nat) (args : Array Value) (ds : List (DataW H)) (p : List MemPlace),
      (∀ (j : Nat) t v, fn.params[j]? = some t → args[j]? = some v → Value.okWide Tryz.prog W .any base t v) →
      DataW.TrodAll enc Tryz.prog W 0 (fun _ => true) true fn.params.toList args.toList ds p →
      Calls Tryz.prog F args W fun e W' => e = .returned (.bool true) ∧ Below W.heap.size W W') :
    ReturnsInHanded {} Tryz.checked os F .any (fun w args => (s.pre enc Tryz.prog fn [] false w args ∧ laidMetH Tryz.prog laidAll w) ∧ sizedMet enc Tryz.prog fn (OpenSpec.ofChange s) false w args) (s.post enc Tryz.prog fn false true false false) := by
  refine returnsInHanded_of_change_and (C := Tryz.checked) (X := fun w _ => laidMetH Tryz.prog laidAll w) (fun _ _ _ hh h => h.of_heap hh) own started noInit hfn witness ?_
  intro W base args ds gs before hval hW _ _ _ _
  have hW' := hW
  have hlt := hW.lt
  obtain ⟨p, q, hA, hV, rfl, hfz, hnd⟩ := hW
  rw [hvars] at hV
  obtain ⟨rfl, rfl⟩ := trodVars_none hV
  refine (walk W base args ds p hval hA).mono fun e W' ⟨he, bel⟩ => ?_
  have hs := hspec ds (trodAll_len hA)
  have hA2 := trodAll_below (enc := enc) laidOut bel fn.params.toList (by
    intro t ht
    have := List.all_eq_true.1 hread t ht
    simpa using this) hA (fun x hx => hlt x (by simp [hx]))
  refine ⟨_, he, ds, [], _, [], p, [], hW', ?_, ?_, ?_, bel.frame _, fun h => by cases h⟩
  · rw [hs, hres]
    exact trodAll_mk1 (shut_bool Tryz.underlying4 true)
  · rw [hs]
    exact hA2
  · rw [hs, hvars]
    rfl
end Go.Proofs.YtfdgijmmgllmgaaGreatDoor
namespace Go.Proofs.YtfdgijmmgllmgaaGreatDoor
open Go.ChangeShapes Go.WideShapes Go.ChangeAt Go.RowKit
theorem joined_mk {P : Program} {f : FuncId} {fn : Func} {s : ChangeSpec} {c : OpenClaim}
    (k1 : c.wf (OpenSpec.ofChange s) = true) (k2 : laidOutB P = true) (k3 : mapsRowed P = true)
    (k4 : fn.params.all (P.readableRec ·) = true) (k5 : namedTie P c.named s.vars = true)
    (k6 : (c.stops == []) = true) (k7 : (P.stops == []) = true) (k8 : (c.knobs == []) = true) (k9 : (P.stopKnobs == []) = true)
    (k10 : (c.inPlace == P.inPlace f) = true) (k11 : (c.unfollowed == P.unfollowed f) = true) (k12 : (c.recurses == P.recurses f) = true) (k13 : (c.named == P.varsNamed f) = true)
    (k14 : (c.maps == (fn.params.toList ++ s.plain.varTypes P).any (P.mapsRec ·)) = true) (k15 : (c.ifaces == (fn.params.toList ++ s.plain.varTypes P).any (P.ifacesRec ·)) = true) (k16 : (c.mapsOut == P.mapsAmong fn.resultTypes.toList) = true)
    (k17 : (c.loops == (fn.params.toList ++ s.plain.varTypes P).any (P.loopsFrom ·)) = true) (k17b : (c.wideKeys == (fn.params.toList ++ s.plain.varTypes P ++ fn.resultTypes.toList).any (P.wideKeysFrom ·)) = true)
    (k18 : s.vars.all (P.varReadable ·) = true) (k19 : fn.resultTypes.all (fun t => P.readableRec t && decide (t < P.types.size)) = true) (k20 : (c.ifacesOut == fn.resultTypes.toList.any (P.ifacesRec ·)) = true) (k21 : (c.loopsOut == fn.resultTypes.toList.any (P.loopsFrom ·)) = true) (k22 : (c.plainKeys == P.plainKeys) = true) (k23 : c.shortTexts.isNone = true) (k23b : P.stopsHeard = true) (k24 : P.mayEnter = true) (k24b : (c.lifted == P.liftsFinal) = true) (k24c : (P.make == some c.make) = true)
    (k25 : (c.kinds == (if c.domain.isEmpty then [] else fn.params.toList.map fun t => match P.underlying t with | some (.int k) => some k | _ => none)) = true) (k26 : (c.pinned == c.pinnedBy) = true)
    (k27 : (c.veiled == (fn.params.toList ++ s.plain.varTypes P ++ fn.resultTypes.toList).any (P.veiledRec ·)) = true) (k28 : c.veiledFits P fn.params.toList (fn.params.toList ++ s.plain.varTypes P ++ fn.resultTypes.toList) = true) :
    joinedFacts P f fn s c = true := by
  unfold joinedFacts
  simp only [Bool.and_eq_true]
  exact ⟨⟨⟨⟨⟨⟨⟨⟨⟨⟨⟨⟨⟨⟨⟨⟨⟨⟨⟨⟨⟨⟨⟨⟨⟨⟨⟨⟨⟨⟨⟨k1, k2⟩, k3⟩, k4⟩, k5⟩, k6⟩, k7⟩, k8⟩, k9⟩, k10⟩, k11⟩, k12⟩, k13⟩, k14⟩, k15⟩, k16⟩, k17⟩, k17b⟩, k18⟩, k19⟩, k20⟩, k21⟩, k22⟩, k23⟩, k23b⟩, k24⟩, k24b⟩, k24c⟩, k25⟩, k26⟩, k27⟩, k28⟩
theorem rowed : mapsRowed Tryz.prog = true := by kernel_rfl
theorem heard : Tryz.prog.stopsHeard = true := by kernel_rfl
theorem enters : Tryz.prog.mayEnter = true := by kernel_rfl
theorem lifts_no : (false == Tryz.prog.liftsFinal) = true := by kernel_rfl
end Go.Proofs.YtfdgijmmgllmgaaGreatDoor
namespace Go.Proofs.YtfdgijmmgllmgaaGreatDoor
theorem plain_yes : (true == Tryz.prog.plainKeys) = true := by kernel_rfl
end Go.Proofs.YtfdgijmmgllmgaaGreatDoor
