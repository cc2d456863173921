/-
  The call of FnTaken returns true and writes nothing that was there.
-/
import Derived.Test.YtlnikapkheldeaaK41
import Derived.Test.YtlnikapkheldeaaK23
import Derived.Test.YtlnikapkheldeaaK16
import Derived.Test.YtlnikapkheldeaaK19
import Derived.Deep.RegionHeld3
namespace Go.Proofs.Ytlnikapkheldeaa.wFnTaken
open Go.ChangeShapes Go.WideShapes Go.ChangeAt Go.RowKit Go.Joins
set_option linter.unusedSimpArgs false
set_option linter.unusedVariables false
set_option maxRecDepth 100000
attribute [local go_sem] store_f
open Ieee

theorem getD_sym {l : List (Int × Bool)} {k : Nat} (h : k < l.length) : l.getD k (0, false) ∈ l := by simp [List.getD, h]
structure HasIs (l : List (Int × Bool)) (g cap : Nat) (t : Int) (f : Bool) : Prop where
  call : ∀ w : World, SymRow w g l → Calls Try.prog 31 #[.slice (some ⟨g, 0, Option.none⟩) l.length cap, .agg #[.int .i64 t, .bool f]] w fun e w' => e = .returned (.bool true) ∧ Below w.heap.size w w'
theorem hasIs {l : List (Int × Bool)} (g cap : Nat) {t : Int} {f : Bool} (hl : l.length ≤ 8) (h : (t, f) ∈ l) : HasIs l g cap t f := ⟨fun w hr => has_yes l g _ cap t f w rfl (by omega) hr h⟩

/-- All that the law asks of what is drawn. -/
structure Takens (kind : Int) (g lc : Nat) (l : List Shd) (n i : Nat) (c : Lit) (m : List Lit) (s : List (Int × Bool)) (md : Int) : Prop where
  tk : TakeM kind g lc l n (stepB i) c m
  ip : ∀ g1 c1, PicIs n (some ⟨g1, 0, Option.none⟩) c1 m true
  sy : ∀ g1 c1, PicSymsM n (some ⟨g1, 0, Option.none⟩) c1 m s
  few : s.length ≤ 8
  sub : ∀ x ∈ symsTo kind 8, x ∈ s
  sp : ∀ g1 c1, SprPic kind n (some ⟨g1, 0, Option.none⟩) c1 m m
  sm : ∀ g1 c1 g2 c2, SameM n (some ⟨g1, 0, Option.none⟩) c1 m n (some ⟨g2, 0, Option.none⟩) c2 m true
  mm : ∀ g1 c1, MirM n (some ⟨g1, 0, Option.none⟩) c1 m md
  ge : kind ≤ md
theorem takens_of {kind : Int} {g lc n i : Nat} {l : List Shd} {c : Lit} (h0 : 0 ≤ kind) (h3 : kind ≤ 3) (hi : i < 5) (h1 : 1 ≤ n) (h8 : n ≤ 8) (hlen : l.length ≤ 12) (hok : ∀ s ∈ l, s.Ok) (hc : c.Ok) :
    ∃ m s md, Takens kind g lc l n i c m s md := by
  have hml := take_len h0 h3 hi h1 h8 l c
  have hmo := take_oks h0 h3 hi h1 h8 l c hok hc
  have hp := picB_ok h1 h8 hml hmo
  have hk : kindB kind = true := by unfold kindB; simp; omega
  have hsub : ∀ x ∈ symsTo kind 8, x ∈ picSyms n (takeCols h0 h3 hi h1 h8 l c) := fun x hx => take_syms h0 h3 hi h1 h8 l c hok hc hx (syms_all h0 h3 x hx)
  have hle := picSyms_le n (takeCols h0 h3 hi h1 h8 l c)
  have hha : hasAll (picSyms n (takeCols h0 h3 hi h1 h8 l c)) kind = true := by
    unfold hasAll
    rw [List.all_eq_true]
    intro x hx
    exact decide_eq_true (hsub x hx)
  have hspr := take_spread h0 h3 hi h1 h8 l c
  refine ⟨takeCols h0 h3 hi h1 h8 l c, _, _, takes h0 h3 hi h1 h8 hlen hok hc, fun g1 c1 => ?_, fun g1 c1 => picSymsM hp, hle, hsub, fun g1 c1 => ?_, fun g1 c1 g2 c2 => ?_, fun g1 c1 => mirM (picSymsM hp) (by omega), mirN_le _ h0 h3 hha⟩
  · have h := picIs n (some ⟨g1, 0, Option.none⟩) c1 (takeCols h0 h3 hi h1 h8 l c)
    rwa [hp] at h
  · have h := sprPic (a := some ⟨g1, 0, Option.none⟩) (cap := c1) hk hp
    rwa [hspr] at h
  · have h := sameM (n := n) (a := some ⟨g1, 0, Option.none⟩) (ca := c1) (m := n) (b := some ⟨g2, 0, Option.none⟩) (cb := c2) (k := takeCols h0 h3 hi h1 h8 l c) (show (takeCols h0 h3 hi h1 h8 l c).length ≤ 1000000000 by
      have := Nat.mul_le_mul h8 h8
      omega)
    rw [(colsEq_ok hmo hmo rfl).2 rfl] at h
    simpa using h

set_option maxHeartbeats 64000000 in
theorem walk (a : Option Addr) (len cap : Nat) (bs : List Int) (w : World) (hrow : ByteRow w w.heap.size a len bs) :
    Calls Try.prog 5 #[.slice a len cap] w fun e w' => e = .returned (.bool true) ∧ Below w.heap.size w w' := by
  have HBR : Hid (ByteRow w w.heap.size a len bs) := hrow
  clear hrow
  by_cases hl : len ≤ 4096
  · go_enter Try.func5, Try.ntmps5
    go_wp2_with fail
    refine (big_no _ _ _ _ hl).mono ?_
    rintro e w0 ⟨rfl, rfl⟩
    go_wp2_with fail
    refine (drawTaken_s a len cap bs _ HBR.out hl).mono ?_
    rintro e w1 ⟨kind, g, lc, l, n, i, c, ⟨rfl, hk0, hk3, hll, hgl, hR, hok, h1, h6, hi, hc, hb1⟩⟩
    obtain ⟨m, s, md, K⟩ := takens_of (g := g) (lc := lc) hk0 hk3 hi h1 (show n ≤ 8 by omega) (show l.length ≤ 12 by omega) (fun s hs => (hok s hs).ok) hc
    have R1 : Hid (ShRow w1 g 0 l) := hR
    have B1 : Hid (Below w.heap.size w w1) := hb1
    have s1 := hb1.size
    clear hb1 hR hok hc HBR hi h1 h6 hll
    go_wp2_with fail
    generalize hW : w1.alloc (.cells #[.float .f32 c.r, .float .f32 c.g, .float .f32 c.b] 49) = W
    have RW : Hid (ShRow W g 0 l) := by rw [← hW]; exact row_alloc' R1.out
    have BW : Hid (Below w.heap.size w W) := by rw [← hW]; exact B1.out.alloc (by omega) _
    have sW := BW.out.size
    have lW : g < W.heap.size := by rw [← hW]; simp; omega
    clear hW R1 B1 s1 hgl
    with_reducible refine (K.tk.call _ RW.out lW).mono ?_
    rintro e w2 ⟨⟨g2, c2, ⟨rfl, hown⟩⟩, hb⟩
    have L2 : Hid (LitRow w2 g2 0 m) := litRow_of hown rfl
    have B2 : Hid (Below w.heap.size w w2) := BW.out.trans (hb.mono sW)
    have s2 := B2.out.size
    clear hb hown RW BW sW lW
    go_wp2_with fail
    generalize hV : w2.alloc (.cells #[.int .i64 n, .slice (some ⟨g2, 0, Option.none⟩) m.length c2] 37) = V
    have PV : Hid (Blk V w2.heap.size #[.int .i64 n, .slice (some ⟨g2, 0, Option.none⟩) m.length c2] 37) := by rw [← hV]; exact Blk.new _ _ _
    have LV : Hid (LitRow V g2 0 m) := by rw [← hV]; exact L2.out.alloc
    have BV : Hid (Below w.heap.size w V) := by rw [← hV]; exact B2.out.alloc (by omega) _
    have sV : w2.heap.size < V.heap.size := by rw [← hV]; simp
    have swV : w.heap.size ≤ V.heap.size := BV.out.size
    clear hV L2 B2 s2
    generalize w2.heap.size = np at *
    have p0 := Blk.cellAt (i := 0) PV.out rfl
    have p1 := Blk.cellAt (i := 1) PV.out rfl
    simp only [List.getElem_toArray, List.getElem_cons_zero, List.getElem_cons_succ] at p0 p1
    refine ((K.ip _ _).call _ (Or.inr ⟨g2, 0, rfl, LV.out⟩)).mono ?_
    rintro e w3 ⟨rfl, hb⟩
    have P3 : Hid (Blk w3 np #[.int .i64 n, .slice (some ⟨g2, 0, Option.none⟩) m.length c2] 37) := PV.out.below hb
    have L3 : Hid (LitRow w3 g2 0 m) := LV.out.below hb
    have B3 : Hid (Below w.heap.size w w3) := BV.out.trans (hb.mono swV)
    have s3 := B3.out.size
    clear hb p0 p1 PV LV BV swV sV
    go_wp2_with fail
    refine (symsOf_i kind _).mono ?_
    rintro e w4 ⟨gs, cs, rfl, own, hb⟩
    have S4 : Hid (SymRow w4 gs (symsTo kind 8)) := symRow_of own rfl
    have P4 : Hid (Blk w4 np #[.int .i64 n, .slice (some ⟨g2, 0, Option.none⟩) m.length c2] 37) := P3.out.below hb
    have L4 : Hid (LitRow w4 g2 0 m) := L3.out.below hb
    have B4 : Hid (Below w.heap.size w w4) := B3.out.trans (hb.mono s3)
    have s4 := B4.out.size
    have HALL : Hid (∀ j, j < (symsTo kind 8).length → ∀ g5 c5, HasIs s g5 c5 ((symsTo kind 8).getD j (0, false)).1 ((symsTo kind 8).getD j (0, false)).2) := fun j hj g5 c5 => hasIs g5 c5 K.few (K.sub _ (getD_sym hj))
    clear hb own P3 L3 B3 s3
    have hr8 := symsTo_le kind 8
    generalize symsTo kind 8 = r at S4 HALL hr8 ⊢
    go_wp2_with fail
    go_loopw [11] (fun v wr => ∃ k : Nat, k ≤ r.length ∧ v = .int .i64 k ∧ Below w4.heap.size w4 wr) (fun v _ => r.length - (intOf v).toNat)
    case atStart => exact ⟨0, by omega, rfl, Below.refl _ _⟩
    case round =>
      obtain ⟨k, hk, rfl, hbel⟩ := hrel
      have HB : Hid (Below w4.heap.size w4 wr) := hbel
      have hbs0 := hbel.size
      have P5 := P4.out.below hbel
      have p0 := Blk.cellAt (i := 0) P5 rfl
      have p1 := Blk.cellAt (i := 1) P5 rfl
      simp only [List.getElem_toArray, List.getElem_cons_zero, List.getElem_cons_succ] at p0 p1
      have hLr : LitsAt wr (some ⟨g2, 0, Option.none⟩) m := Or.inr ⟨g2, 0, rfl, L4.out.below hbel⟩
      have lnp := P5.lt
      by_cases hlt : k < r.length
      · obtain ⟨q0, q1⟩ := (S4.out.below hbel) k hlt
        have HT := HALL.out k hlt
        generalize r.getD k (0, false) = p at q0 q1 HT
        obtain ⟨t, f⟩ := p
        dsimp only at q0 q1 HT
        have HH : Hid (∀ g5 c5, HasIs s g5 c5 t f) := HT
        have hk0 : (0 : Int) ≤ (k : Int) := by omega
        have hk1 : (k : Int) < (r.length : Int) := by omega
        have hBr : Below wr.heap.size wr wr := Below.refl _ _
        have hzr := Nat.le_refl wr.heap.size
        have lgs : gs < wr.heap.size := cell_lt q0
        clear hbel P5 HT
        go_wp2_with fail
        go_region_held3 (fun wx => LitsAt wx (some ⟨g2, 0, Option.none⟩) m ∧ Below wr.heap.size wr wx ∧ wr.heap.size ≤ wx.heap.size ∧ np < wx.heap.size ∧ gs < wx.heap.size ∧ wx.cell? ⟨np, 0, Option.none⟩ = some (.int .i64 n) ∧ wx.cell? ⟨np, 1, Option.none⟩ = some (.slice (some ⟨g2, 0, Option.none⟩) m.length c2) ∧ wx.cell? ⟨gs, k * 2, Option.none⟩ = some (.int .i64 t) ∧ wx.cell? ⟨gs, k * 2 + 1, Option.none⟩ = some (.bool f))
          (((repeat' apply And.intro) <;> first | (with_reducible assumption) | ((repeat (first | (with_reducible assumption) | (with_reducible exact And.left (by assumption)) | (with_reducible exact And.left (And.right (by assumption))) | (with_reducible exact And.left (And.right (And.right (by assumption)))) | (with_reducible refine LitsAt.drew ?_) | (with_reducible refine LitsAt.below ?_ hb) | (with_reducible refine LitsAt.alloc ?_))); done) | (((repeat (first | (with_reducible assumption) | (with_reducible exact cNewAt (by first | rfl | (simp only [World.size_alloc, World.size_setCell, World.size_drew]; done) | omega) rfl) | (with_reducible exact sNewAt (by first | rfl | (simp only [World.size_alloc, World.size_setCell, World.size_drew]; done) | omega) rfl) | (simp; done) | (with_reducible apply cAlloc) | (with_reducible apply cDrew) | (with_reducible refine cSet (by dsimp only; omega) ?_) | (with_reducible refine cSetOff (by dsimp only; omega) ?_) | (with_reducible apply cSame) | (with_reducible refine cBelow (by assumption) ?_) | (with_reducible apply sAlloc) | (with_reducible apply sDrew) | (with_reducible refine sBelow (by assumption) ?_) | (with_reducible refine sSet (by dsimp only; omega) ?_))); first | done | (simp [*]; done)); done) | (simp only [World.size_alloc, World.size_setCell, World.size_drew]; omega) | omega | (go_keep; done) | ((repeat' (first | (with_reducible exact Below.refl _ _) | (with_reducible assumption) | (with_reducible refine Below.alloc ?_ ?_ _) | (with_reducible refine Below.drew ?_) | (with_reducible refine Below.setCell ?_ ?_ _) | (with_reducible refine Below.trans ?_ (Below.mono (by assumption) ?_)) | (with_reducible exact Nat.le_refl _) | omega | (simp only [World.size_alloc, World.size_setCell, World.size_drew]; omega) | (simp; omega) | (simp; done))); done)))
          (first | (go_at_call 30; (with_reducible refine ((K.sy _ _).call _ ?_).mono ?_); (next => exact And.left (by assumption)); rintro e w6 ⟨⟨g6, c6, ⟨rfl, hown6⟩⟩, hb⟩; have HS6 : Hid (SymRow w6 g6 s) := symRow_of hown6 rfl; have hbs := hb.size; (try simp only [World.size_alloc, World.size_setCell, World.size_drew] at hbs)) | (go_at_call 31; (with_reducible refine ((HH.out _ _).call _ HS6.out).mono ?_); rintro e w7 ⟨rfl, hb⟩; have hbs := hb.size; (try simp only [World.size_alloc, World.size_setCell, World.size_drew] at hbs)))
        all_goals
          rename_i hHeld
          have hb7 := hHeld.2.1
          clear hHeld hown6
          have HB7 : Hid (Below w4.heap.size w4 w7) := HB.out.trans (hb7.mono hbs0)
          clear p0 p1 q0 q1 hBr hLr
          go_wp2
          go_roundw
          case rel => exact ⟨k + 1, by omega, by go_num, HB7.out⟩
          case measure => simp [intOf]; omega
      · have hjm : ¬ (k : Int) < (r.length : Int) := by omega
        have L5 : Hid (LitRow wr g2 0 m) := L4.out.below hbel
        have B5 : Hid (Below w.heap.size w wr) := B4.out.trans (hbel.mono s4)
        have PH5 : Hid (Blk wr np #[.int .i64 n, .slice (some ⟨g2, 0, Option.none⟩) m.length c2] 37) := P5
        have s5 := B5.out.size
        clear hbel P5 hLr HB
        go_wp2_with fail
        refine ((K.sp _ _).call _ (Or.inr ⟨g2, 0, rfl, L5.out⟩)).mono ?_
        rintro e w6 ⟨⟨g6, c6, ⟨rfl, hown⟩⟩, hb⟩
        have L6 : Hid (LitRow w6 g6 0 m) := litRow_of hown rfl
        have M6 : Hid (LitRow w6 g2 0 m) := L5.out.below hb
        have P6 : Hid (Blk w6 np #[.int .i64 n, .slice (some ⟨g2, 0, Option.none⟩) m.length c2] 37) := PH5.out.below hb
        have B6 : Hid (Below w.heap.size w w6) := B5.out.trans (hb.mono s5)
        have s6 := B6.out.size
        clear hb hown L5 B5 s5 p0 p1 PH5 lnp
        (have p0 := Blk.cellAt (i := 0) P6.out rfl; have p1 := Blk.cellAt (i := 1) P6.out rfl; simp only [List.getElem_toArray, List.getElem_cons_zero, List.getElem_cons_succ] at p0 p1)
        have lp6 := P6.out.lt
        have hge := K.ge
        go_wp2_with fail
        generalize hX : w6.alloc (.cells #[.int .i64 n, .slice (some ⟨g6, 0, Option.none⟩) m.length c6] 37) = X
        have LX : Hid (LitRow X g6 0 m) := by rw [← hX]; exact L6.out.alloc
        have MX : Hid (LitRow X g2 0 m) := by rw [← hX]; exact M6.out.alloc
        have PX : Hid (Blk X np #[.int .i64 n, .slice (some ⟨g2, 0, Option.none⟩) m.length c2] 37) := by rw [← hX]; exact P6.out.alloc
        have BX : Hid (Below w.heap.size w X) := by rw [← hX]; exact B6.out.alloc (by omega) _
        clear hX L6 M6 P6 B6 s6 p0 p1 lp6
        have sX := BX.out.size
        refine ((K.sm _ _ _ _).call _ (Or.inr ⟨g2, 0, rfl, MX.out⟩) (Or.inr ⟨g6, 0, rfl, LX.out⟩)).mono ?_
        rintro e w7 ⟨rfl, hb⟩
        have P7 : Hid (Blk w7 np #[.int .i64 n, .slice (some ⟨g2, 0, Option.none⟩) m.length c2] 37) := PX.out.below hb
        have M7 : Hid (LitRow w7 g2 0 m) := MX.out.below hb
        have B7 : Hid (Below w.heap.size w w7) := BX.out.trans (hb.mono sX)
        clear hb LX MX PX BX sX
        have s7 := B7.out.size
        (have p0 := Blk.cellAt (i := 0) P7.out rfl; have p1 := Blk.cellAt (i := 1) P7.out rfl; simp only [List.getElem_toArray, List.getElem_cons_zero, List.getElem_cons_succ] at p0 p1)
        go_wp2_with fail
        refine ((K.mm _ _).call _ (Or.inr ⟨g2, 0, rfl, M7.out⟩)).mono ?_
        rintro e w8 ⟨rfl, hb⟩
        have B8 : Hid (Below w.heap.size w w8) := B7.out.trans (hb.mono s7)
        clear hb P7 M7 B7 s7 p0 p1
        have hgd : decide (kind ≤ md) = true := by simpa using hge
        go_wp2
        go_ret
        exact ⟨rfl, B8.out⟩
  · go_enter Try.func5, Try.ntmps5
    go_wp2_with fail
    refine (big_yes _ _ _ _ hl).mono ?_
    rintro e w0 ⟨rfl, rfl⟩
    go_wp2
    all_goals (go_returns; exact ⟨rfl, by (repeat' (first | (with_reducible exact Below.refl _ _) | (with_reducible assumption) | (with_reducible refine Below.alloc ?_ ?_ _) | (with_reducible refine Below.drew ?_) | (with_reducible refine Below.setCell ?_ ?_ _) | (with_reducible refine Below.trans ?_ (Below.mono (by assumption) ?_)) | (with_reducible exact Nat.le_refl _) | omega | (simp only [World.size_alloc, World.size_setCell, World.size_drew]; omega) | (simp; omega) | (simp; done)))⟩)
end Go.Proofs.Ytlnikapkheldeaa.wFnTaken
