/-
  The call of FnTurnedGlass returns true and writes nothing that was there.
-/
import Derived.Test.YtlnikapkheldeaaK46
import Derived.Test.YtlnikapkheldeaaK41
import Derived.Test.YtlnikapkheldeaaK09
import Derived.Deep.RegionHeld3
import Derived.Deep.RegionLaw
import Derived.Deep.AppendLies
namespace Go.Proofs.Ytlnikapkheldeaa.wFnTurnedGlass
open Go.ChangeShapes Go.WideShapes Go.ChangeAt Go.RowKit Go.Joins
set_option linter.unusedSimpArgs false
set_option linter.unusedVariables false
set_option maxRecDepth 100000
attribute [local go_sem] store_f
open Ieee
attribute [local go_sem] store_c

/-- All that the law asks of what is drawn. -/
structure Glass (g lc : Nat) (l : List Shd) (n i : Nat) (c : Lit) (t : Nat) (f : Bool) (m m2 : List Lit) : Prop where
  tk : TakeM 0 g lc l n (stepB i) c m
  tu : ∀ g2 c2 k, TurnedL t f l k → TakeM 0 g2 c2 k n (stepB i) c m2
  ac : ∀ a cap, ActPic t f n a cap m m2
  sm : ∀ g1 c1 g2 c2, SameM n (some ⟨g1, 0, Option.none⟩) c1 m2 n (some ⟨g2, 0, Option.none⟩) c2 m2 true
  sh : ∀ j, j < l.length → ∃ r, TurnedS t f (l.getD j default) r
theorem glass_of {g lc n i t : Nat} {f : Bool} {l : List Shd} {c : Lit} (hi : i < 5) (h1 : 1 ≤ n) (h8 : n ≤ 8) (ht : t < 4) (hlen : l.length ≤ 12) (hok : ∀ s ∈ l, s.Ok) (hc : c.Ok) : ∃ m m2, Glass g lc l n i c t f m m2 := by
  have hml := take_len (kind := 0) (by omega) (by omega) hi h1 h8 l c
  have hmo := take_oks (kind := 0) (by omega) (by omega) hi h1 h8 l c hok hc
  have hp := picB_ok h1 h8 hml hmo
  have ho2 := act_oks (f := f) h8 ht hml hmo
  refine ⟨takeCols (kind := 0) (by omega) (by omega) hi h1 h8 l c, actCols n t f (takeCols (kind := 0) (by omega) (by omega) hi h1 h8 l c), takes (by omega) (by omega) hi h1 h8 hlen hok hc, fun g2 c2 k hk => ?_, fun a cap => actPic f ht hp, fun g1 c1 g2 c2 => ?_, fun j hj => ?_⟩
  · rw [← take_turned hi h1 h8 ht c hk]
    exact takes (by omega) (by omega) hi h1 h8 (by have := hk.1; omega) (turnedL_ok hk) hc
  · have h := sameM (n := n) (a := some ⟨g1, 0, Option.none⟩) (ca := c1) (m := n) (b := some ⟨g2, 0, Option.none⟩) (cb := c2) (k := actCols n t f (takeCols (kind := 0) (by omega) (by omega) hi h1 h8 l c)) (show (actCols n t f (takeCols (kind := 0) (by omega) (by omega) hi h1 h8 l c)).length ≤ 1000000000 by
      have := Nat.mul_le_mul h8 h8
      rw [act_len]
      omega)
    rw [(colsEq_ok ho2 ho2 rfl).2 rfl] at h
    simpa using h
  · exact turnedS ht (hok _ (by simp [List.getD, hj]))
theorem turned_snoc {t : Nat} {f : Bool} {l k : List Shd} {j : Nat} {r : Shd} (hk : k.length = j) (hj : j < l.length) (h : ∀ i, i < j → TurnedS t f (l.getD i default) (k.getD i default)) (hr : TurnedS t f (l.getD j default) r) : ∀ i, i < j + 1 → TurnedS t f (l.getD i default) ((k ++ [r]).getD i default) := fun i hi => by
  rcases (by omega : i < j ∨ i = j) with h1 | rfl
  · have e : (k ++ [r]).getD i default = k.getD i default := by simp [List.getD, show i < k.length by omega, show i < k.length + 1 by omega, List.getElem_append_left]
    rw [e]; exact h i h1
  · have e : (k ++ [r]).getD i default = r := by subst hk; simp [List.getD]
    rw [e]; exact hr

set_option maxHeartbeats 64000000 in
theorem walk (a : Option Addr) (len cap : Nat) (bs : List Int) (w : World) (hrow : ByteRow w w.heap.size a len bs) :
    Calls Try.prog 6 #[.slice a len cap] w fun e w' => e = .returned (.bool true) ∧ Below w.heap.size w w' := by
  have HBR : Hid (ByteRow w w.heap.size a len bs) := hrow
  clear hrow
  by_cases hl : len ≤ 4096
  · go_enter Try.func6, Try.ntmps6
    go_wp2_with fail
    refine (big_no _ _ _ _ hl).mono ?_
    rintro e w0 ⟨rfl, rfl⟩
    go_wp2_with fail
    refine (drawTaken_s a len cap bs _ HBR.out hl).mono ?_
    rintro e w1 ⟨kind, g, lc, l, n, i, c, ⟨rfl, hk0, hk3, hll, hgl, hR, hok, h1, h6, hi, hc, hb1⟩⟩
    have R1 : Hid (ShRow w1 g 0 l) := hR
    have OK : Hid (∀ s ∈ l, s.Ok) := fun s hs => (hok s hs).ok
    have B1 : Hid (Below w.heap.size w w1) := hb1
    have s1 := hb1.size
    clear hb1 hR hok
    go_wp2_with fail
    generalize hW : w1.alloc (.cells #[.float .f32 c.r, .float .f32 c.g, .float .f32 c.b] 49) = W
    have RW : Hid (ShRow W g 0 l) := by rw [← hW]; exact row_alloc' R1.out
    have CW : Hid (Blk W w1.heap.size #[.float .f32 c.r, .float .f32 c.g, .float .f32 c.b] 49) := by rw [← hW]; exact Blk.new _ _ _
    have BW : Hid (Below w.heap.size w W) := by rw [← hW]; exact B1.out.alloc (by omega) _
    have sW := BW.out.size
    have lW : g < W.heap.size := by rw [← hW]; simp; omega
    have lcW : w1.heap.size < W.heap.size := CW.out.lt
    clear hW R1 B1 s1 hgl
    generalize w1.heap.size = nc at *
    refine (drawSyms_s a len cap bs _ ((HBR.out.of BW.out).mono sW) hl).mono ?_
    rintro e w2 ⟨i1, i2, i3, ⟨rfl, hi1, hi2, hi3, hb2⟩⟩
    have ei : (symK i1).1 = ((i1 % 4 : Nat) : Int) := rfl
    rw [ei]
    have ht : i1 % 4 < 4 := by omega
    clear ei
    generalize i1 % 4 = t at ht ⊢
    generalize (symK i1).2 = f
    generalize (symK i2).1 = t2
    generalize (symK i2).2 = f2
    generalize (symK i3).1 = t3
    generalize (symK i3).2 = f3
    obtain ⟨m, m2, K⟩ := glass_of (g := g) (lc := lc) (f := f) hi h1 (show n ≤ 8 by omega) ht (show l.length ≤ 12 by omega) OK.out hc
    have R2 : Hid (ShRow w2 g 0 l) := RW.out.below hb2
    have C2 : Hid (Blk w2 nc #[.float .f32 c.r, .float .f32 c.g, .float .f32 c.b] 49) := CW.out.below hb2
    have B2 : Hid (Below w.heap.size w w2) := BW.out.trans (hb2.mono sW)
    have s2 := hb2.size
    clear hb2 RW CW BW HBR OK hi1 hi2 hi3 hc ht
    go_wp2_with fail
    obtain ⟨i0, hi0, hz0, hz1, hz2⟩ := info_parts infoSh
    generalize hX : (((w2.alloc (.cells #[.int .i64 t, .bool f] 25)).alloc (.cells #[.int .i64 t2, .bool f2] 25)).alloc (.cells #[.int .i64 t3, .bool f3] 25)).alloc (.cells #[] 57) = X
    have SX : Hid (Blk X w2.heap.size #[.int .i64 t, .bool f] 25) := by rw [← hX]; exact (((Blk.new _ _ _).alloc).alloc).alloc
    have CX : Hid (Blk X nc #[.float .f32 c.r, .float .f32 c.g, .float .f32 c.b] 49) := by rw [← hX]; exact (((C2.out.alloc).alloc).alloc).alloc
    have RX : Hid (ShRow X g 0 l) := by rw [← hX]; exact row_alloc' (row_alloc' (row_alloc' (row_alloc' R2.out)))
    have BX : Hid (Below w.heap.size w X) := by rw [← hX]; have hb := B2.out; show Below w.heap.size w _; (repeat' (first | (with_reducible exact Below.refl _ _) | (with_reducible assumption) | (with_reducible refine Below.alloc ?_ ?_ _) | (with_reducible refine Below.drew ?_) | (with_reducible refine Below.setCell ?_ ?_ _) | (with_reducible refine Below.trans ?_ (Below.mono (by assumption) ?_)) | (with_reducible exact Nat.le_refl _) | omega | (simp only [World.size_alloc, World.size_setCell, World.size_drew]; omega) | (simp; omega) | (simp; done)))
    have sX : X.heap.size = w2.heap.size + 4 := by rw [← hX]; simp
    have O0 : Hid (X.ownsRow (w2.heap.size + 3) 57 7 (.slice (some ⟨w2.heap.size + 1 + 1 + 1, 0, Option.none⟩) 0 0) 0 []) := by
      rw [← hX]
      have h := World.ownsRow_lit (((w2.alloc (.cells #[.int .i64 t, .bool f] 25)).alloc (.cells #[.int .i64 t2, .bool f2] 25)).alloc (.cells #[.int .i64 t3, .bool f3] 25)) (base := w2.heap.size + 3) (e := 57) (size := 7) #[] 0 (by simp) (by unfold maxLen; omega) rfl
      simp only [World.size_alloc] at h
      exact h
    have lg2 : g < w2.heap.size := by omega
    clear hX R2 C2 B2
    generalize w2.heap.size = nb at *
    go_loopw [11, 12] (fun v q wr => ∃ j : Nat, j ≤ l.length ∧ q = .int .i64 j ∧ (∃ k : List Shd, k.length = j ∧ (∀ i, i < j → TurnedS t f (l.getD i default) (k.getD i default)) ∧ wr.ownsRow (nb + 3) 57 7 v j (shCells k)) ∧ v ≠ .slice Option.none 0 0 ∧ Blk wr nb #[.int .i64 t, .bool f] 25 ∧ Blk wr nc #[.float .f32 c.r, .float .f32 c.g, .float .f32 c.b] 49 ∧ ShRow wr g 0 l ∧ Below w.heap.size w wr ∧ nb + 4 ≤ wr.heap.size)
      (fun _ q _ => l.length - (intOf q).toNat)
    case atStart => exact ⟨0, by omega, rfl, ⟨[], rfl, fun i hi => absurd hi (by omega), O0.out⟩, by simp, SX.out, CX.out, RX.out, BX.out, by omega⟩
    case round =>
      obtain ⟨j, hj, rfl, ⟨k, hk, hT, hown⟩, hnn, hS, hC, hRr, hbel, hsz⟩ := hrel
      have HN : Hid (u11 ≠ .slice Option.none 0 0) := hnn
      have HO : Hid (wr.ownsRow (nb + 3) 57 7 u11 j (shCells k)) := hown
      have HT : Hid (∀ i, i < j → TurnedS t f (l.getD i default) (k.getD i default)) := hT
      have S3 : Hid (Blk wr nb #[.int .i64 t, .bool f] 25) := hS
      have C3 : Hid (Blk wr nc #[.float .f32 c.r, .float .f32 c.g, .float .f32 c.b] 49) := hC
      have R3 : Hid (ShRow wr g 0 l) := hRr
      have B3 : Hid (Below w.heap.size w wr) := hbel
      clear hnn hown hT hS hC hRr hbel O0 SX CX RX BX
      by_cases hlt : j < l.length
      · obtain ⟨r, TS⟩ := K.sh j hlt
        have HR' : Hid (∀ i, i < j + 1 → TurnedS t f (l.getD i default) ((k ++ [r]).getD i default)) := turned_snoc hk hlt HT.out TS
        have AC := TS.act
        have hrow := R3.out j hlt
        simp only [Nat.zero_add] at hrow
        generalize l.getD j default = s at hrow AC
        obtain ⟨d0, d1, d2, d3, d4, d5, d6⟩ := hrow
        (have s0 := Blk.cellAt (i := 0) S3.out rfl; have s1 := Blk.cellAt (i := 1) S3.out rfl; simp only [List.getElem_toArray, List.getElem_cons_zero, List.getElem_cons_succ] at s0 s1)
        have ls := S3.out.lt
        have hj0 : (0 : Int) ≤ (j : Int) := by omega
        have hj1 : (j : Int) < (l.length : Int) := by omega
        clear TS
        go_wp2_with fail
        go_region_law (first | (go_simp; (with_reducible refine (AC.call _).mono ?_); rintro e w5 ⟨rfl, hb⟩; have hown5 := ownsBelow hb (World.ownsRow.drew HO.out); have hbs5 := hb.size; (try simp only [World.size_drew] at hbs5)) | (refine step_append_lies _ (by rfl) _ _ _ (by rfl) (nb + 3) 57 i0 _ 7 40 Try.underlying46 hi0 hz0 hz1 hz2 rfl (by omega) u11 j (shCells k) (by rfl) (hown5.alloc _) ⟨w5.heap.size, 0, Option.none⟩ 1 1 r.cells (by rfl) (by rfl) (World.news_of_block (cs := #[.complex .f32 r.a1 r.a2, .complex .f32 r.b1 r.b2, .complex .f32 r.c1 r.c2, .float .f32 r.r, .float .f32 r.g, .float .f32 r.b, .float .f32 r.k]) (t := 57) (fr := (0, 0)) (heap_alloc_new w5 _)) (by simp [Shd.cells, Value.oneCell']) (by omega) (by unfold maxLen; omega) (by omega) (by simp; omega) (w5.heap.size + 1) (by simp) ?_; intro gg cap6 w6 hown6 hgrow hat hlt6))
        all_goals
          have hne : ∀ b, b < nb + 3 → u11.ownBlock ≠ some b := fun b hb' e => by have := (hown5.lt _ e).1; omega
          have S6 : Hid (Blk w6 nb #[.int .i64 t, .bool f] 25) := (hgrow.block nb (by simp; omega) (fun e => hne nb (by omega) e.symm)).trans (Blk.alloc (Blk.below (Blk.drew S3.out) hb))
          have C6 : Hid (Blk w6 nc #[.float .f32 c.r, .float .f32 c.g, .float .f32 c.b] 49) := (hgrow.block nc (by simp; omega) (fun e => hne nc (by omega) e.symm)).trans (Blk.alloc (Blk.below (Blk.drew C3.out) hb))
          have R6 : Hid (ShRow w6 g 0 l) := ShRow.grown (row_alloc' (ShRow.below (row_drew' R3.out) hb)) hgrow (hne g (by omega))
          have B6 : Hid (Below w.heap.size w w6) := Below.grown (((B3.out.drew).trans (hb.mono (by simp; have := B3.out.size; omega))).alloc (by have := B3.out.size; omega) _) hgrow (by have := B3.out.size; simp; omega) (fun q hq => by have := (hown5.lt q hq).1; have := B3.out.size; omega)
          have HO6 : Hid (w6.ownsRow (nb + 3) 57 7 (.slice (some ⟨gg, 0, Option.none⟩) (j + 1) cap6) (j + 1) (shCells k ++ r.cells)) := hown6
          have hs6 : nb + 4 ≤ w6.heap.size := by have := hgrow.size; simp at this; omega
          have hk1 : Hid ((k ++ [r]).length = j + 1) := by show (k ++ [r]).length = j + 1; simp; exact hk
          clear hown6 hown5 hgrow hat hlt6 hb hne S3 C3 R3 B3 HO HT d0 d1 d2 d3 d4 d5 d6 s0 s1
          go_wp2
          go_roundw
          case rel => exact ⟨j + 1, by omega, by go_num, ⟨k ++ [r], hk1.out, HR'.out, by rw [shCells_snoc]; exact HO6.out⟩, by simp, S6.out, C6.out, R6.out, B6.out, hs6⟩
          case measure => simp [intOf]; omega
      · have hjm : j = l.length := by omega
        subst hjm
        rcases ownsRow_forms HO.out with ⟨e, _⟩ | ⟨g2, c2, rfl⟩
        · exact absurd e HN.out
        have hg2 := (HO.out.lt _ rfl).2
        dsimp only at hg2
        have RK : Hid (ShRow wr g2 0 k) := shRow_of HO.out hk
        have TK := K.tu g2 c2 k ⟨hk.symm, HT.out⟩
        have hlg : g < wr.heap.size := by omega
        clear HO HN HT
        (have q0 := Blk.cellAt (i := 0) C3.out rfl; have q1 := Blk.cellAt (i := 1) C3.out rfl; have q2 := Blk.cellAt (i := 2) C3.out rfl; simp only [List.getElem_toArray, List.getElem_cons_zero, List.getElem_cons_succ] at q0 q1 q2)
        go_wp2_with fail
        refine (K.tk.call _ R3.out hlg).mono ?_
        rintro e w5 ⟨⟨g5, c5, ⟨rfl, hown⟩⟩, hb⟩
        have L5 : Hid (LitRow w5 g5 0 m) := litRow_of hown rfl
        have S5 : Hid (Blk w5 nb #[.int .i64 t, .bool f] 25) := S3.out.below hb
        have C5 : Hid (Blk w5 nc #[.float .f32 c.r, .float .f32 c.g, .float .f32 c.b] 49) := C3.out.below hb
        have K5 : Hid (ShRow w5 g2 0 k) := RK.out.below hb
        have B5 : Hid (Below w.heap.size w w5) := B3.out.trans (hb.mono B3.out.size)
        have hg5 : g2 < w5.heap.size := by have := hb.size; omega
        have hsz5 : nb + 4 ≤ w5.heap.size := by have := hb.size; omega
        clear hb hown S3 C3 R3 RK B3 q0 q1 q2 hg2 hlg
        (have q0 := Blk.cellAt (i := 0) C5.out rfl; have q1 := Blk.cellAt (i := 1) C5.out rfl; have q2 := Blk.cellAt (i := 2) C5.out rfl; simp only [List.getElem_toArray, List.getElem_cons_zero, List.getElem_cons_succ] at q0 q1 q2)
        have lc5 : nc < w5.heap.size := C5.out.lt
        go_wp2_with fail
        generalize hY : w5.alloc (.cells #[.int .i64 n, .slice (some ⟨g5, 0, Option.none⟩) m.length c5] 37) = Y
        have PY : Hid (Blk Y w5.heap.size #[.int .i64 n, .slice (some ⟨g5, 0, Option.none⟩) m.length c5] 37) := by rw [← hY]; exact Blk.new _ _ _
        have LY : Hid (LitRow Y g5 0 m) := by rw [← hY]; exact L5.out.alloc
        have SY : Hid (Blk Y nb #[.int .i64 t, .bool f] 25) := by rw [← hY]; exact S5.out.alloc
        have KY : Hid (ShRow Y g2 0 k) := by rw [← hY]; exact row_alloc' K5.out
        have BY : Hid (Below w.heap.size w Y) := by rw [← hY]; exact B5.out.alloc B5.out.size _
        have hgY : g2 < Y.heap.size := by rw [← hY]; simp; omega
        clear hY L5 S5 C5 K5 B5 q0 q1 q2 hg5 lc5
        generalize w5.heap.size = np at *
        rw [← hk]
        refine (TK.call _ KY.out hgY).mono ?_
        rintro e w6 ⟨⟨g6, c6, ⟨rfl, hown⟩⟩, hb⟩
        have M6 : Hid (LitRow w6 g6 0 m2) := litRow_of hown rfl
        have P6 : Hid (Blk w6 np #[.int .i64 n, .slice (some ⟨g5, 0, Option.none⟩) m.length c5] 37) := PY.out.below hb
        have L6 : Hid (LitRow w6 g5 0 m) := LY.out.below hb
        have S6 : Hid (Blk w6 nb #[.int .i64 t, .bool f] 25) := SY.out.below hb
        have B6 : Hid (Below w.heap.size w w6) := BY.out.trans (hb.mono BY.out.size)
        clear hb hown PY LY SY KY BY hgY
        go_wp2_with fail
        generalize hZ : w6.alloc (.cells #[.int .i64 n, .slice (some ⟨g6, 0, Option.none⟩) m2.length c6] 37) = Z
        have QZ : Hid (Blk Z w6.heap.size #[.int .i64 n, .slice (some ⟨g6, 0, Option.none⟩) m2.length c6] 37) := by rw [← hZ]; exact Blk.new _ _ _
        have PZ : Hid (Blk Z np #[.int .i64 n, .slice (some ⟨g5, 0, Option.none⟩) m.length c5] 37) := by rw [← hZ]; exact P6.out.alloc
        have LZ : Hid (LitRow Z g5 0 m) := by rw [← hZ]; exact L6.out.alloc
        have MZ : Hid (LitRow Z g6 0 m2) := by rw [← hZ]; exact M6.out.alloc
        have SZ : Hid (Blk Z nb #[.int .i64 t, .bool f] 25) := by rw [← hZ]; exact S6.out.alloc
        have BZ : Hid (Below w.heap.size w Z) := by rw [← hZ]; exact B6.out.alloc B6.out.size _
        clear hZ P6 L6 M6 S6 B6
        generalize w6.heap.size = nq at *
        (have p0 := Blk.cellAt (i := 0) PZ.out rfl; have p1 := Blk.cellAt (i := 1) PZ.out rfl; simp only [List.getElem_toArray, List.getElem_cons_zero, List.getElem_cons_succ] at p0 p1)
        (have q0 := Blk.cellAt (i := 0) QZ.out rfl; have q1 := Blk.cellAt (i := 1) QZ.out rfl; simp only [List.getElem_toArray, List.getElem_cons_zero, List.getElem_cons_succ] at q0 q1)
        (have s0 := Blk.cellAt (i := 0) SZ.out rfl; have s1 := Blk.cellAt (i := 1) SZ.out rfl; simp only [List.getElem_toArray, List.getElem_cons_zero, List.getElem_cons_succ] at s0 s1)
        have hLZ : LitsAt Z (some ⟨g5, 0, Option.none⟩) m := Or.inr ⟨g5, 0, rfl, LZ.out⟩
        have hMZ : LitsAt Z (some ⟨g6, 0, Option.none⟩) m2 := Or.inr ⟨g6, 0, rfl, MZ.out⟩
        have hBZ : Below Z.heap.size Z Z := Below.refl _ _
        have hzZ := Nat.le_refl Z.heap.size
        have lp := PZ.out.lt
        have lq := QZ.out.lt
        have ls := SZ.out.lt
        go_region_held3 (fun wx => Below Z.heap.size Z wx ∧ Z.heap.size ≤ wx.heap.size ∧ np < wx.heap.size ∧ nq < wx.heap.size ∧ nb < wx.heap.size ∧ wx.cell? ⟨nb, 0, Option.none⟩ = some (.int .i64 (t)) ∧ wx.cell? ⟨nb, 1, Option.none⟩ = some (.bool (f)) ∧ wx.cell? ⟨np, 0, Option.none⟩ = some (.int .i64 n) ∧ wx.cell? ⟨np, 1, Option.none⟩ = some (.slice (some ⟨g5, 0, Option.none⟩) m.length c5) ∧ wx.cell? ⟨nq, 0, Option.none⟩ = some (.int .i64 n) ∧ wx.cell? ⟨nq, 1, Option.none⟩ = some (.slice (some ⟨g6, 0, Option.none⟩) m2.length c6))
          (((repeat' apply And.intro) <;> first | (with_reducible assumption) | ((repeat (first | (with_reducible assumption) | (with_reducible exact And.left (by assumption)) | (with_reducible exact And.left (And.right (by assumption))) | (with_reducible exact And.left (And.right (And.right (by assumption)))) | (with_reducible refine LitsAt.drew ?_) | (with_reducible refine LitsAt.below ?_ hb) | (with_reducible refine LitsAt.alloc ?_))); done) | (((repeat (first | (with_reducible assumption) | (with_reducible exact cNewAt (by first | rfl | (simp only [World.size_alloc, World.size_setCell, World.size_drew]; done) | omega) rfl) | (with_reducible exact sNewAt (by first | rfl | (simp only [World.size_alloc, World.size_setCell, World.size_drew]; done) | omega) rfl) | (simp; done) | (with_reducible apply cAlloc) | (with_reducible apply cDrew) | (with_reducible refine cSet (by dsimp only; omega) ?_) | (with_reducible refine cSetOff (by dsimp only; omega) ?_) | (with_reducible apply cSame) | (with_reducible refine cBelow (by assumption) ?_) | (with_reducible apply sAlloc) | (with_reducible apply sDrew) | (with_reducible refine sBelow (by assumption) ?_) | (with_reducible refine sSet (by dsimp only; omega) ?_))); first | done | (simp [*]; done)); done) | (simp only [World.size_alloc, World.size_setCell, World.size_drew]; omega) | omega | (go_keep; done) | ((repeat' (first | (with_reducible exact Below.refl _ _) | (with_reducible assumption) | (with_reducible refine Below.alloc ?_ ?_ _) | (with_reducible refine Below.drew ?_) | (with_reducible refine Below.setCell ?_ ?_ _) | (with_reducible refine Below.trans ?_ (Below.mono (by assumption) ?_)) | (with_reducible exact Nat.le_refl _) | omega | (simp only [World.size_alloc, World.size_setCell, World.size_drew]; omega) | (simp; omega) | (simp; done))); done)))
          (first | (go_at_call 29; (with_reducible refine ((K.ac _ _).call _ ?_).mono ?_); (next => exact LitsAt.below hLZ (And.left (by assumption))); rintro e w7 ⟨⟨g7, c7, ⟨rfl, hown⟩⟩, hb⟩; have M7 : Hid (LitsAt w7 (some ⟨g7, 0, Option.none⟩) m2) := Or.inr ⟨g7, 0, rfl, litRow_of hown rfl⟩; clear hown; have hbs := hb.size; (try simp only [World.size_alloc, World.size_setCell, World.size_drew] at hbs)) | (go_at_call 28; (with_reducible refine ((K.sm _ _ _ _).call _ ?_ M7.out).mono ?_); (next => exact LitsAt.below hMZ (And.left (by assumption))); rintro e w8 ⟨rfl, hb⟩; have hbs := hb.size; (try simp only [World.size_alloc, World.size_setCell, World.size_drew] at hbs)))
        all_goals
          rename_i hHeld
          have B9 : Hid (Below w.heap.size w w8) := BZ.out.trans (hHeld.1.mono BZ.out.size)
          clear hHeld
          go_wp2
          go_ret
          exact ⟨rfl, B9.out⟩
  · go_enter Try.func6, Try.ntmps6
    go_wp2_with fail
    refine (big_yes _ _ _ _ hl).mono ?_
    rintro e w0 ⟨rfl, rfl⟩
    go_wp2
    all_goals (go_returns; exact ⟨rfl, by (repeat' (first | (with_reducible exact Below.refl _ _) | (with_reducible assumption) | (with_reducible refine Below.alloc ?_ ?_ _) | (with_reducible refine Below.drew ?_) | (with_reducible refine Below.setCell ?_ ?_ _) | (with_reducible refine Below.trans ?_ (Below.mono (by assumption) ?_)) | (with_reducible exact Nat.le_refl _) | omega | (simp only [World.size_alloc, World.size_setCell, World.size_drew]; omega) | (simp; omega) | (simp; done)))⟩)
end Go.Proofs.Ytlnikapkheldeaa.wFnTurnedGlass
