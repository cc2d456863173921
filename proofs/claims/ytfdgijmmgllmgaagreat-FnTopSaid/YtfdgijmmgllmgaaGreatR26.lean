/-
  Texts Ul Um Uj, joined.
-/
import Derived.Test.YtfdgijmmgllmgaaGreatR23
import Derived.Test.YtfdgijmmgllmgaaGreatR09
import Derived.Deep.RegionHeld3
import Derived.Deep.DeepCutAuto
import Derived.IntWalk
import Derived.Test.YtfdgijmmgllmgaaGreatR10
import Derived.Deep.RegionLaw
import Derived.Lib.SliceRun
import Derived.Lib.ReflectliteSwap
import Derived.OwnWalk
namespace Go.Proofs.YtfdgijmmgllmgaaGreat
open Go.ChangeShapes Go.WideShapes Go.ChangeAt Go.RowKit Go.Joins
set_option linter.unusedSimpArgs false
set_option linter.unusedVariables false
set_option maxRecDepth 100000
attribute [local go_sem] store_f
open Ieee Go.Lib
attribute [local go_sem] store_c
set_option maxHeartbeats 32000000 in
theorem chg_wait {s : Sho} {N M K n : Nat} {L : List Bw} (R : RunM 199 s.kind s.g1 s.g2 0 n M s.bds L) (t0 : 0 ≤ s.ticks) (t2 : s.ticks ≤ 300) (hn : n ≤ 64) : ChgM 197 (.agg #[.int .i64 n]) s { s with bds := L, ticks := s.ticks + n } N M K N M true := ⟨fun w B P a b l ca cb cl hP hO hB => by
  have P0 := Lib.hid hP
  have I0 := Lib.hid hO.in_
  have hlt := hP.lt
  clear hP hO
  go_enter Tryz.func197, Tryz.ntmps197
  go_wp2_with fail
  generalize hX : w.alloc (.cells #[.int .i64 n] 166) = X
  have P1 : Hid (Blk X P #[.int .i64 s.size, .float .f32 s.step, .float .f32 s.lit.r, .float .f32 s.lit.g, .float .f32 s.lit.b, .slice a N ca, .int .i64 s.kind, .complex .f32 s.g1 s.g2, .float .f32 0, .slice b M cb, .int .i64 s.ticks, .slice l K cl] 34) := by rw [← hX]; exact P0.out.alloc
  have E1 : Hid (Blk X w.heap.size #[.int .i64 n] 166) := by rw [← hX]; exact Blk.new _ _ _
  have I1 : Hid (ShoIn X s a b l) := by rw [← hX]; exact I0.out.alloc
  have G1 : Hid (Below B w X) := by rw [← hX]; exact (Below.refl _ _).alloc (by omega) _
  have sX : w.heap.size < X.heap.size := by rw [← hX]; simp
  clear hX P0 I0
  have HI : Hid (BwIn X b s.bds) := bwIn_of_lies I1.out.bd
  (obtain ⟨p0, p1, p2, p3, p4, p5, p6, p7, p8, p9, p10, p11⟩ := blk12 (P1.out))
  have q0 := Blk.cellAt (i := 0) E1.out rfl
  simp only [List.getElem_toArray, List.getElem_cons_zero, List.getElem_cons_succ] at q0
  have hX0 : Below X.heap.size X X := Below.refl _ _
  have hX1 : X.heap.size ≤ X.heap.size := Nat.le_refl _
  have l1 : P < X.heap.size := P1.out.lt
  clear p0 p1 p2 p3 p4 p5 p10 p11
  go_cut [5, 6] (fun v5 v6 wx => v6 = .bool true ∧ ∃ (nh : Nat) (b' : Option Addr) (c' : Nat), v5 = .pointer (some ⟨nh, 0, Option.none⟩) ∧ nh < wx.heap.size ∧ Blk wx nh #[.int .i64 s.kind, .complex .f32 s.g1 s.g2, .float .f32 0, .slice b' M c'] 31 ∧ BwIn wx b' L ∧ Below X.heap.size X wx)
  case first =>
    go_region_held3 (fun wx => Below X.heap.size X wx ∧ X.heap.size ≤ wx.heap.size ∧ P < wx.heap.size ∧ w.heap.size < wx.heap.size ∧ wx.cell? ⟨P, 6, Option.none⟩ = some (.int .i64 s.kind) ∧ wx.cell? ⟨P, 7, Option.none⟩ = some (.complex .f32 s.g1 s.g2) ∧ wx.cell? ⟨P, 8, Option.none⟩ = some (.float .f32 0) ∧ wx.cell? ⟨P, 9, Option.none⟩ = some (.slice b M cb) ∧ wx.cell? ⟨w.heap.size, 0, Option.none⟩ = some (.int .i64 n))
      (((repeat' apply And.intro) <;> first | (with_reducible assumption) | (((repeat (first | (with_reducible assumption) | (with_reducible exact cNewAt (by first | rfl | (simp only [World.size_alloc, World.size_setCell, World.size_drew]; done) | omega) rfl) | (with_reducible exact sNewAt (by first | rfl | (simp only [World.size_alloc, World.size_setCell, World.size_drew]; done) | omega) rfl) | (simp; done) | (with_reducible apply cAlloc) | (with_reducible apply cDrew) | (with_reducible refine cSet (by dsimp only; omega) ?_) | (with_reducible refine cSetOff (by dsimp only; omega) ?_) | (with_reducible apply cSame) | (with_reducible refine cBelow (by assumption) ?_) | (with_reducible apply sAlloc) | (with_reducible apply sDrew) | (with_reducible refine sBelow (by assumption) ?_) | (with_reducible refine sSet (by dsimp only; omega) ?_))); first | done | (simp [*]; done)); done) | (simp only [World.size_alloc, World.size_setCell, World.size_drew]; omega) | omega | (go_keep; done) | ((repeat' (first | (with_reducible exact Below.refl _ _) | (with_reducible assumption) | (with_reducible refine Below.alloc ?_ ?_ _) | (with_reducible refine Below.drew ?_) | (with_reducible refine Below.setCell ?_ ?_ _) | (with_reducible refine Below.trans ?_ (Below.mono (by assumption) ?_)) | (with_reducible exact Nat.le_refl _) | omega | (simp only [World.size_alloc, World.size_setCell, World.size_drew]; omega) | (simp; omega) | (simp; done))); done)))
      ((go_at_call 199; (with_reducible refine (R.call _ _ _ ?_).mono ?_); (next => exact HI.out.below (And.left (by assumption))); rintro e w3 ⟨b', c', ⟨rfl, hrow, hb⟩⟩; have HROW := Lib.hid hrow; have hbs := hb.size; (try simp only [World.size_alloc, World.size_setCell, World.size_drew] at hbs); (try ((first | have hN := Blk.belowAt hb hN | have hN := Blk.belowAt hb (Blk.drew (Blk.new _ _ _)) | have hN := Blk.belowAt hb (Blk.new _ _ _)); (try simp only [World.size_drew] at hN); have y0 := Blk.cellAt (i := 0) hN rfl; have y1 := Blk.cellAt (i := 1) hN rfl; have y2 := Blk.cellAt (i := 2) hN rfl; have y3 := Blk.cellAt (i := 3) hN rfl; simp only [List.getElem_toArray, List.getElem_cons_zero, List.getElem_cons_succ] at y0 y1 y2 y3; have z0 := hN.free 0; have z1 := hN.free 1; have z2 := hN.free 2; have z3 := hN.free 3; have zl := hN.lt))))
    · rename_i hHeld
      have hbX := hHeld.1
      have hbz := hbX.size
      clear hHeld
      go_wp2_with fail
      go_meet
      refine ⟨rfl, w3.heap.size, b', c', rfl, ?_, ?_, ?_, ?_⟩
      · simp
      · exact Blk.new _ _ _
      · exact BwIn.alloc HROW.out
      · exact hbX
    · rename_i hHeld
      have hbX := hHeld.1
      have hbz := hbX.size
      clear hHeld
      go_wp2_with fail
      go_meet
      refine ⟨rfl, X.heap.size, b', c', rfl, ?_, ?_, ?_, ?_⟩
      · simp; omega
      · exact Blk.setAt rfl (Blk.setAt rfl (Blk.setAt rfl (Blk.setAt rfl hN rfl) rfl) rfl) rfl
      · exact BwIn.grownAt HROW.out grown_set4 y0
      · exact hbX
  case rest =>
    obtain ⟨rfl, nh, b', c', rfl, hnh, hT, hrow, hbel⟩ := hcut
    have P2 : Hid (Blk wc P #[.int .i64 s.size, .float .f32 s.step, .float .f32 s.lit.r, .float .f32 s.lit.g, .float .f32 s.lit.b, .slice a N ca, .int .i64 s.kind, .complex .f32 s.g1 s.g2, .float .f32 0, .slice b M cb, .int .i64 s.ticks, .slice l K cl] 34) := P1.out.below hbel
    have E2 : Hid (Blk wc w.heap.size #[.int .i64 n] 166) := E1.out.below hbel
    have I2 : Hid (ShoIn wc s a b l) := I1.out.below hbel
    have G2 : Hid (Below B w wc) := G1.out.trans (hbel.mono (by omega))
    have R2 := Lib.hid hrow
    have T2 := Lib.hid hT
    have hsz := hbel.size
    clear hbel hrow hT P1 E1 I1 G1 HI p6 p7 p8 p9 q0 hX0 hX1
    (obtain ⟨p0, p1, p2, p3, p4, p5, p6, p7, p8, p9, p10, p11⟩ := blk12 (P2.out))
    (have t0' := Blk.cellAt (i := 0) T2.out rfl; have t1' := Blk.cellAt (i := 1) T2.out rfl; have t2' := Blk.cellAt (i := 2) T2.out rfl; have t3' := Blk.cellAt (i := 3) T2.out rfl; simp only [List.getElem_toArray, List.getElem_cons_zero, List.getElem_cons_succ] at t0' t1' t2' t3')
    have f6 := P2.out.free 6
    have f7 := P2.out.free 7
    have f8 := P2.out.free 8
    have f9 := P2.out.free 9
    have l2 : P < wc.heap.size := by omega
    have hwB : w.heap.size < wc.heap.size := by omega
    have hPw : P ≠ w.heap.size := by omega
    have P3 : Hid (Blk ((((wc.setCell ⟨P, 6, Option.none⟩ (.int .i64 s.kind)).setCell ⟨P, 7, Option.none⟩ (.complex .f32 s.g1 s.g2)).setCell ⟨P, 8, Option.none⟩ (.float .f32 0)).setCell ⟨P, 9, Option.none⟩ (.slice b' M c')) P #[.int .i64 s.size, .float .f32 s.step, .float .f32 s.lit.r, .float .f32 s.lit.g, .float .f32 s.lit.b, .slice a N ca, .int .i64 s.kind, .complex .f32 s.g1 s.g2, .float .f32 0, .slice b' M c', .int .i64 s.ticks, .slice l K cl] 34) := Blk.setAt rfl (Blk.setAt rfl (Blk.setAt rfl (Blk.setAt rfl P2.out rfl) rfl) rfl) rfl
    have E3 : Hid (Blk ((((wc.setCell ⟨P, 6, Option.none⟩ (.int .i64 s.kind)).setCell ⟨P, 7, Option.none⟩ (.complex .f32 s.g1 s.g2)).setCell ⟨P, 8, Option.none⟩ (.float .f32 0)).setCell ⟨P, 9, Option.none⟩ (.slice b' M c')) w.heap.size #[.int .i64 n] 166) := (((E2.out.other (by dsimp only; omega)).other (by dsimp only; omega)).other (by dsimp only; omega)).other (by dsimp only; omega)
    have I3 : Hid (ShoIn ((((wc.setCell ⟨P, 6, Option.none⟩ (.int .i64 s.kind)).setCell ⟨P, 7, Option.none⟩ (.complex .f32 s.g1 s.g2)).setCell ⟨P, 8, Option.none⟩ (.float .f32 0)).setCell ⟨P, 9, Option.none⟩ (.slice b' M c')) s a b l) := I2.out.grownAt grown_set4' p1
    have R3 : Hid (LiesZ ((((wc.setCell ⟨P, 6, Option.none⟩ (.int .i64 s.kind)).setCell ⟨P, 7, Option.none⟩ (.complex .f32 s.g1 s.g2)).setCell ⟨P, 8, Option.none⟩ (.float .f32 0)).setCell ⟨P, 9, Option.none⟩ (.slice b' M c')) b' (bwCells L)) := (lies_of_bwIn R2.out).grownAt grown_set4' p1 fun h0 => by
      obtain ⟨u, e, hu⟩ := bw_at1 _ h0; exact ⟨u, e, hu _⟩
    have G3 : Hid (Below B w ((((wc.setCell ⟨P, 6, Option.none⟩ (.int .i64 s.kind)).setCell ⟨P, 7, Option.none⟩ (.complex .f32 s.g1 s.g2)).setCell ⟨P, 8, Option.none⟩ (.float .f32 0)).setCell ⟨P, 9, Option.none⟩ (.slice b' M c'))) := (((G2.out.setCell (by dsimp only; omega) _).setCell (by dsimp only; omega) _).setCell (by dsimp only; omega) _).setCell (by dsimp only; omega) _
    have z3 : wc.heap.size ≤ ((((wc.setCell ⟨P, 6, Option.none⟩ (.int .i64 s.kind)).setCell ⟨P, 7, Option.none⟩ (.complex .f32 s.g1 s.g2)).setCell ⟨P, 8, Option.none⟩ (.float .f32 0)).setCell ⟨P, 9, Option.none⟩ (.slice b' M c')).heap.size := by simp
    clear P2 E2 I2 G2 R2 T2
    go_wp2_with fail
    generalize (((wc.setCell ⟨P, 6, Option.none⟩ (.int .i64 s.kind)).setCell ⟨P, 7, Option.none⟩ (.complex .f32 s.g1 s.g2)).setCell ⟨P, 8, Option.none⟩ (.float .f32 0)).setCell ⟨P, 9, Option.none⟩ (.slice b' M c') = Y at *
    clear p0 p1 p2 p3 p4 p5 p6 p7 p8 p9 p10 p11 t0' t1' t2' t3' f6 f7 f8 f9
    (obtain ⟨p0, p1, p2, p3, p4, p5, p6, p7, p8, p9, p10, p11⟩ := blk12 (P3.out))
    have f10 := P3.out.free 10
    have q0 := Blk.cellAt (i := 0) E3.out rfl
    simp only [List.getElem_toArray, List.getElem_cons_zero, List.getElem_cons_succ] at q0
    have lY : P < Y.heap.size := by omega
    have hwr : IntKind.i64.wrap (s.ticks + (n : Int)) = s.ticks + n := IntWalk.i64_in _ (by omega)
    clear p0 p2 p3 p4 p5 p6 p7 p8 p9 p11
    go_region
    all_goals
      go_wp2
      go_ret
      refine ⟨a, b', l, ca, c', cl, ⟨rfl, (Blk.setAt rfl P3.out rfl).drew, ?_, (G3.out.setCell (by dsimp only; omega) _).drew, ?_⟩⟩
      · have h := I3.out.setR (R := P) (i := 10) (v := .int .i64 (s.ticks + n)) p1
        have h2 := R3.out.grownAt (W := Y) (w1 := Y.setCell ⟨P, 10, Option.none⟩ (.int .i64 (s.ticks + n))) (grownBy_set (grownBy_refl _ _)) p1 fun h0 => by
          obtain ⟨u, e, hu⟩ := bw_at1 _ h0; exact ⟨u, e, hu _⟩
        exact ⟨h.sh.drew, h2.drew, h.lg.drew⟩
      · show w.heap.size ≤ _
        simp
        omega⟩
end Go.Proofs.YtfdgijmmgllmgaaGreat
namespace Go.Proofs.YtfdgijmmgllmgaaGreat
open Go.ChangeShapes Go.WideShapes Go.ChangeAt Go.RowKit Go.Joins
set_option linter.unusedSimpArgs false
set_option linter.unusedVariables false
set_option maxRecDepth 100000
attribute [local go_sem] store_f
open Ieee Go.Lib
attribute [local go_sem] store_c
structure Refold (k : Int) (b c : Bw) (t : Int) (f : Bool) : Prop where
  fold : FoldM k b.a1 b.a2 c.a1 c.a2 t f
  act : ActM t f b.v1 b.v2 c.v1 c.v2
theorem bw_set2 (L : List Bw) : ∀ n (c : Bw), n < L.length → bwCells (L.set n c) = ((bwCells L).set (n * 2) (.complex .f32 c.a1 c.a2)).set (n * 2 + 1) (.complex .f32 c.v1 c.v2) := by
  induction L with
  | nil => intro n c h; simp at h
  | cons b L ih =>
    intro n c h
    cases n with
    | zero => rfl
    | succ n =>
      have := ih n c (by simpa using h)
      have e : bwCells (b :: L) = .complex .f32 b.a1 b.a2 :: .complex .f32 b.v1 b.v2 :: bwCells L := rfl
      rw [e, show (n + 1) * 2 = n * 2 + 1 + 1 by omega]
      show _ = Value.complex .f32 b.a1 b.a2 :: .complex .f32 b.v1 b.v2 :: ((bwCells L).set (n * 2) (.complex .f32 c.a1 c.a2)).set (n * 2 + 1) (.complex .f32 c.v1 c.v2)
      rw [← this]
      rfl
def mixL (L R : List Bw) (k : Nat) : List Bw := R.take k ++ L.drop k
theorem mixL_len {L R : List Bw} (h : R.length = L.length) {k : Nat} (hk : k ≤ L.length) : (mixL L R k).length = L.length := by simp [mixL]; omega
theorem mixL_get {L R : List Bw} (h : R.length = L.length) {k : Nat} (hk : k < L.length) : (mixL L R k).getD k default = L.getD k default := by
  have : (R.take k).length = k := by simp; omega
  simp [mixL, List.getD, List.getElem?_append_right, this, show k < L.length from hk]
theorem mixL_step {L R : List Bw} (h : R.length = L.length) {k : Nat} (hk : k < L.length) : mixL L R (k + 1) = (mixL L R k).set k (R.getD k default) := by
  have h1 : (R.take k).length = k := by simp; omega
  have h2 : L.drop k = L[k] :: L.drop (k + 1) := List.drop_eq_getElem_cons hk
  have h3 : R.take (k + 1) = R.take k ++ [R.getD k default] := by
    rw [List.take_succ_eq_append_getElem (by omega)]; simp [List.getD, show k < R.length by omega]
  unfold mixL
  rw [h3, h2, List.set_append_right _ _ (by omega), h1, Nat.sub_self, List.set_cons_zero]
  simp
theorem mixL_0 (L R : List Bw) : mixL L R 0 = L := by simp [mixL]
theorem mixL_all {L R : List Bw} (h : R.length = L.length) : mixL L R L.length = R := by simp [mixL, ← h]
set_option maxHeartbeats 32000000 in
theorem chg_mirrors {s : Sho} {N M K n : Nat} {R : List Bw} (hm : s.bds.length = M) (hR : R.length = M) (hM : M ≤ 8) (HF : ∀ k, k < M → ∃ t f, Refold n (s.bds.getD k default) (R.getD k default) t f) : ChgM 191 (.agg #[.int .i64 n]) s { s with kind := n, bds := R } N M K N M true := ⟨fun w B P a b l ca cb cl hP hO hB => by
  have HROW : Hid (∀ g, b = some ⟨g, 0, Option.none⟩ → g ≠ P ∧ a ≠ some ⟨g, 0, Option.none⟩ ∧ l ≠ some ⟨g, 0, Option.none⟩ ∧ (0 < M → B ≤ g ∧ g < w.heap.size ∧ ∃ cs, Blk w g cs 59)) := fun g hg => by
    subst hg
    refine ⟨fun e => owns_blk hO.bd hP (by decide) g rfl (by rw [e]), owns_apart hO.sh hO.bd (by decide), owns_apart hO.lg hO.bd (by decide), fun h0 => ?_⟩
    obtain ⟨g', HG⟩ := rowOf hO.bd h0
    obtain ⟨rfl⟩ : g = g' := by have := HG.at_; simpa using this
    exact ⟨HG.ge, HG.lt, HG.blk⟩
  have I0 := Lib.hid hO.in_
  have P0 := Lib.hid hP
  have hlt := hP.lt
  have HFX := Lib.hid HF
  have HM := Lib.hid hm
  have HRL := Lib.hid hR
  have p0 := Blk.cellAt (i := 6) hP rfl
  have p9 := Blk.cellAt (i := 9) hP rfl
  simp only [List.getElem_toArray, List.getElem_cons_zero, List.getElem_cons_succ] at p0 p9
  have f6 := hP.free 6
  have P1 : Hid (Blk (w.setCell ⟨P, 6, Option.none⟩ (.int .i64 n)) P #[.int .i64 s.size, .float .f32 s.step, .float .f32 s.lit.r, .float .f32 s.lit.g, .float .f32 s.lit.b, .slice a N ca, .int .i64 n, .complex .f32 s.g1 s.g2, .float .f32 0, .slice b M cb, .int .i64 s.ticks, .slice l K cl] 34) := Blk.setAt rfl P0.out rfl
  have hp1 := Blk.cellAt (i := 1) hP rfl
  simp only [List.getElem_toArray, List.getElem_cons_zero, List.getElem_cons_succ] at hp1
  have I1 : Hid (ShoIn (w.setCell ⟨P, 6, Option.none⟩ (.int .i64 n)) s a b l) := I0.out.setR hp1
  have G1 : Hid (Below B w (w.setCell ⟨P, 6, Option.none⟩ (.int .i64 n))) := (Below.refl _ _).setCell (by dsimp only; omega) _
  have HR1 : Hid (∀ g, b = some ⟨g, 0, Option.none⟩ → 0 < M → ∃ cs, Blk (w.setCell ⟨P, 6, Option.none⟩ (.int .i64 n)) g cs 59) := fun g e h0 => by
    obtain ⟨h1, _, _, h2⟩ := HROW.out g e
    obtain ⟨cs, h3⟩ := (h2 h0).2.2
    exact ⟨cs, h3.other (by dsimp only; exact h1)⟩
  clear hP hO HF hm hR hp1
  go_enter Tryz.func191, Tryz.ntmps191
  go_wp2_with fail
  generalize hX : (w.setCell ⟨P, 6, Option.none⟩ (.int .i64 n)).alloc (.cells #[.int .i64 n] 160) = X
  have sX : X.heap.size = w.heap.size + 1 := by rw [← hX]; simp
  have P2 : Hid (Blk X P #[.int .i64 s.size, .float .f32 s.step, .float .f32 s.lit.r, .float .f32 s.lit.g, .float .f32 s.lit.b, .slice a N ca, .int .i64 n, .complex .f32 s.g1 s.g2, .float .f32 0, .slice b M cb, .int .i64 s.ticks, .slice l K cl] 34) := by rw [← hX]; exact P1.out.alloc
  have E2 : Hid (Blk X w.heap.size #[.int .i64 n] 160) := by rw [← hX]; exact Blk.newAt (by simp)
  have I2 : Hid (ShoIn X s a b l) := by rw [← hX]; exact I1.out.alloc
  have G2 : Hid (Below B w X) := by rw [← hX]; exact G1.out.alloc (by simp; omega) _
  have HR2 : Hid (∀ g, b = some ⟨g, 0, Option.none⟩ → 0 < M → ∃ cs, Blk X g cs 59) := fun g e h0 => by
    obtain ⟨cs, h3⟩ := HR1.out g e h0
    rw [← hX]
    exact ⟨cs, h3.alloc⟩
  clear hX P0 P1 I0 I1 G1 HR1 p0 p9 f6
  have hXw : w.heap.size < X.heap.size := by omega
  clear sX
  go_loopw [22] (fun i wr => ∃ k : Nat, k ≤ M ∧ i = .int .i64 k ∧ Blk wr P #[.int .i64 s.size, .float .f32 s.step, .float .f32 s.lit.r, .float .f32 s.lit.g, .float .f32 s.lit.b, .slice a N ca, .int .i64 n, .complex .f32 s.g1 s.g2, .float .f32 0, .slice b M cb, .int .i64 s.ticks, .slice l K cl] 34 ∧ Blk wr w.heap.size #[.int .i64 n] 160 ∧ LiesZ wr a (shCells s.shs) ∧ LiesZ wr l (evCells s.log) ∧ LiesZ wr b (bwCells (mixL s.bds R k)) ∧ (∀ g, b = some ⟨g, 0, Option.none⟩ → 0 < M → ∃ cs, Blk wr g cs 59) ∧ Below B w wr ∧ w.heap.size < wr.heap.size) (fun i _ => M - (intOf i).toNat)
  case atStart => exact ⟨0, by omega, rfl, P2.out, E2.out, I2.out.sh, I2.out.lg, by rw [mixL_0]; exact I2.out.bd, HR2.out, G2.out, hXw⟩
  case round =>
    obtain ⟨k, hk, rfl, hPr, hEr, hsr, hlr, hbr, hgr, hbel, hsz⟩ := hrel
    have PR := Lib.hid hPr
    have ER := Lib.hid hEr
    have SR := Lib.hid hsr
    have LR := Lib.hid hlr
    have BR := Lib.hid hbr
    have GR := Lib.hid hgr
    have BE := Lib.hid hbel
    clear hPr hEr hsr hlr hbr hgr hbel P2 E2 I2 G2 HR2
    by_cases hlt2 : k < M
    · have hML : (mixL s.bds R k).length = M := by rw [mixL_len (by rw [HRL.out, HM.out]) (by rw [HM.out]; omega), HM.out]
      rcases BR.out with hnil | ⟨g, rfl, hlie⟩
      · exfalso
        have := congrArg List.length hnil
        rw [bwCells_len, hML] at this
        simp at this; omega
      have LI := Lib.hid hlie
      obtain ⟨hgP, hga, hgl, hgx⟩ := HROW.out g rfl
      obtain ⟨hgB, hgw, _⟩ := hgx (by omega)
      obtain ⟨gcs, hgb⟩ := GR.out g rfl (by omega)
      have HGB := Lib.hid hgb
      have HGA := Lib.hid hga
      have HGL := Lib.hid hgl
      obtain ⟨t, f, RF⟩ := HFX.out k hlt2
      have FO := RF.fold
      have AC := RF.act
      have c01 := (bwRow_of_lie hlie) k (by omega)
      rw [mixL_get (by rw [HRL.out, HM.out]) (by rw [HM.out]; omega)] at c01
      have HST : Hid (mixL s.bds R (k + 1) = (mixL s.bds R k).set k (R.getD k default)) := mixL_step (by rw [HRL.out, HM.out]) (by rw [HM.out]; omega)
      have HML := Lib.hid hML
      obtain ⟨c0, c1⟩ := c01
      generalize s.bds.getD k default = bd at FO AC c0 c1
      generalize R.getD k default = rd at FO AC HST
      have p9 := Blk.cellAt (i := 9) PR.out rfl
      have q0 := Blk.cellAt (i := 0) ER.out rfl
      simp only [List.getElem_toArray, List.getElem_cons_zero, List.getElem_cons_succ] at p9 q0
      have lP : P < wr.heap.size := PR.out.lt
      have hk0 : (0 : Int) ≤ (k : Int) := by omega
      have hk1 : (k : Int) < (M : Int) := by omega
      clear hlie hga hgl hgx hgb RF BR GR hML
      go_wp2_with fail
      generalize hV : wr.alloc (.cells #[.complex .f32 bd.a1 bd.a2, .complex .f32 bd.v1 bd.v2] 59) = V
      have sV : wr.heap.size < V.heap.size := by rw [← hV]; simp
      have PV : Hid (Blk V P #[.int .i64 s.size, .float .f32 s.step, .float .f32 s.lit.r, .float .f32 s.lit.g, .float .f32 s.lit.b, .slice a N ca, .int .i64 n, .complex .f32 s.g1 s.g2, .float .f32 0, .slice (some ⟨g, 0, Option.none⟩) M cb, .int .i64 s.ticks, .slice l K cl] 34) := by rw [← hV]; exact PR.out.alloc
      have EV : Hid (Blk V w.heap.size #[.int .i64 n] 160) := by rw [← hV]; exact ER.out.alloc
      have DV : Hid (Blk V wr.heap.size #[.complex .f32 bd.a1 bd.a2, .complex .f32 bd.v1 bd.v2] 59) := by rw [← hV]; exact Blk.new _ _ _
      have GV : Hid (Blk V g gcs 59) := by rw [← hV]; exact HGB.out.alloc
      have LV : Hid (LieAt V g 0 (bwCells (mixL s.bds R k))) := by rw [← hV]; exact LI.out.alloc
      have SV : Hid (LiesZ V a (shCells s.shs)) := by rw [← hV]; exact SR.out.alloc
      have OV : Hid (LiesZ V l (evCells s.log)) := by rw [← hV]; exact LR.out.alloc
      have BV : Hid (Below B w V) := by rw [← hV]; exact BE.out.alloc (by omega) _
      have c0v : V.cell? ⟨g, k * 2, Option.none⟩ = some (.complex .f32 bd.a1 bd.a2) := by rw [← hV]; exact cAlloc c0
      have c1v : V.cell? ⟨g, k * 2 + 1, Option.none⟩ = some (.complex .f32 bd.v1 bd.v2) := by rw [← hV]; exact cAlloc c1
      have C0 := Lib.hid c0v
      have C1 := Lib.hid c1v
      clear hV PR ER HGB LI SR LR BE c0 c1 c0v c1v p9 q0
      refine (FO.call _).mono ?_
      rintro e w3 ⟨rfl, hb⟩
      have s3 := hb.size
      have P3 := Lib.hid (PV.out.below hb)
      have E3 := Lib.hid (EV.out.below hb)
      have D3 := Lib.hid (DV.out.below hb)
      have G3 := Lib.hid (GV.out.below hb)
      have L3 := Lib.hid (LV.out.below hb)
      have S3 := Lib.hid (SV.out.below hb)
      have O3 := Lib.hid (OV.out.below hb)
      have B3 : Hid (Below B w w3) := BV.out.trans (hb.mono (by omega))
      have C03 := Lib.hid (cBelow hb C0.out)
      have C13 := Lib.hid (cBelow hb C1.out)
      clear hb PV EV DV GV LV SV OV BV C0 C1 FO
      go_wp2_with fail
      generalize hY : w3.alloc (.cells #[.int .i64 t, .bool f] 63) = Y
      have sY : w3.heap.size < Y.heap.size := by rw [← hY]; simp
      have PY : Hid (Blk Y P #[.int .i64 s.size, .float .f32 s.step, .float .f32 s.lit.r, .float .f32 s.lit.g, .float .f32 s.lit.b, .slice a N ca, .int .i64 n, .complex .f32 s.g1 s.g2, .float .f32 0, .slice (some ⟨g, 0, Option.none⟩) M cb, .int .i64 s.ticks, .slice l K cl] 34) := by rw [← hY]; exact P3.out.alloc
      have EY : Hid (Blk Y w.heap.size #[.int .i64 n] 160) := by rw [← hY]; exact E3.out.alloc
      have DY : Hid (Blk Y wr.heap.size #[.complex .f32 bd.a1 bd.a2, .complex .f32 bd.v1 bd.v2] 59) := by rw [← hY]; exact D3.out.alloc
      have TY : Hid (Blk Y w3.heap.size #[.int .i64 t, .bool f] 63) := by rw [← hY]; exact Blk.new _ _ _
      have GY : Hid (Blk Y g gcs 59) := by rw [← hY]; exact G3.out.alloc
      have LY : Hid (LieAt Y g 0 (bwCells (mixL s.bds R k))) := by rw [← hY]; exact L3.out.alloc
      have SY : Hid (LiesZ Y a (shCells s.shs)) := by rw [← hY]; exact S3.out.alloc
      have OY : Hid (LiesZ Y l (evCells s.log)) := by rw [← hY]; exact O3.out.alloc
      have BY : Hid (Below B w Y) := by rw [← hY]; exact B3.out.alloc (by omega) _
      have C0Y : Hid (Y.cell? ⟨g, k * 2, Option.none⟩ = some (.complex .f32 bd.a1 bd.a2)) := by rw [← hY]; exact cAlloc C03.out
      have C1Y : Hid (Y.cell? ⟨g, k * 2 + 1, Option.none⟩ = some (.complex .f32 bd.v1 bd.v2)) := by rw [← hY]; exact cAlloc C13.out
      clear hY P3 E3 D3 G3 L3 S3 O3 B3 C03 C13
      have p9 := Blk.cellAt (i := 9) PY.out rfl
      have t0 := Blk.cellAt (i := 0) TY.out rfl
      have t1 := Blk.cellAt (i := 1) TY.out rfl
      have d1 := Blk.cellAt (i := 1) DY.out rfl
      simp only [List.getElem_toArray, List.getElem_cons_zero, List.getElem_cons_succ] at p9 t0 t1 d1
      have lY : g < Y.heap.size := by omega
      have lYP : P < Y.heap.size := by omega
      have lYr : wr.heap.size < Y.heap.size := by omega
      have hY1 : Y.heap.size ≤ Y.heap.size := Nat.le_refl _
      go_region_held3 (fun wx => Y.heap.size ≤ wx.heap.size ∧ P < wx.heap.size ∧ wr.heap.size < wx.heap.size ∧ w3.heap.size < wx.heap.size ∧ g < wx.heap.size ∧ wx.cell? ⟨P, 9, Option.none⟩ = some (.slice (some ⟨g, 0, Option.none⟩) M cb) ∧ wx.cell? ⟨w3.heap.size, 0, Option.none⟩ = some (.int .i64 t) ∧ wx.cell? ⟨w3.heap.size, 1, Option.none⟩ = some (.bool f) ∧ wx.cell? ⟨wr.heap.size, 1, Option.none⟩ = some (.complex .f32 bd.v1 bd.v2))
        (((repeat' apply And.intro) <;> first | (with_reducible assumption) | (((repeat (first | (with_reducible assumption) | (with_reducible exact cNewAt (by first | rfl | (simp only [World.size_alloc, World.size_setCell, World.size_drew]; done) | omega) rfl) | (with_reducible exact sNewAt (by first | rfl | (simp only [World.size_alloc, World.size_setCell, World.size_drew]; done) | omega) rfl) | (simp; done) | (with_reducible apply cAlloc) | (with_reducible apply cDrew) | (with_reducible refine cSet (by dsimp only; omega) ?_) | (with_reducible refine cSetOff (by dsimp only; omega) ?_) | (with_reducible apply cSame) | (with_reducible refine cBelow (by assumption) ?_) | (with_reducible apply sAlloc) | (with_reducible apply sDrew) | (with_reducible refine sBelow (by assumption) ?_) | (with_reducible refine sSet (by dsimp only; omega) ?_))); first | done | (simp [*]; done)); done) | (simp only [World.size_alloc, World.size_setCell, World.size_drew]; omega) | omega | (go_keep; done) | ((repeat' (first | (with_reducible exact Below.refl _ _) | (with_reducible assumption) | (with_reducible refine Below.alloc ?_ ?_ _) | (with_reducible refine Below.drew ?_) | (with_reducible refine Below.setCell ?_ ?_ _) | (with_reducible refine Below.trans ?_ (Below.mono (by assumption) ?_)) | (with_reducible exact Nat.le_refl _) | omega | (simp only [World.size_alloc, World.size_setCell, World.size_drew]; omega) | (simp; omega) | (simp; done))); done)))
        (first | (go_at_call 53; (with_reducible refine (AC.call _).mono ?_); rintro e w4 ⟨rfl, hb⟩; have hbs := hb.size; (try simp only [World.size_alloc, World.size_setCell, World.size_drew] at hbs); have HBD : Hid (Below Y.heap.size Y w4) := ((Below.refl _ _).drew).trans hb; have y0 := cBelow HBD.out C0Y.out; have y1 := cBelow HBD.out C1Y.out; have hG4 := GY.out.below HBD.out; have z0 := hG4.free (k * 2); have z1 := hG4.free (k * 2 + 1); have HG4 := Lib.hid hG4; clear hG4))
      all_goals
        rename_i hHeld
        clear hHeld
        have hB4 := HBD.out
        have P4 := PY.out.below hB4
        have E4 := EY.out.below hB4
        have L4 := LY.out.below hB4
        have S4 := SY.out.below hB4
        have O4 := OY.out.below hB4
        have B4 : Below B w w4 := BY.out.trans (hB4.mono (by omega))
        have L5 := (L4.setAt (i := k * 2) (v := .complex .f32 rd.a1 rd.a2) (by rw [bwCells_len, HML.out]; omega)).setAt (i := k * 2 + 1) (v := .complex .f32 rd.v1 rd.v2) (by rw [List.length_set, bwCells_len, HML.out]; omega)
        rw [← bw_set2 _ _ _ (by rw [HML.out]; exact hlt2), ← HST.out] at L5
        have HP5 : Hid (Blk ((w4.setCell ⟨g, k * 2, Option.none⟩ (.complex .f32 rd.a1 rd.a2)).setCell ⟨g, k * 2 + 1, Option.none⟩ (.complex .f32 rd.v1 rd.v2)) P _ _) := (P4.other (by dsimp only; omega)).other (by dsimp only; omega)
        have HE5 : Hid (Blk ((w4.setCell ⟨g, k * 2, Option.none⟩ (.complex .f32 rd.a1 rd.a2)).setCell ⟨g, k * 2 + 1, Option.none⟩ (.complex .f32 rd.v1 rd.v2)) w.heap.size _ _) := (E4.other (by dsimp only; omega)).other (by dsimp only; omega)
        have HS5 := Lib.hid ((S4.other (i := k * 2) (v := .complex .f32 rd.a1 rd.a2) HGA.out).other (i := k * 2 + 1) (v := .complex .f32 rd.v1 rd.v2) HGA.out)
        have HO5 := Lib.hid ((O4.other (i := k * 2) (v := .complex .f32 rd.a1 rd.a2) HGL.out).other (i := k * 2 + 1) (v := .complex .f32 rd.v1 rd.v2) HGL.out)
        have HG5 := Lib.hid ((HG4.out.set (i := k * 2) (v := .complex .f32 rd.a1 rd.a2)).set (i := k * 2 + 1) (v := .complex .f32 rd.v1 rd.v2))
        have HB5 : Hid (Below B w ((w4.setCell ⟨g, k * 2, Option.none⟩ (.complex .f32 rd.a1 rd.a2)).setCell ⟨g, k * 2 + 1, Option.none⟩ (.complex .f32 rd.v1 rd.v2))) := (B4.setCell (by dsimp only; omega) _).setCell (by dsimp only; omega) _
        have HL5 := Lib.hid L5
        have hz5 : w.heap.size < ((w4.setCell ⟨g, k * 2, Option.none⟩ (.complex .f32 rd.a1 rd.a2)).setCell ⟨g, k * 2 + 1, Option.none⟩ (.complex .f32 rd.v1 rd.v2)).heap.size := by simp; omega
        clear hB4 P4 E4 L4 S4 O4 B4 L5 p9 t0 t1 d1 y0 y1 z0 z1
        go_wp2
        go_roundw
        case rel => exact ⟨k + 1, by omega, by go_num, HP5.out, HE5.out, HS5.out, HO5.out, Or.inr ⟨g, rfl, HL5.out⟩, fun g' e' _ => by cases e'; exact ⟨_, HG5.out⟩, HB5.out, hz5⟩
        case measure => simp [intOf]; omega
    · obtain rfl : k = M := by omega
      go_wp2
      go_ret
      have e : mixL s.bds R k = R := by rw [← HM.out]; exact mixL_all (by rw [HRL.out, HM.out])
      have h := BR.out
      rw [e] at h
      exact ⟨a, b, l, ca, cb, cl, ⟨rfl, PR.out, ⟨SR.out, h, LR.out⟩, BE.out, by omega⟩⟩⟩
end Go.Proofs.YtfdgijmmgllmgaaGreat
namespace Go.Proofs.YtfdgijmmgllmgaaGreat
open Go.ChangeShapes Go.WideShapes Go.ChangeAt Go.RowKit Go.Joins
set_option linter.unusedSimpArgs false
set_option linter.unusedVariables false
set_option maxRecDepth 100000
attribute [local go_sem] store_f
open Ieee Go.Lib
attribute [local go_sem] store_c
theorem grown_setCells (g : Nat) : ∀ (vs : List Value) (o : Nat) (w : World), w.grownBy (w.setCells g o vs) (some g)
  | [], _, w => grownBy_refl _ _
  | v :: r, o, w => grownBy_trans (grownBy_set (grownBy_refl _ _)) (grown_setCells g r (o + 1) _)
structure DelOut (w : World) (e : Ending) (w' : World) (N c sz i j g : Nat) (xs : List Value) : Prop where
  ret : e = .returned (.slice (some ⟨g, 0, Option.none⟩) (N - 1) c)
  lie : LieAt w' g 0 (xs.take (i * sz) ++ xs.drop (j * sz))
  grown : w.grownBy w' (some g)
structure DelM (F : FuncId) (xs : List Value) (N c sz i j g : Nat) : Prop where
  call : ∀ w : World, LieAt w g 0 xs → (∀ q, w.frozen? ⟨g, q, Option.none⟩ = false) → Calls Tryz.prog F #[.slice (some ⟨g, 0, Option.none⟩) N c, .int .i64 i, .int .i64 j] w fun e w' => DelOut w e w' N c sz i j g xs
theorem delBead_z : (Builtin.zeroCells (Value.cells (.agg #[.complex .f32 0 0, .complex .f32 0 0])) 1).toList = [.complex .f32 0 0, .complex .f32 0 0] := by kernel_rfl
set_option maxHeartbeats 8000000 in
theorem delBead {xs : List Value} {N c i j g : Nat} (hx : xs.length = N * 2) (h1 : ∀ u ∈ xs, u.oneCell' = true) (hN : N ≤ 64) (hc : N ≤ c) (hm : c ≤ 9223372036854775807) (hj : j = i + 1) (hjN : j ≤ N) : DelM 188 xs N c 2 i j g := ⟨fun w hL hF => by
  obtain ⟨i0, hi0, hz0, hz1, hz2⟩ := info_parts infoB
  have v23 : ∀ w, (zeroValue 59).run Tryz.prog w = .ok (.agg #[.complex .f32 0 0, .complex .f32 0 0]) w := fun w => by kernel_rfl
  obtain ⟨news, hnews⟩ : ∃ news, news = xs.drop (j * 2) := ⟨_, rfl⟩
  have hlen : news.length = (N - j) * 2 := by rw [hnews, List.length_drop, hx, Nat.sub_mul]
  obtain ⟨A, hA, hsrc⟩ : ∃ A : Addr, (if c = j then some (⟨g, 0, Option.none⟩ : Addr) else some ⟨g, j * 2, Option.none⟩) = some A ∧ Hid (∀ t u, news[t]? = some u → w.drew.cell? (A.add t) = some u) := by
    by_cases h : c = j
    · refine ⟨⟨g, 0, Option.none⟩, by simp [h], fun t u hu => ?_⟩
      have h0 : news.length = 0 := by rw [hlen]; omega
      rw [List.length_eq_zero_iff.1 h0] at hu
      simp at hu
    · refine ⟨⟨g, j * 2, Option.none⟩, by simp [h], fun t u hu => ?_⟩
      rw [Go.WideShapes.add_plain]
      rw [hnews, List.getElem?_drop] at hu
      have h2 := hL _ _ hu
      rw [Nat.zero_add] at h2
      exact h2
  have hsome : ∀ t, t < N * 2 → ∃ u, w.cell? ⟨g, t, Option.none⟩ = some u := fun t ht => ⟨_, by have h2 := hL t _ (List.getElem?_eq_getElem (by omega : t < xs.length)); rw [Nat.zero_add] at h2; exact h2⟩
  have s1 : Hid (news.length = (N - j) * 2) := hlen
  have s2 : Hid (∀ u ∈ news, u.oneCell' = true) := fun u hu => h1 u (by rw [hnews] at hu; exact List.mem_of_mem_drop hu)
  have s3 : Hid (∀ t, t < news.length → (w.drew.cell? ⟨g, 0 + i * 2 + t, Option.none⟩).isSome = true ∧ w.drew.frozen? ⟨g, 0 + i * 2 + t, Option.none⟩ = false) := fun t ht => by
    rw [hlen] at ht
    obtain ⟨u, hu⟩ := hsome (0 + i * 2 + t) (by omega)
    exact ⟨by show (w.cell? _).isSome = true; rw [hu]; rfl, hF _⟩
  obtain ⟨W1, hW1⟩ : ∃ W1, W1 = w.drew.setCells g (0 + i * 2) news := ⟨_, rfl⟩
  have hsome1 : ∀ t, t < N * 2 → (W1.cell? ⟨g, t, Option.none⟩).isSome = true := fun t ht => by
    rw [hW1]
    obtain ⟨u, hu⟩ := hsome t ht
    exact Lib.isSome_setCells g _ _ _ _ (by show (w.cell? _).isSome = true; rw [hu]; rfl)
  have hcl : ∀ ty, (Builtin.clear_ #[29] ty #[.slice (some ⟨g, (i + (N - j)) * 2, Option.none⟩) (N - (i + (N - j))) (c - (i + (N - j)))]).run Tryz.prog W1 = .ok (.tuple #[]) (W1.setCells g ((i + (N - j)) * 2) [.complex .f32 0 0, .complex .f32 0 0]) := fun ty => by
    have hst := run_storeCells_cells (P := Tryz.prog) g ((i + (N - j)) * 2) [.complex .f32 0 0, .complex .f32 0 0] 0 W1 (fun t ht => by rw [Nat.add_zero]; exact hsome1 _ (by have : t < 2 := ht; omega)) (fun t ht => by rw [hW1, World.frozen?_setCells]; exact hF _) (fun v hv => by simp at hv; rcases hv with rfl <;> rfl)
    rw [Nat.add_zero] at hst
    rw [show N - (i + (N - j)) = 0 + 1 by omega]
    simp [Builtin.clear_, run_underlying Tryz.underlying29, v23, delBead_z, hst]
  have HW : Hid (W1 = w.drew.setCells g (0 + i * 2) news) := hW1
  have HOUT : Hid (DelOut w (.returned (.slice (some ⟨g, 0, Option.none⟩) (i + (N - j)) c)) (W1.setCells g ((i + (N - j)) * 2) [.complex .f32 0 0, .complex .f32 0 0]) N c 2 i j g xs) := by
    refine ⟨by rw [show i + (N - j) = N - 1 by omega], ?_, ?_⟩
    · intro t u hu
      rw [Nat.zero_add]
      rw [World.cell?_setCells_out g _ _ _ _ (fun _ _ => .inl ?_)]
      · rw [hW1]
        rcases Nat.lt_or_ge t (i * 2) with h | h
        · rw [World.cell?_setCells_out g _ _ _ _ (fun _ _ => .inl (by dsimp only; omega))]
          rw [List.getElem?_append_left (by rw [List.length_take]; omega), List.getElem?_take_of_lt h] at hu
          have h2 := hL _ _ hu
          rw [Nat.zero_add] at h2
          exact h2
        · have ht : t < (N - 1) * 2 := by
            have := (List.getElem?_eq_some_iff.1 hu).1
            simp only [List.length_append, List.length_take, List.length_drop, hx] at this
            omega
          rw [List.getElem?_append_right (by rw [List.length_take]; omega), List.length_take, Nat.min_eq_left (by omega), ← hnews] at hu
          obtain ⟨q, rfl⟩ : ∃ q, t = 0 + i * 2 + q := ⟨t - i * 2, by omega⟩
          rw [show 0 + i * 2 + q - i * 2 = q by omega] at hu
          have hq : q < news.length := (List.getElem?_eq_some_iff.1 hu).1
          have h3 := World.cell?_setCells_in g news (0 + i * 2) w.drew (fun t ht => (s3.out t ht).1) q hq
          rw [h3]
          rw [List.getElem?_eq_getElem hq] at hu
          exact hu
      · have := (List.getElem?_eq_some_iff.1 hu).1
        simp only [List.length_append, List.length_take, List.length_drop, hx] at this
        dsimp only
        omega
    · rw [hW1]
      exact grownBy_trans (grownBy_trans (⟨rfl, rfl, rfl, Nat.le_refl _, fun _ _ _ => rfl⟩ : w.grownBy w.drew (some g)) (grown_setCells _ _ _ _)) (grown_setCells _ _ _ _)
  clear hW1 hL hF hnews hlen hsome hsome1 hz0 hz2 v23 h1 hx
  have HJ := Lib.hid hj
  have hiN : i + (N - j) < N := by omega
  have hic : i ≤ c := by omega
  have hjc : j ≤ c := by omega
  have hij : i < j := by omega
  have hij2 : i ≤ j := by omega
  have hne : ((i : Int) == (j : Int)) = false := by simp; omega
  clear hj
  go_enter Tryz.func188, Tryz.ntmps188
  go_wp2_with fail
  go_region_law (refine step_append_room rfl (.tmp 22) (.tmp 25) 29 rfl 59 i0 2 Tryz.underlying29 hi0 hz1 g 0 i c (by simp [Act.eval, Act.put]) A (N - j) (c - j) news (by simp [Act.eval, Act.put]) s1.out hsrc.out s2.out (by omega) s3.out ?_; rw [← HW.out])
  go_wp2
  go_ret
  exact HOUT.out⟩
theorem delShd_z : (Builtin.zeroCells (Value.cells (.agg #[.complex .f32 0 0, .complex .f32 0 0, .complex .f32 0 0, .float .f32 0, .float .f32 0, .float .f32 0, .float .f32 0])) 1).toList = [.complex .f32 0 0, .complex .f32 0 0, .complex .f32 0 0, .float .f32 0, .float .f32 0, .float .f32 0, .float .f32 0] := by kernel_rfl
set_option maxHeartbeats 8000000 in
theorem delShd {xs : List Value} {N c i j g : Nat} (hx : xs.length = N * 7) (h1 : ∀ u ∈ xs, u.oneCell' = true) (hN : N ≤ 64) (hc : N ≤ c) (hm : c ≤ 9223372036854775807) (hj : j = i + 1) (hjN : j ≤ N) : DelM 187 xs N c 7 i j g := ⟨fun w hL hF => by
  obtain ⟨i0, hi0, hz0, hz1, hz2⟩ := info_parts infoShd
  have v23 : ∀ w, (zeroValue 36).run Tryz.prog w = .ok (.agg #[.complex .f32 0 0, .complex .f32 0 0, .complex .f32 0 0, .float .f32 0, .float .f32 0, .float .f32 0, .float .f32 0]) w := fun w => by kernel_rfl
  obtain ⟨news, hnews⟩ : ∃ news, news = xs.drop (j * 7) := ⟨_, rfl⟩
  have hlen : news.length = (N - j) * 7 := by rw [hnews, List.length_drop, hx, Nat.sub_mul]
  obtain ⟨A, hA, hsrc⟩ : ∃ A : Addr, (if c = j then some (⟨g, 0, Option.none⟩ : Addr) else some ⟨g, j * 7, Option.none⟩) = some A ∧ Hid (∀ t u, news[t]? = some u → w.drew.cell? (A.add t) = some u) := by
    by_cases h : c = j
    · refine ⟨⟨g, 0, Option.none⟩, by simp [h], fun t u hu => ?_⟩
      have h0 : news.length = 0 := by rw [hlen]; omega
      rw [List.length_eq_zero_iff.1 h0] at hu
      simp at hu
    · refine ⟨⟨g, j * 7, Option.none⟩, by simp [h], fun t u hu => ?_⟩
      rw [Go.WideShapes.add_plain]
      rw [hnews, List.getElem?_drop] at hu
      have h2 := hL _ _ hu
      rw [Nat.zero_add] at h2
      exact h2
  have hsome : ∀ t, t < N * 7 → ∃ u, w.cell? ⟨g, t, Option.none⟩ = some u := fun t ht => ⟨_, by have h2 := hL t _ (List.getElem?_eq_getElem (by omega : t < xs.length)); rw [Nat.zero_add] at h2; exact h2⟩
  have s1 : Hid (news.length = (N - j) * 7) := hlen
  have s2 : Hid (∀ u ∈ news, u.oneCell' = true) := fun u hu => h1 u (by rw [hnews] at hu; exact List.mem_of_mem_drop hu)
  have s3 : Hid (∀ t, t < news.length → (w.drew.cell? ⟨g, 0 + i * 7 + t, Option.none⟩).isSome = true ∧ w.drew.frozen? ⟨g, 0 + i * 7 + t, Option.none⟩ = false) := fun t ht => by
    rw [hlen] at ht
    obtain ⟨u, hu⟩ := hsome (0 + i * 7 + t) (by omega)
    exact ⟨by show (w.cell? _).isSome = true; rw [hu]; rfl, hF _⟩
  obtain ⟨W1, hW1⟩ : ∃ W1, W1 = w.drew.setCells g (0 + i * 7) news := ⟨_, rfl⟩
  have hsome1 : ∀ t, t < N * 7 → (W1.cell? ⟨g, t, Option.none⟩).isSome = true := fun t ht => by
    rw [hW1]
    obtain ⟨u, hu⟩ := hsome t ht
    exact Lib.isSome_setCells g _ _ _ _ (by show (w.cell? _).isSome = true; rw [hu]; rfl)
  have hcl : ∀ ty, (Builtin.clear_ #[27] ty #[.slice (some ⟨g, (i + (N - j)) * 7, Option.none⟩) (N - (i + (N - j))) (c - (i + (N - j)))]).run Tryz.prog W1 = .ok (.tuple #[]) (W1.setCells g ((i + (N - j)) * 7) [.complex .f32 0 0, .complex .f32 0 0, .complex .f32 0 0, .float .f32 0, .float .f32 0, .float .f32 0, .float .f32 0]) := fun ty => by
    have hst := run_storeCells_cells (P := Tryz.prog) g ((i + (N - j)) * 7) [.complex .f32 0 0, .complex .f32 0 0, .complex .f32 0 0, .float .f32 0, .float .f32 0, .float .f32 0, .float .f32 0] 0 W1 (fun t ht => by rw [Nat.add_zero]; exact hsome1 _ (by have : t < 7 := ht; omega)) (fun t ht => by rw [hW1, World.frozen?_setCells]; exact hF _) (fun v hv => by simp at hv; rcases hv with rfl | rfl <;> rfl)
    rw [Nat.add_zero] at hst
    rw [show N - (i + (N - j)) = 0 + 1 by omega]
    simp [Builtin.clear_, run_underlying Tryz.underlying27, v23, delShd_z, hst]
  have HW : Hid (W1 = w.drew.setCells g (0 + i * 7) news) := hW1
  have HOUT : Hid (DelOut w (.returned (.slice (some ⟨g, 0, Option.none⟩) (i + (N - j)) c)) (W1.setCells g ((i + (N - j)) * 7) [.complex .f32 0 0, .complex .f32 0 0, .complex .f32 0 0, .float .f32 0, .float .f32 0, .float .f32 0, .float .f32 0]) N c 7 i j g xs) := by
    refine ⟨by rw [show i + (N - j) = N - 1 by omega], ?_, ?_⟩
    · intro t u hu
      rw [Nat.zero_add]
      rw [World.cell?_setCells_out g _ _ _ _ (fun _ _ => .inl ?_)]
      · rw [hW1]
        rcases Nat.lt_or_ge t (i * 7) with h | h
        · rw [World.cell?_setCells_out g _ _ _ _ (fun _ _ => .inl (by dsimp only; omega))]
          rw [List.getElem?_append_left (by rw [List.length_take]; omega), List.getElem?_take_of_lt h] at hu
          have h2 := hL _ _ hu
          rw [Nat.zero_add] at h2
          exact h2
        · have ht : t < (N - 1) * 7 := by
            have := (List.getElem?_eq_some_iff.1 hu).1
            simp only [List.length_append, List.length_take, List.length_drop, hx] at this
            omega
          rw [List.getElem?_append_right (by rw [List.length_take]; omega), List.length_take, Nat.min_eq_left (by omega), ← hnews] at hu
          obtain ⟨q, rfl⟩ : ∃ q, t = 0 + i * 7 + q := ⟨t - i * 7, by omega⟩
          rw [show 0 + i * 7 + q - i * 7 = q by omega] at hu
          have hq : q < news.length := (List.getElem?_eq_some_iff.1 hu).1
          have h3 := World.cell?_setCells_in g news (0 + i * 7) w.drew (fun t ht => (s3.out t ht).1) q hq
          rw [h3]
          rw [List.getElem?_eq_getElem hq] at hu
          exact hu
      · have := (List.getElem?_eq_some_iff.1 hu).1
        simp only [List.length_append, List.length_take, List.length_drop, hx] at this
        dsimp only
        omega
    · rw [hW1]
      exact grownBy_trans (grownBy_trans (⟨rfl, rfl, rfl, Nat.le_refl _, fun _ _ _ => rfl⟩ : w.grownBy w.drew (some g)) (grown_setCells _ _ _ _)) (grown_setCells _ _ _ _)
  clear hW1 hL hF hnews hlen hsome hsome1 hz0 hz2 v23 h1 hx
  have HJ := Lib.hid hj
  have hiN : i + (N - j) < N := by omega
  have hic : i ≤ c := by omega
  have hjc : j ≤ c := by omega
  have hij : i < j := by omega
  have hij2 : i ≤ j := by omega
  have hne : ((i : Int) == (j : Int)) = false := by simp; omega
  clear hj
  go_enter Tryz.func187, Tryz.ntmps187
  go_wp2_with fail
  go_region_law (refine step_append_room rfl (.tmp 22) (.tmp 25) 27 rfl 36 i0 7 Tryz.underlying27 hi0 hz1 g 0 i c (by simp [Act.eval, Act.put]) A (N - j) (c - j) news (by simp [Act.eval, Act.put]) s1.out hsrc.out s2.out (by omega) s3.out ?_; rw [← HW.out])
  go_wp2
  go_ret
  exact HOUT.out⟩
end Go.Proofs.YtfdgijmmgllmgaaGreat
