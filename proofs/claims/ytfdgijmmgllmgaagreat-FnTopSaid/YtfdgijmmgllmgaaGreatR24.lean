/-
  Texts Uo, joined.
-/
import Derived.Test.YtfdgijmmgllmgaaGreatR23
import Derived.Deep.AppendLies
import Derived.Deep.RegionLaw
import Derived.Deep.RegionHeld3
import Derived.Deep.DeepCutAuto
namespace Go.Proofs.YtfdgijmmgllmgaaGreat
open Go.ChangeShapes Go.WideShapes Go.ChangeAt Go.RowKit Go.Joins
set_option linter.unusedSimpArgs false
set_option linter.unusedVariables false
set_option maxRecDepth 100000
attribute [local go_sem] store_f
open Ieee Go.Lib
attribute [local go_sem] store_c
theorem own_at {W : World} {C U su j : Nat} {v : Value} {ys : List Value} {g : Nat} (hv : W.ownsRow C U su v j ys) (e : v.ownBlock = some g) : C ≤ g ∧ ∃ cs, Blk W g cs U := by
  rcases hv.2 with ⟨rfl, _⟩ | ⟨g', cap, cur, rfl, h1, h2, _⟩
  · simp [Value.ownBlock] at e
  · obtain rfl : g' = g := by simpa [Value.ownBlock] using e
    exact ⟨h1, cur, h2⟩
theorem blk_keep {W w1 : World} {C U su j P T : Nat} {v : Value} {ys : List Value} {cs : Array Value} (hg : W.grownBy w1 v.ownBlock) (hv : W.ownsRow C U su v j ys) (hb : Blk W P cs T) (hTU : T ≠ U) : Blk w1 P cs T :=
  (hg.block P hb.lt (fun e => by
    obtain ⟨_, cs', h⟩ := own_at hv e.symm
    have := hb.symm.trans h
    simp at this
    exact hTU this.2)).trans hb
theorem owns_keep {W w1 : World} {B C T U su sz n m j c : Nat} {v : Value} {a : Option Addr} {xs ys : List Value} (hg : W.grownBy w1 v.ownBlock) (hv : W.ownsRow C U su v j ys) (h : W.ownsRow B T sz (.slice a m c) n xs) (hTU : T ≠ U) : w1.ownsRow B T sz (.slice a m c) n xs :=
  owns_other hg h fun g e e' => by
    obtain ⟨_, cs, hb⟩ := own_at hv e'
    exact owns_blk h hb hTU g e rfl
theorem below_keep {W w1 : World} {B U su j : Nat} {v : Value} {ys : List Value} (hg : W.grownBy w1 v.ownBlock) (hv : W.ownsRow B U su v j ys) (hB : B ≤ W.heap.size) : Below B W w1 :=
  Below.grown (Below.refl _ _) hg hB (fun g e => (own_at hv e).1)
set_option maxHeartbeats 32000000 in
theorem chg_add {s : Sho} {N M K : Nat} {sh : Shd} {z1 z2 p1 p2 : Nat} {t : Int} {f : Bool} (hN : N ≤ 12) (hM : M ≤ 8) (hs : s.shs.length = N) (F : FoldM s.kind z1 z2 p1 p2 t f) : ChgM 182 (.agg #[.complex .f32 sh.a1 sh.a2, .complex .f32 sh.b1 sh.b2, .complex .f32 sh.c1 sh.c2, .float .f32 sh.r, .float .f32 sh.g, .float .f32 sh.b, .float .f32 sh.k, .complex .f32 z1 z2]) s { s with shs := s.shs ++ [sh], bds := s.bds ++ [⟨p1, p2, 0, 0⟩] } N M K (N + 1) (M + 1) true := ⟨fun w B P a b l ca cb cl hP hO hB => by
  obtain ⟨i0, hi, hz0, hz1, hz2⟩ := info_parts infoShd
  obtain ⟨j0, hj, hy0, hy1, hy2⟩ := info_parts infoB
  have P0 := Lib.hid hP
  have O0 := Lib.hid hO
  have hlt := hP.lt
  clear hP hO hs
  go_enter Tryz.func182, Tryz.ntmps182
  go_wp2_with fail
  generalize hX : w.alloc (.cells #[.complex .f32 sh.a1 sh.a2, .complex .f32 sh.b1 sh.b2, .complex .f32 sh.c1 sh.c2, .float .f32 sh.r, .float .f32 sh.g, .float .f32 sh.b, .float .f32 sh.k, .complex .f32 z1 z2] 152) = X
  have PX : Hid (Blk X P #[.int .i64 s.size, .float .f32 s.step, .float .f32 s.lit.r, .float .f32 s.lit.g, .float .f32 s.lit.b, .slice a N ca, .int .i64 s.kind, .complex .f32 s.g1 s.g2, .float .f32 0, .slice b M cb, .int .i64 s.ticks, .slice l K cl] 34) := by rw [← hX]; exact P0.out.alloc
  have EX : Hid (Blk X w.heap.size #[.complex .f32 sh.a1 sh.a2, .complex .f32 sh.b1 sh.b2, .complex .f32 sh.c1 sh.c2, .float .f32 sh.r, .float .f32 sh.g, .float .f32 sh.b, .float .f32 sh.k, .complex .f32 z1 z2] 152) := by rw [← hX]; exact Blk.new _ _ _
  have OX : Hid (ShoOwn X B s N M K a b l ca cb cl) := by rw [← hX]; exact O0.out.alloc
  have GX : Hid (Below B w X) := by rw [← hX]; exact (Below.refl _ _).alloc (by omega) _
  have sX : w.heap.size < X.heap.size := by rw [← hX]; simp
  clear hX P0 O0
  have p6 := Blk.cellAt (i := 6) PX.out rfl
  have q7 := Blk.cellAt (i := 7) EX.out rfl
  simp only [List.getElem_toArray, List.getElem_cons_zero, List.getElem_cons_succ] at p6 q7
  have lP : P < X.heap.size := PX.out.lt
  have hX0 : Below X.heap.size X X := Below.refl _ _
  have hX1 : X.heap.size ≤ X.heap.size := Nat.le_refl _
  go_cut [5] (fun v5 wx => v5 = .complex .f32 p1 p2 ∧ Below X.heap.size X wx)
  case first =>
    go_region_held3 (fun wx => Below X.heap.size X wx ∧ X.heap.size ≤ wx.heap.size ∧ P < wx.heap.size ∧ w.heap.size < wx.heap.size ∧ wx.cell? ⟨P, 6, Option.none⟩ = some (.int .i64 s.kind) ∧ wx.cell? ⟨w.heap.size, 7, Option.none⟩ = some (.complex .f32 z1 z2))
      (((repeat' apply And.intro) <;> first | (with_reducible assumption) | (((repeat (first | (with_reducible assumption) | (with_reducible exact cNewAt (by first | rfl | (simp only [World.size_alloc, World.size_setCell, World.size_drew]; done) | omega) rfl) | (with_reducible exact sNewAt (by first | rfl | (simp only [World.size_alloc, World.size_setCell, World.size_drew]; done) | omega) rfl) | (simp; done) | (with_reducible apply cAlloc) | (with_reducible apply cDrew) | (with_reducible refine cSet (by dsimp only; omega) ?_) | (with_reducible refine cSetOff (by dsimp only; omega) ?_) | (with_reducible apply cSame) | (with_reducible refine cBelow (by assumption) ?_) | (with_reducible apply sAlloc) | (with_reducible apply sDrew) | (with_reducible refine sBelow (by assumption) ?_) | (with_reducible refine sSet (by dsimp only; omega) ?_))); first | done | (simp [*]; done)); done) | (simp only [World.size_alloc, World.size_setCell, World.size_drew]; omega) | omega | (go_keep; done) | ((repeat' (first | (with_reducible exact Below.refl _ _) | (with_reducible assumption) | (with_reducible refine Below.alloc ?_ ?_ _) | (with_reducible refine Below.drew ?_) | (with_reducible refine Below.setCell ?_ ?_ _) | (with_reducible refine Below.trans ?_ (Below.mono (by assumption) ?_)) | (with_reducible exact Nat.le_refl _) | omega | (simp only [World.size_alloc, World.size_setCell, World.size_drew]; omega) | (simp; omega) | (simp; done))); done)))
      (first | (go_at_call 22; (with_reducible refine (F.call _).mono ?_); rintro e w3 ⟨rfl, hb⟩; have hbs := hb.size; (try simp only [World.size_alloc, World.size_setCell, World.size_drew] at hbs); (try ((first | have hN := Blk.belowAt hb hN | have hN := Blk.belowAt hb (Blk.drew (Blk.new _ _ _)) | have hN := Blk.belowAt hb (Blk.new _ _ _)); (try simp only [World.size_drew] at hN); have y0 := Blk.cellAt (i := 0) hN rfl; have y1 := Blk.cellAt (i := 1) hN rfl; simp only [List.getElem_toArray, List.getElem_cons_zero, List.getElem_cons_succ] at y0 y1; have z0 := hN.free 0; have z1 := hN.free 1; have zl := hN.lt))))
    all_goals
      rename_i hHeld
      have hbX := hHeld.1
      clear hHeld
      go_wp2_with fail
      go_meet
      exact ⟨rfl, hbX⟩
  case rest =>
    obtain ⟨rfl, hbel⟩ := hcut
    have P2 := Lib.hid (PX.out.below hbel)
    have E2 := Lib.hid (EX.out.below hbel)
    have O2 := Lib.hid (OX.out.below hbel)
    have G2 : Hid (Below B w wc) := GX.out.trans (hbel.mono (by omega))
    have szc := hbel.size
    have hOs := O2.out.sh
    clear hbel PX EX OX GX p6 q7 hX0 hX1
    (obtain ⟨p0, p1, p2, p3, p4, p5, p6, p7, p8, p9, p10, p11⟩ := blk12 (P2.out))
    have q0 := Blk.cellAt (i := 0) E2.out rfl
    have q1 := Blk.cellAt (i := 1) E2.out rfl
    have q2 := Blk.cellAt (i := 2) E2.out rfl
    have q3 := Blk.cellAt (i := 3) E2.out rfl
    have q4 := Blk.cellAt (i := 4) E2.out rfl
    have q5 := Blk.cellAt (i := 5) E2.out rfl
    have q6 := Blk.cellAt (i := 6) E2.out rfl
    simp only [List.getElem_toArray, List.getElem_cons_zero, List.getElem_cons_succ] at q0 q1 q2 q3 q4 q5 q6
    have lPc : P < wc.heap.size := by omega
    have hwB : B ≤ wc.heap.size := by omega
    clear p0 p1 p2 p3 p4 p6 p7 p8 p9 p10 p11
    go_wp2_with fail
    go_region_law (refine step_append_lies _ (by rfl) _ _ _ (by rfl) B 36 i0 _ 7 40 Tryz.underlying27 hi hz0 hz1 hz2 rfl (by omega) (.slice a N ca) N (shCells s.shs) (by rfl) (World.ownsRow.alloc (World.ownsRow.drew hOs) _) ⟨wc.heap.size, 0, Option.none⟩ 1 1 sh.cells (by rfl) (by rfl) (World.news_of_block (cs := #[.complex .f32 sh.a1 sh.a2, .complex .f32 sh.b1 sh.b2, .complex .f32 sh.c1 sh.c2, .float .f32 sh.r, .float .f32 sh.g, .float .f32 sh.b, .float .f32 sh.k]) (t := 36) (fr := (0, 0)) (heap_alloc_new wc.drew _)) (by simp [Shd.cells, Value.oneCell']) (by omega) (by unfold maxLen; omega) (by omega) (by simp; omega) (wc.heap.size + 1) (by simp) ?_; intro gg cap3 w5 hown3 hgrow hat hlt3; have hP5 := blk_keep hgrow (World.ownsRow.alloc (World.ownsRow.drew hOs) _) (P2.out.drew.alloc) (by decide); have d5 := Blk.cellAt (i := 5) hP5 rfl; (simp only [List.getElem_toArray, List.getElem_cons_zero, List.getElem_cons_succ] at d5); have f5 := hP5.free 5; have hs3 := hgrow.size; (simp only [World.size_alloc, World.size_drew] at hs3))
    all_goals
      have hOA : (wc.drew.alloc (.cells #[.complex .f32 sh.a1 sh.a2, .complex .f32 sh.b1 sh.b2, .complex .f32 sh.c1 sh.c2, .float .f32 sh.r, .float .f32 sh.g, .float .f32 sh.b, .float .f32 sh.k] 36)).ownsRow B 36 7 (.slice a N ca) N (shCells s.shs) := World.ownsRow.alloc (World.ownsRow.drew hOs) _
      have hBd5 : w5.ownsRow B 59 2 (.slice b M cb) M (bwCells s.bds) := owns_keep hgrow hOA (World.ownsRow.alloc (World.ownsRow.drew O2.out.bd) _) (by decide)
      have hLg5 : w5.ownsRow B 38 13 (.slice l K cl) K (evCells s.log) := owns_keep hgrow hOA (World.ownsRow.alloc (World.ownsRow.drew O2.out.lg) _) (by decide)
      have hB5 : Below B w w5 := ((G2.out.drew).alloc (by simp; omega) _).trans (below_keep hgrow hOA (by simp; omega))
      have hSh5 : w5.ownsRow B 36 7 (.slice (some ⟨gg, 0, Option.none⟩) (N + 1) cap3) (N + 1) (shCells (s.shs ++ [sh])) := by rw [shCells_snoc]; exact hown3
      have P6 : Hid (Blk (w5.setCell ⟨P, 5, Option.none⟩ (.slice (some ⟨gg, 0, Option.none⟩) (N + 1) cap3)) P #[.int .i64 s.size, .float .f32 s.step, .float .f32 s.lit.r, .float .f32 s.lit.g, .float .f32 s.lit.b, .slice (some ⟨gg, 0, Option.none⟩) (N + 1) cap3, .int .i64 s.kind, .complex .f32 s.g1 s.g2, .float .f32 0, .slice b M cb, .int .i64 s.ticks, .slice l K cl] 34) := Blk.setAt rfl hP5 rfl
      have SH6 : Hid ((w5.setCell ⟨P, 5, Option.none⟩ (.slice (some ⟨gg, 0, Option.none⟩) (N + 1) cap3)).ownsRow B 36 7 (.slice (some ⟨gg, 0, Option.none⟩) (N + 1) cap3) (N + 1) (shCells (s.shs ++ [sh]))) := owns_other (grownBy_set (grownBy_refl _ _)) hSh5 (owns_blk hSh5 hP5 (by decide))
      have BD6 : Hid ((w5.setCell ⟨P, 5, Option.none⟩ (.slice (some ⟨gg, 0, Option.none⟩) (N + 1) cap3)).ownsRow B 59 2 (.slice b M cb) M (bwCells s.bds)) := owns_other (grownBy_set (grownBy_refl _ _)) hBd5 (owns_blk hBd5 hP5 (by decide))
      have LG6 : Hid ((w5.setCell ⟨P, 5, Option.none⟩ (.slice (some ⟨gg, 0, Option.none⟩) (N + 1) cap3)).ownsRow B 38 13 (.slice l K cl) K (evCells s.log)) := owns_other (grownBy_set (grownBy_refl _ _)) hLg5 (owns_blk hLg5 hP5 (by decide))
      have G6 : Hid (Below B w (w5.setCell ⟨P, 5, Option.none⟩ (.slice (some ⟨gg, 0, Option.none⟩) (N + 1) cap3))) := hB5.setCell (by dsimp only; omega) _
      have s6 : w.heap.size < (w5.setCell ⟨P, 5, Option.none⟩ (.slice (some ⟨gg, 0, Option.none⟩) (N + 1) cap3)).heap.size := by simp; omega
      have hP6lt : P < (w5.setCell ⟨P, 5, Option.none⟩ (.slice (some ⟨gg, 0, Option.none⟩) (N + 1) cap3)).heap.size := by simp; omega
      clear hOA hBd5 hLg5 hB5 hSh5 hown3 hgrow hat hP5 d5 f5 hs3 p5 q0 q1 q2 q3 q4 q5 q6 P2 E2 O2 G2 hOs
      generalize w5.setCell ⟨P, 5, Option.none⟩ (.slice (some ⟨gg, 0, Option.none⟩) (N + 1) cap3) = Y at *
      have p9 := Blk.cellAt (i := 9) P6.out rfl
      simp only [List.getElem_toArray, List.getElem_cons_zero, List.getElem_cons_succ] at p9
      go_wp2_with (at_builtin; go_loud (refine wpList_append_lies _ rfl _ _ 29 rfl B 59 j0 (.agg #[.complex .f32 0 0, .complex .f32 0 0]) 2 16 Tryz.underlying29 hj hy0 hy1 hy2 rfl (by decide) (.slice b M cb) M (bwCells s.bds) rfl (World.ownsRow.alloc BD6.out _) ⟨Y.heap.size, 0, Option.none⟩ 1 1 [.complex .f32 p1 p2, .complex .f32 0 0] rfl rfl (World.news_of_block (cs := #[.complex .f32 p1 p2, .complex .f32 0 0]) (t := 59) (fr := (0, 0)) (heap_alloc_new Y _)) (by simp [Value.oneCell']) (by omega) (by unfold maxLen; omega) (by omega) (by simp; omega) (Y.heap.size + 1) (by simp) ?_))
      intro hh cap4 w7 hown7 hgrow7 hat7 hlt7
      have hOB : (Y.alloc (.cells #[.complex .f32 p1 p2, .complex .f32 0 0] 59)).ownsRow B 59 2 (.slice b M cb) M (bwCells s.bds) := World.ownsRow.alloc BD6.out _
      have hP7 := blk_keep hgrow7 hOB (P6.out.alloc) (by decide)
      have hs7 := hgrow7.size
      simp only [World.size_alloc] at hs7
      have hSh7 := owns_keep hgrow7 hOB (World.ownsRow.alloc SH6.out _) (by decide)
      have hLg7 := owns_keep hgrow7 hOB (World.ownsRow.alloc LG6.out _) (by decide)
      have hB7 : Below B w w7 := (G6.out.alloc (by omega) _).trans (below_keep hgrow7 hOB (by simp; omega))
      have hBd7 : w7.ownsRow B 59 2 (.slice (some ⟨hh, 0, Option.none⟩) (M + 1) cap4) (M + 1) (bwCells (s.bds ++ [⟨p1, p2, 0, 0⟩])) := by rw [bwCells_snoc]; exact hown7
      have d9 := Blk.cellAt (i := 9) hP7 rfl
      simp only [List.getElem_toArray, List.getElem_cons_zero, List.getElem_cons_succ] at d9
      have f9 := hP7.free 9
      have P8 : Hid (Blk (w7.setCell ⟨P, 9, Option.none⟩ (.slice (some ⟨hh, 0, Option.none⟩) (M + 1) cap4)) P #[.int .i64 s.size, .float .f32 s.step, .float .f32 s.lit.r, .float .f32 s.lit.g, .float .f32 s.lit.b, .slice (some ⟨gg, 0, Option.none⟩) (N + 1) cap3, .int .i64 s.kind, .complex .f32 s.g1 s.g2, .float .f32 0, .slice (some ⟨hh, 0, Option.none⟩) (M + 1) cap4, .int .i64 s.ticks, .slice l K cl] 34) := Blk.setAt rfl hP7 rfl
      have SH8 := Lib.hid (lies_of_owns (owns_other (grownBy_set (o := 9) (v := .slice (some ⟨hh, 0, Option.none⟩) (M + 1) cap4) (grownBy_refl _ _)) hSh7 (owns_blk hSh7 hP7 (by decide))))
      have BD8 := Lib.hid (lies_of_owns (owns_other (grownBy_set (o := 9) (v := .slice (some ⟨hh, 0, Option.none⟩) (M + 1) cap4) (grownBy_refl _ _)) hBd7 (owns_blk hBd7 hP7 (by decide))))
      have LG8 := Lib.hid (lies_of_owns (owns_other (grownBy_set (o := 9) (v := .slice (some ⟨hh, 0, Option.none⟩) (M + 1) cap4) (grownBy_refl _ _)) hLg7 (owns_blk hLg7 hP7 (by decide))))
      have G8 : Hid (Below B w (w7.setCell ⟨P, 9, Option.none⟩ (.slice (some ⟨hh, 0, Option.none⟩) (M + 1) cap4))) := hB7.setCell (by dsimp only; omega) _
      clear hOB hSh7 hLg7 hB7 hBd7 hown7 hgrow7 hat7 hP7 p9
      go_wp2
      go_ret
      exact ⟨_, _, l, cap3, cap4, cl, ⟨rfl, P8.out, ⟨SH8.out, BD8.out, LG8.out⟩, G8.out, by simp; omega⟩⟩⟩
end Go.Proofs.YtfdgijmmgllmgaaGreat
