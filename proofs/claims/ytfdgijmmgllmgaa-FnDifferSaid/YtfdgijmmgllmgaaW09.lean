/-
  Texts Md, joined.
-/
import Derived.Test.YtfdgijmmgllmgaaW08
import Derived.Deep.RegionHeld3
import Derived.Deep.RegionLaw
import Derived.Deep.AppendLies
namespace Go.Proofs.Ytfdgijmmgllmgaa
open Go.ChangeShapes Go.WideShapes Go.ChangeAt Go.RowKit Go.Joins
set_option linter.unusedSimpArgs false
set_option linter.unusedVariables false
set_option maxRecDepth 100000
attribute [local go_sem] store_f
open Ieee
structure SprS (kind : Int) (n : Nat) (a : Option Addr) (cap : Nat) (l m : List Lit) : Prop where
  call : ∀ w : World, LitsAt w a l → Calls Try.prog 61 #[.int .i64 kind, .agg #[.int .i64 n, .slice a l.length cap]] w fun e w' => (∃ g cp, PicMade2 w.heap.size e w' n m g cp) ∧ Below w.heap.size w w'
set_option maxHeartbeats 16000000 in
theorem sprS {kind : Int} {n : Nat} {a : Option Addr} {cap : Nat} {l : List Lit} (hk : kindB kind = true) (hp : picB n l = true) (hw : ∀ c ∈ l, c.W) : SprS kind n a cap l (spreadCols kind n l) := ⟨fun w hrow => by
  have IP := picS n a cap hw
  rw [hp] at IP
  have L1 : LieM kind 0 3 true := lieM_yes (by unfold kindB at hk; simp at hk; omega) (by unfold kindB at hk; simp at hk; omega)
  obtain ⟨m, hm, h1, h8, hl, _⟩ := pic_cases hp
  obtain rfl : n = m := by omega
  have hN64 : l.length ≤ 64 := by rw [hl]; exact Nat.le_trans (Nat.mul_le_mul h8 h8) (by omega)
  have h0 : 0 < l.length := by rw [hl]; exact Nat.mul_pos h1 h1
  obtain ⟨col, hcol⟩ : ∃ col : Nat → Lit, col = fun k => l.getD (leastN kind n k) default := ⟨_, rfl⟩
  have HF : Hid (∀ j, j < l.length → ∃ c, c < l.length ∧ FirstS kind n j c ∧ l.getD c default = col j) := fun j hj =>
    ⟨leastN kind n j, Nat.lt_of_le_of_lt (leastL_le _ _ _) hj, firstS kind h1 h8 (by omega), by rw [hcol]⟩
  have HM : Hid (spreadCols kind n l = colsTo col l.length) := by rw [hl, hcol]; rfl
  rw [HM.out]
  clear HM hcol hl hp hw hm
  obtain ⟨i0, hi, hz0, hz1, hz2⟩ := info_parts infoC
  obtain ⟨N, hN⟩ : ∃ N : Nat, N = l.length := ⟨_, rfl⟩
  rcases hrow with hnil | ⟨b, off, rfl, hR⟩
  · exfalso; rw [hnil] at h0; simp at h0
  have hblt : b < w.heap.size := cell_lt (hR 0 h0).1
  have HR : Hid (LitRow w b off l) := hR
  have HRR : Hid (∀ X, LitRow X b off l → LitsAt X (some ⟨b, off, Option.none⟩) l) := fun X h => Or.inr ⟨b, off, rfl, h⟩
  clear hR h1 h8 hk
  go_enter Try.func61, Try.ntmps61
  go_wp2_with fail
  generalize hW : (w.alloc (.cells #[.int .i64 n, .slice (some ⟨b, off, Option.none⟩) l.length cap] 26)).alloc (.cells #[.int .i64 0, .slice Option.none 0 0] 26) = X
  have P0 : Hid (Blk X w.heap.size #[.int .i64 n, .slice (some ⟨b, off, Option.none⟩) l.length cap] 26) := by rw [← hW]; exact (Blk.new _ _ _).alloc
  have R0 : Hid (Blk X (w.heap.size + 1) #[.int .i64 0, .slice Option.none 0 0] 26) := by rw [← hW]; exact Blk.newAt (by simp)
  have hB : Below w.heap.size w X := by rw [← hW]; (repeat' (first | (with_reducible exact Below.refl _ _) | (with_reducible assumption) | (with_reducible refine Below.alloc ?_ ?_ _) | (with_reducible refine Below.drew ?_) | (with_reducible refine Below.setCell ?_ ?_ _) | (with_reducible refine Below.trans ?_ (Below.mono (by assumption) ?_)) | (with_reducible exact Nat.le_refl _) | omega | (simp only [World.size_alloc, World.size_setCell, World.size_drew]; omega) | (simp; omega) | (simp; done)))
  have HB : Hid (Below w.heap.size w X) := hB
  have hs := hB.size
  clear hW hB
  refine (L1.call _).mono ?_
  rintro e w1 ⟨rfl, hb⟩
  have P1 := P0.out.below hb
  have R1 : Hid (Blk w1 (w.heap.size + 1) #[.int .i64 0, .slice Option.none 0 0] 26) := R0.out.below hb
  have HB1 : Hid (Below w.heap.size w w1) := HB.out.trans (hb.mono hs)
  have hs1 := HB1.out.size
  have p0 := Blk.cellAt (i := 0) P1 rfl
  have p1 := Blk.cellAt (i := 1) P1 rfl
  simp only [List.getElem_toArray, List.getElem_cons_zero, List.getElem_cons_succ] at p0 p1
  have P1H : Hid (Blk w1 w.heap.size #[.int .i64 n, .slice (some ⟨b, off, Option.none⟩) l.length cap] 26) := P1
  clear hb P0 R0 HB hs P1 L1
  go_wp2_with fail
  refine (IP.call _ (HRR.out _ (HR.out.below HB1.out))).mono ?_
  rintro e w2 ⟨rfl, hb⟩
  have P2 := P1H.out.below hb
  have R2 : Hid (Blk w2 (w.heap.size + 1) #[.int .i64 0, .slice Option.none 0 0] 26) := R1.out.below hb
  have HB2 : Hid (Below w.heap.size w w2) := HB1.out.trans (hb.mono hs1)
  have hs2 : w.heap.size + 2 ≤ w2.heap.size := by have := R2.out.lt; omega
  have lt2 : w.heap.size < w2.heap.size := by omega
  have p0 := Blk.cellAt (i := 0) P2 rfl
  have p1 := Blk.cellAt (i := 1) P2 rfl
  simp only [List.getElem_toArray, List.getElem_cons_zero, List.getElem_cons_succ] at p0 p1
  have P2H : Hid (Blk w2 w.heap.size #[.int .i64 n, .slice (some ⟨b, off, Option.none⟩) l.length cap] 26) := P2
  clear hb P1H R1 HB1 hs1 P2 IP
  go_wp2_with fail
  obtain ⟨q, hq⟩ : ∃ q : Nat, q = w2.heap.size := ⟨_, rfl⟩
  rw [← hq] at hs2 lt2 ⊢
  generalize hW : w2.alloc (.cells #[.int .i64 n, .slice Option.none 0 0] 26) = X
  have P3 : Blk X w.heap.size #[.int .i64 n, .slice (some ⟨b, off, Option.none⟩) l.length cap] 26 := by rw [← hW]; exact P2H.out.alloc
  have R3 : Blk X (w.heap.size + 1) #[.int .i64 0, .slice Option.none 0 0] 26 := by rw [← hW]; exact R2.out.alloc
  have O3 : Blk X q #[.int .i64 n, .slice Option.none 0 0] 26 := by rw [← hW]; exact Blk.newAt hq
  have B3 : Below w.heap.size w X := by rw [← hW]; exact HB2.out.alloc (by omega) _
  have hs3 : X.heap.size = q + 1 := by rw [← hW, hq]; simp
  clear hW hq P2H R2 HB2 p0 p1
  rw [← hN]
  have HN : Hid (N = l.length) := hN
  rw [← hN] at h0 hN64
  go_loopw [23] (fun i wr => ∃ j : Nat, j ≤ N ∧ i = .int .i64 j ∧ (∃ v, Blk wr q #[.int .i64 n, v] 26 ∧ wr.ownsRow (q + 1) 47 3 v j (litCells (colsTo col j)) ∧ (0 < j → v ≠ .slice Option.none 0 0)) ∧ Blk wr w.heap.size #[.int .i64 n, .slice (some ⟨b, off, Option.none⟩) l.length cap] 26 ∧ Blk wr (w.heap.size + 1) #[.int .i64 0, .slice Option.none 0 0] 26 ∧ Below w.heap.size w wr) (fun i _ => N - (intOf i).toNat)
  case atStart => exact ⟨0, by omega, rfl, ⟨_, O3, World.ownsRow_nil _ _ _ _, fun h => absurd h (by omega)⟩, P3, R3, B3⟩
  case round =>
    obtain ⟨j, hj, rfl, ⟨v, hO, hown, hnn⟩, hP, hRt, hbel⟩ := hrel
    have hbs := hbel.size
    have HB : Hid (Below w.heap.size w wr) := hbel
    have HO : Hid (wr.ownsRow (q + 1) 47 3 v j (litCells (colsTo col j))) := hown
    have HOB : Hid (Blk wr q #[.int .i64 n, v] 26) := hO
    have HP : Hid (Blk wr w.heap.size #[.int .i64 n, .slice (some ⟨b, off, Option.none⟩) l.length cap] 26) := hP
    have HRT : Hid (Blk wr (w.heap.size + 1) #[.int .i64 0, .slice Option.none 0 0] 26) := hRt
    have HNN : Hid (0 < j → v ≠ .slice Option.none 0 0) := hnn
    have lq := hO.lt
    clear O3 P3 R3 B3 hs3 hown hnn hRt hN
    by_cases hlt : j < N
    · obtain ⟨c, hc, F, hcol⟩ := HF.out j (by have := HN.out; omega)
      have HY : Hid (colsTo col (j + 1) = colsTo col j ++ [col j]) := colsTo_snoc col j
      obtain ⟨e0, e1, e2⟩ := HR.out.below hbel c hc
      rw [hcol] at e0 e1 e2
      generalize col j = s at HY e0 e1 e2
      have p0 := Blk.cellAt (i := 0) hP rfl
      have p1 := Blk.cellAt (i := 1) hP rfl
      have d1 := Blk.cellAt (i := 1) hO rfl
      simp only [List.getElem_toArray, List.getElem_cons_zero, List.getElem_cons_succ] at p0 p1 d1
      have hc0 : (0 : Int) ≤ (c : Int) := by omega
      have hc1 : (c : Int) < (l.length : Int) := by omega
      have lw : w.heap.size < wr.heap.size := by omega
      have lb : b < wr.heap.size := by omega
      clear hP hO hcol hbel
      go_wp2_with fail
      go_region_law (first | (go_simp; (with_reducible refine (F.call _).mono ?_); rintro e w2 ⟨rfl, hb⟩; have d2 := cBelow hb (cDrew d1); have p12 := cBelow hb (cDrew p1); have e02 := cBelow hb (cDrew e0); have e12 := cBelow hb (cDrew e1); have e22 := cBelow hb (cDrew e2); have d4 := cAlloc (o := .cells #[.float .f32 s.r, .float .f32 s.g, .float .f32 s.b] 47) d2; have hO2 := Blk.below (Blk.drew HOB.out) hb; have hown2 := ownsBelow hb (World.ownsRow.drew HO.out); have hbs2 := hb.size; try simp only [World.size_drew] at hbs2) | (refine step_append_lies _ (by rfl) _ _ _ (by rfl) (q + 1) 47 i0 _ 3 12 Try.underlying24 hi hz0 hz1 hz2 rfl (by omega) v j (litCells (colsTo col j)) (by rfl) (hown2.alloc _) ⟨w2.heap.size, 0, Option.none⟩ 1 1 s.cells (by rfl) (by rfl) (World.news_of_block (cs := #[.float .f32 s.r, .float .f32 s.g, .float .f32 s.b]) (t := 47) (fr := (0, 0)) (heap_alloc_new w2 _)) (by simp [Lit.cells, Value.oneCell']) (by omega) (by unfold maxLen; omega) (by omega) (by simp; omega) (w2.heap.size + 1) (by simp) ?_; intro gg cap3 w3 hown3 hgrow hat hlt3; have hO3 : Blk w3 q #[.int .i64 n, v] 26 := (hgrow.block q (by simp; omega) (fun e => absurd (hown2.lt _ e.symm).1 (by omega))).trans (Blk.alloc hO2); have d3 := Blk.cellAt (i := 1) hO3 rfl; (simp only [List.getElem_toArray, List.getElem_cons_zero, List.getElem_cons_succ] at d3); have f3 := hO3.free 1; have hs3 := hgrow.size; (simp only [World.size_alloc] at hs3)))
      all_goals
        have HO4 : Hid (Blk (w3.setCell ⟨q, 1, Option.none⟩ (.slice (some ⟨gg, 0, Option.none⟩) (j + 1) cap3)) q #[.int .i64 n, .slice (some ⟨gg, 0, Option.none⟩) (j + 1) cap3] 26) := Blk.setAt (b := q) rfl hO3 rfl
        have HP4 : Hid (Blk (w3.setCell ⟨q, 1, Option.none⟩ (.slice (some ⟨gg, 0, Option.none⟩) (j + 1) cap3)) w.heap.size #[.int .i64 n, .slice (some ⟨b, off, Option.none⟩) l.length cap] 26) := Blk.other ((hgrow.block w.heap.size (by simp; omega) (fun e => absurd (hown2.lt _ e.symm).1 (by omega))).trans (Blk.alloc (Blk.below (Blk.drew HP.out) hb))) (by dsimp only; omega)
        have HR4 : Hid (Blk (w3.setCell ⟨q, 1, Option.none⟩ (.slice (some ⟨gg, 0, Option.none⟩) (j + 1) cap3)) (w.heap.size + 1) #[.int .i64 0, .slice Option.none 0 0] 26) := Blk.other ((hgrow.block (w.heap.size + 1) (by simp; omega) (fun e => absurd (hown2.lt _ e.symm).1 (by omega))).trans (Blk.alloc (Blk.below (Blk.drew HRT.out) hb))) (by dsimp only; omega)
        have HW4 : Hid ((w3.setCell ⟨q, 1, Option.none⟩ (.slice (some ⟨gg, 0, Option.none⟩) (j + 1) cap3)).ownsRow (q + 1) 47 3 (.slice (some ⟨gg, 0, Option.none⟩) (j + 1) cap3) (j + 1) (litCells (colsTo col j) ++ s.cells)) := ownsSet hown3 (by dsimp only; omega)
        have HB4 : Hid (Below w.heap.size w (w3.setCell ⟨q, 1, Option.none⟩ (.slice (some ⟨gg, 0, Option.none⟩) (j + 1) cap3))) := (Below.grown (((HB.out.drew).trans (hb.mono (by simp; omega))).alloc (by omega) _) hgrow (by simp; omega) (fun q' hq' => by have := (hown2.lt q' hq').1; omega)).setCell (by dsimp only; omega) _
        clear hO3 hO2 p0 p1 d1 d2 d3 d4 p12 e0 e1 e2 e02 e12 e22 f3 hown3 hown2 hgrow hb hat hs3 hbs2
        go_wp2
        go_roundw
        case rel => exact ⟨j + 1, by omega, by go_num, ⟨_, HO4.out, by rw [HY.out, litCells_snoc]; exact HW4.out, fun _ => by simp⟩, HP4.out, HR4.out, HB4.out⟩
        case measure => simp [intOf]; omega
    · have hjm : j = N := by omega
      subst hjm
      rcases ownsRow_forms HO.out with ⟨e, _⟩ | ⟨g, cp, rfl⟩
      · exact absurd e (HNN.out h0)
      have p0 := Blk.cellAt (i := 0) HOB.out rfl
      have p1 := Blk.cellAt (i := 1) HOB.out rfl
      have r0 := Blk.cellAt (i := 0) HRT.out rfl
      have r1 := Blk.cellAt (i := 1) HRT.out rfl
      have f0 := HRT.out.free 0
      have f1 := HRT.out.free 1
      have lr := HRT.out.lt
      simp only [List.getElem_toArray, List.getElem_cons_zero, List.getElem_cons_succ] at p0 p1 r0 r1
      have RS := (HRT.out.set (i := 0) (v := .int .i64 n)).set (i := 1) (v := .slice (some ⟨g, 0, Option.none⟩) j cp)
      have e0 := RS.cell 0
      have e1 := RS.cell 1
      simp only [List.setIfInBounds_toArray, List.set_cons_zero, List.set_cons_succ, List.getElem?_toArray, List.getElem?_cons_zero, List.getElem?_cons_succ] at e0 e1
      have HE0 : Hid (((wr.setCell ⟨w.heap.size + 1, 0, Option.none⟩ (.int .i64 n)).setCell ⟨w.heap.size + 1, 1, Option.none⟩ (.slice (some ⟨g, 0, Option.none⟩) j cp)).cell? ⟨w.heap.size + 1, 0, Option.none⟩ = some (.int .i64 n)) := e0
      have HE1 : Hid (((wr.setCell ⟨w.heap.size + 1, 0, Option.none⟩ (.int .i64 n)).setCell ⟨w.heap.size + 1, 1, Option.none⟩ (.slice (some ⟨g, 0, Option.none⟩) j cp)).cell? ⟨w.heap.size + 1, 1, Option.none⟩ = some (.slice (some ⟨g, 0, Option.none⟩) j cp)) := e1
      have HOE : Hid (((wr.setCell ⟨w.heap.size + 1, 0, Option.none⟩ (.int .i64 n)).setCell ⟨w.heap.size + 1, 1, Option.none⟩ (.slice (some ⟨g, 0, Option.none⟩) j cp)).ownsRow w.heap.size 47 3 (.slice (some ⟨g, 0, Option.none⟩) j cp) j (litCells (colsTo col j))) := ownsLess (ownsSet (ownsSet HO.out (by dsimp only; omega)) (by dsimp only; omega)) (by omega)
      have HBE : Hid (Below w.heap.size w ((wr.setCell ⟨w.heap.size + 1, 0, Option.none⟩ (.int .i64 n)).setCell ⟨w.heap.size + 1, 1, Option.none⟩ (.slice (some ⟨g, 0, Option.none⟩) j cp))) := (HB.out.setCell (by dsimp only; omega) _).setCell (by dsimp only; omega) _
      clear hP hO hbel RS e0 e1
      go_wp2
      have e0 := HE0.out
      have e1 := HE1.out
      have hjl : l.length = j := HN.out.symm
      rw [hjl]
      exact bodyPost_ret (v := .tuple #[.agg #[.int .i64 n, .slice (some ⟨g, 0, Option.none⟩) j cp], .bool true]) (by simp [results, Try.results61, go_sem, e0, e1]) rfl ⟨⟨g, cp, by rw [colsTo_len], by rw [colsTo_len]; exact HOE.out⟩, HBE.out⟩⟩
end Go.Proofs.Ytfdgijmmgllmgaa
