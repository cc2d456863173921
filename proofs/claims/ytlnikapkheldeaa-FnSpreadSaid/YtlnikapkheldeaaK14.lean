/-
  Texts of this proof, joined: Hfs.
-/
import Derived.Test.YtlnikapkheldeaaK12
import Derived.Deep.RegionLaw
import Derived.Deep.AppendLies
/-
  pictureOf of the program, over one of its closures.
-/
namespace Go.Proofs.Ytlnikapkheldeaa
open Go.ChangeShapes Go.WideShapes Go.ChangeAt Go.RowKit Go.Joins
set_option linter.unusedSimpArgs false
set_option linter.unusedVariables false
set_option maxRecDepth 100000
attribute [local go_sem] store_f
open Ieee

set_option maxHeartbeats 8000000 in
theorem pictureOf_s {n N : Nat} {c1 c2 : Value} {col : Nat → Lit} (h1 : 1 ≤ n) (h8 : n ≤ 8) (hN : N = n * n) (w : World) (C : ∀ k, k < N → CloM 99 w #[.int .i64 k, c1, c2] (col k)) :
    Calls Try.prog 84 #[.int .i64 n, .func (.func 99) #[] #[c1, c2]] w fun e w' => (∃ g cap, PicMade w.heap.size e w' n (colsTo col N) g cap) ∧ Below w.heap.size w w' := by
  have hN64 : N ≤ 64 := by rw [hN]; exact Nat.le_trans (Nat.mul_le_mul h8 h8) (by omega)
  have hNN : (n : Int) * (n : Int) = (N : Int) := by rw [hN]; simp
  have h0 : 0 < N := by rw [hN]; exact Nat.mul_pos h1 h1
  have HC : Hid (∀ k, k < N → CloM 99 w #[.int .i64 k, c1, c2] (col k)) := C
  clear C hN
  obtain ⟨i0, hi, hz0, hz1, hz2⟩ := info_parts infoC
  go_enter Try.func84, Try.ntmps84
  go_wp2_with fail
  generalize hW : (w.alloc (.cells #[.int .i64 0, .slice Option.none 0 0] 37)).alloc (.cells #[.int .i64 n, .slice Option.none 0 0] 37) = X
  have R0 : Blk X w.heap.size #[.int .i64 0, .slice Option.none 0 0] 37 := by rw [← hW]; exact (Blk.new _ _ _).alloc
  have P0 : Blk X (w.heap.size + 1) #[.int .i64 n, .slice Option.none 0 0] 37 := by rw [← hW]; exact Blk.newAt (by simp)
  have hB : Below w.heap.size w X := by rw [← hW]; (repeat' (first | (with_reducible exact Below.refl _ _) | (with_reducible assumption) | (with_reducible refine Below.alloc ?_ ?_ _) | (with_reducible refine Below.drew ?_) | (with_reducible refine Below.setCell ?_ ?_ _) | (with_reducible refine Below.trans ?_ (Below.mono (by assumption) ?_)) | (with_reducible exact Nat.le_refl _) | omega | (simp only [World.size_alloc, World.size_setCell, World.size_drew]; omega) | (simp; omega) | (simp; done)))
  have hsz : X.heap.size = w.heap.size + 2 := by rw [← hW]; simp
  clear hW hNN
  go_loopw [12] (fun i wr => ∃ j : Nat, j ≤ N ∧ i = .int .i64 j ∧ (∃ v, Blk wr (w.heap.size + 1) #[.int .i64 n, v] 37 ∧ wr.ownsRow (w.heap.size + 2) 49 3 v j (litCells (colsTo col j)) ∧ (0 < j → v ≠ .slice Option.none 0 0)) ∧ Blk wr w.heap.size #[.int .i64 0, .slice Option.none 0 0] 37 ∧ Below w.heap.size w wr) (fun i _ => N - (intOf i).toNat)
  case atStart => exact ⟨0, by omega, rfl, ⟨_, P0, World.ownsRow_nil _ _ _ _, fun h => absurd h (by omega)⟩, R0, hB⟩
  case round =>
    obtain ⟨j, hj, rfl, ⟨v, hP, hown, hnn⟩, hR, hbel⟩ := hrel
    have hbs := hbel.size
    have lp := hP.lt
    have HB : Hid (Below w.heap.size w wr) := hbel
    have HO : Hid (wr.ownsRow (w.heap.size + 2) 49 3 v j (litCells (colsTo col j))) := hown
    have HP : Hid (Blk wr (w.heap.size + 1) #[.int .i64 n, v] 37) := hP
    have HR : Hid (Blk wr w.heap.size #[.int .i64 0, .slice Option.none 0 0] 37) := hR
    have HN : Hid (0 < j → v ≠ .slice Option.none 0 0) := hnn
    clear R0 P0 hB hsz hR hown hnn
    by_cases hlt : j < N
    · have K := HC.out j hlt
      have HY : Hid (colsTo col (j + 1) = colsTo col j ++ [col j]) := colsTo_snoc col j
      generalize col j = c at K HY
      have d1 := Blk.cellAt (i := 1) hP rfl
      simp only [List.getElem_toArray, List.getElem_cons_zero, List.getElem_cons_succ] at d1
      clear hP
      go_wp2_with fail
      go_region_law (first | (go_simp; (with_reducible refine (K.call _ HB.out.drew).mono ?_); rintro e w2 ⟨rfl, hb⟩; have d2 := cBelow hb (cDrew d1); have d4 := cAlloc (o := .cells #[.float .f32 c.r, .float .f32 c.g, .float .f32 c.b] 49) d2; have hP2 := Blk.below (Blk.drew HP.out) hb; have hown2 := ownsBelow hb (World.ownsRow.drew HO.out); have hbs2 := hb.size; try simp only [World.size_drew] at hbs2) | (refine step_append_lies _ (by rfl) _ _ _ (by rfl) (w.heap.size + 2) 49 i0 _ 3 12 Try.underlying35 hi hz0 hz1 hz2 rfl (by omega) v j (litCells (colsTo col j)) (by rfl) (hown2.alloc _) ⟨w2.heap.size, 0, Option.none⟩ 1 1 c.cells (by rfl) (by rfl) (World.news_of_block (cs := #[.float .f32 c.r, .float .f32 c.g, .float .f32 c.b]) (t := 49) (fr := (0, 0)) (heap_alloc_new w2 _)) (by simp [Lit.cells, Value.oneCell']) (by omega) (by unfold maxLen; omega) (by omega) (by simp; omega) (w2.heap.size + 1) (by simp) ?_; intro gg cap w3 hown3 hgrow hat hlt3; have hP3 : Blk w3 (w.heap.size + 1) #[.int .i64 n, v] 37 := (hgrow.block (w.heap.size + 1) (by simp; omega) (fun e => absurd (hown2.lt _ e.symm).1 (by omega))).trans (Blk.alloc hP2); have d3 := Blk.cellAt (i := 1) hP3 rfl; (simp only [List.getElem_toArray, List.getElem_cons_zero, List.getElem_cons_succ] at d3); have f3 := hP3.free 1; have hs3 := hgrow.size; (simp only [World.size_alloc] at hs3)))
      all_goals
        have HP4 : Hid (Blk (w3.setCell ⟨w.heap.size + 1, 1, Option.none⟩ (.slice (some ⟨gg, 0, Option.none⟩) (j + 1) cap)) (w.heap.size + 1) #[.int .i64 n, .slice (some ⟨gg, 0, Option.none⟩) (j + 1) cap] 37) := Blk.setAt (b := w.heap.size + 1) rfl hP3 rfl
        have HR4 : Hid (Blk (w3.setCell ⟨w.heap.size + 1, 1, Option.none⟩ (.slice (some ⟨gg, 0, Option.none⟩) (j + 1) cap)) w.heap.size #[.int .i64 0, .slice Option.none 0 0] 37) := Blk.other ((hgrow.block w.heap.size (by simp; omega) (fun e => absurd (hown2.lt _ e.symm).1 (by omega))).trans (Blk.alloc (Blk.below (Blk.drew HR.out) hb))) (by dsimp only; omega)
        have HO4 : Hid ((w3.setCell ⟨w.heap.size + 1, 1, Option.none⟩ (.slice (some ⟨gg, 0, Option.none⟩) (j + 1) cap)).ownsRow (w.heap.size + 2) 49 3 (.slice (some ⟨gg, 0, Option.none⟩) (j + 1) cap) (j + 1) (litCells (colsTo col j) ++ c.cells)) := ownsSet hown3 (by dsimp only; omega)
        have HB4 : Hid (Below w.heap.size w (w3.setCell ⟨w.heap.size + 1, 1, Option.none⟩ (.slice (some ⟨gg, 0, Option.none⟩) (j + 1) cap))) := (Below.grown (((HB.out.drew).trans (hb.mono (by simp; omega))).alloc (by omega) _) hgrow (by simp; omega) (fun q hq => by have := (hown2.lt q hq).1; omega)).setCell (by dsimp only; omega) _
        clear hP3 hP2 d1 d2 d3 d4 f3 hown3 hown2 hgrow hb hat hs3 hbs2
        go_wp2
        go_roundw
        case rel => exact ⟨j + 1, by omega, by go_num, ⟨_, HP4.out, by rw [HY.out, litCells_snoc]; exact HO4.out, fun _ => by simp⟩, HR4.out, HB4.out⟩
        case measure => simp [intOf]; omega
    · have hjm : j = N := by omega
      subst hjm
      rcases ownsRow_forms HO.out with ⟨e, _⟩ | ⟨g, cap, rfl⟩
      · exact absurd e (HN.out h0)
      have p0 := Blk.cellAt (i := 0) HP.out rfl
      have p1 := Blk.cellAt (i := 1) HP.out rfl
      have r0 := Blk.cellAt (i := 0) HR.out rfl
      have r1 := Blk.cellAt (i := 1) HR.out rfl
      have f0 := HR.out.free 0
      have f1 := HR.out.free 1
      have lr := HR.out.lt
      simp only [List.getElem_toArray, List.getElem_cons_zero, List.getElem_cons_succ] at p0 p1 r0 r1
      have RS := (HR.out.set (i := 0) (v := .int .i64 n)).set (i := 1) (v := .slice (some ⟨g, 0, Option.none⟩) j cap)
      have e0 := RS.cell 0
      have e1 := RS.cell 1
      simp only [List.setIfInBounds_toArray, List.set_cons_zero, List.set_cons_succ, List.getElem?_toArray, List.getElem?_cons_zero, List.getElem?_cons_succ] at e0 e1
      have HE0 : Hid (((wr.setCell ⟨w.heap.size, 0, Option.none⟩ (.int .i64 n)).setCell ⟨w.heap.size, 1, Option.none⟩ (.slice (some ⟨g, 0, Option.none⟩) j cap)).cell? ⟨w.heap.size, 0, Option.none⟩ = some (.int .i64 n)) := e0
      have HE1 : Hid (((wr.setCell ⟨w.heap.size, 0, Option.none⟩ (.int .i64 n)).setCell ⟨w.heap.size, 1, Option.none⟩ (.slice (some ⟨g, 0, Option.none⟩) j cap)).cell? ⟨w.heap.size, 1, Option.none⟩ = some (.slice (some ⟨g, 0, Option.none⟩) j cap)) := e1
      have HOE : Hid (((wr.setCell ⟨w.heap.size, 0, Option.none⟩ (.int .i64 n)).setCell ⟨w.heap.size, 1, Option.none⟩ (.slice (some ⟨g, 0, Option.none⟩) j cap)).ownsRow w.heap.size 49 3 (.slice (some ⟨g, 0, Option.none⟩) j cap) j (litCells (colsTo col j))) := ownsLess (ownsSet (ownsSet HO.out (by dsimp only; omega)) (by dsimp only; omega)) (by omega)
      have HBE : Hid (Below w.heap.size w ((wr.setCell ⟨w.heap.size, 0, Option.none⟩ (.int .i64 n)).setCell ⟨w.heap.size, 1, Option.none⟩ (.slice (some ⟨g, 0, Option.none⟩) j cap))) := (HB.out.setCell (Nat.le_refl _) _).setCell (Nat.le_refl _) _
      clear hP hbel RS e0 e1
      go_wp2
      have e0 := HE0.out
      have e1 := HE1.out
      exact bodyPost_ret (v := .agg #[.int .i64 n, .slice (some ⟨g, 0, Option.none⟩) j cap]) (by simp [results, Try.results84, go_sem, e0, e1]) rfl ⟨⟨g, cap, by rw [colsTo_len], by rw [colsTo_len]; exact HOE.out⟩, HBE.out⟩
end Go.Proofs.Ytlnikapkheldeaa
