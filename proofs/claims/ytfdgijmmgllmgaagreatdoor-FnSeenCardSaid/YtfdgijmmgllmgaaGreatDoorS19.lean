/-
  Texts He Hft Hc Hg Hfa Hh Hi, joined.
-/
import Derived.Test.YtfdgijmmgllmgaaGreatDoorS10
import Derived.Test.YtfdgijmmgllmgaaGreatDoorS11
import Derived.Deep.RegionLaw
import Derived.Deep.AppendLies
import Derived.Test.YtfdgijmmgllmgaaGreatDoorS06
import Derived.Deep.RegionHeld3
import Derived.Test.YtfdgijmmgllmgaaGreatDoorS08
namespace Go.Proofs.YtfdgijmmgllmgaaGreatDoor
open Go.ChangeShapes Go.WideShapes Go.ChangeAt Go.RowKit Go.Joins
set_option linter.unusedSimpArgs false
set_option linter.unusedVariables false
set_option maxRecDepth 100000
attribute [local go_sem] store_f
open Ieee
structure CloM (F : FuncId) (W : World) (args : Array Value) (c : Lit) : Prop where
  call : ∀ w : World, Below W.heap.size W w → Calls Tryz.prog F args w fun e w' => e = .returned (.agg #[.float .f32 c.r, .float .f32 c.g, .float .f32 c.b]) ∧ Below w.heap.size w w'
structure PicMade (B : Nat) (e : Ending) (w' : World) (n : Nat) (l : List Lit) (g cap : Nat) : Prop where
  ret : e = .returned (.agg #[.int .i64 n, .slice (some ⟨g, 0, Option.none⟩) l.length cap])
  own : w'.ownsRow B 26 3 (.slice (some ⟨g, 0, Option.none⟩) l.length cap) l.length (litCells l)
theorem ownsSet {W : World} {base : Nat} {e : TypeId} {size : Nat} {v : Value} {n : Nat} {xs : List Value} {p : Addr} {u : Value} (h : W.ownsRow base e size v n xs) (hp : p.block < base) : (W.setCell p u).ownsRow base e size v n xs := by
  obtain ⟨h1, h2⟩ := h
  refine ⟨h1, ?_⟩
  rcases h2 with h2 | ⟨g, cap, cur, e1, e2, e3, e4⟩
  · exact .inl h2
  · refine .inr ⟨g, cap, cur, e1, e2, ?_, e4⟩
    rw [Below.heap_setCell _ _ _ _ (by omega)]
    exact e3
theorem ownsLess {W : World} {base base' : Nat} {e : TypeId} {size : Nat} {v : Value} {n : Nat} {xs : List Value} (h : W.ownsRow base e size v n xs) (hp : base' ≤ base) : W.ownsRow base' e size v n xs := by
  obtain ⟨h1, h2⟩ := h
  refine ⟨h1, ?_⟩
  rcases h2 with h2 | ⟨g, cap, cur, e1, e2, e3, e4⟩
  · exact .inl h2
  · exact .inr ⟨g, cap, cur, e1, Nat.le_trans hp e2, e3, e4⟩
def colsTo (col : Nat → Lit) (j : Nat) : List Lit := (List.range j).map col
theorem colsTo_snoc (col : Nat → Lit) (j : Nat) : colsTo col (j + 1) = colsTo col j ++ [col j] := by simp [colsTo, List.range_succ]
theorem colsTo_len (col : Nat → Lit) (j : Nat) : (colsTo col j).length = j := by simp [colsTo]
end Go.Proofs.YtfdgijmmgllmgaaGreatDoor
namespace Go.Proofs.YtfdgijmmgllmgaaGreatDoor
open Go.ChangeShapes Go.WideShapes Go.ChangeAt Go.RowKit Go.Joins
set_option linter.unusedSimpArgs false
set_option linter.unusedVariables false
set_option maxRecDepth 100000
attribute [local go_sem] store_f
open Ieee
set_option maxHeartbeats 8000000 in
theorem pictureOf_t {n N : Nat} {c1 c2 c3 c4 c5 : Value} {col : Nat → Lit} (h1 : 1 ≤ n) (h8 : n ≤ 8) (hN : N = n * n) (w : World) (C : ∀ k, k < N → CloM 47 w #[.int .i64 k, c1, c2, c3, c4, c5] (col k)) :
    Calls Tryz.prog 46 #[.int .i64 n, .func (.func 47) #[] #[c1, c2, c3, c4, c5]] w fun e w' => (∃ g cap, PicMade w.heap.size e w' n (colsTo col N) g cap) ∧ Below w.heap.size w w' := by
  have hN64 : N ≤ 64 := by rw [hN]; exact Nat.le_trans (Nat.mul_le_mul h8 h8) (by omega)
  have hNN : (n : Int) * (n : Int) = (N : Int) := by rw [hN]; simp
  have h0 : 0 < N := by rw [hN]; exact Nat.mul_pos h1 h1
  have HC : Hid (∀ k, k < N → CloM 47 w #[.int .i64 k, c1, c2, c3, c4, c5] (col k)) := C
  clear C hN
  obtain ⟨i0, hi, hz0, hz1, hz2⟩ := info_parts infoC
  go_enter Tryz.func46, Tryz.ntmps46
  go_wp2_with fail
  generalize hW : (w.alloc (.cells #[.int .i64 0, .slice Option.none 0 0] 43)).alloc (.cells #[.int .i64 n, .slice Option.none 0 0] 43) = X
  have R0 : Blk X w.heap.size #[.int .i64 0, .slice Option.none 0 0] 43 := by rw [← hW]; exact (Blk.new _ _ _).alloc
  have P0 : Blk X (w.heap.size + 1) #[.int .i64 n, .slice Option.none 0 0] 43 := by rw [← hW]; exact Blk.newAt (by simp)
  have hB : Below w.heap.size w X := by rw [← hW]; (repeat' (first | (with_reducible exact Below.refl _ _) | (with_reducible assumption) | (with_reducible refine Below.alloc ?_ ?_ _) | (with_reducible refine Below.drew ?_) | (with_reducible refine Below.setCell ?_ ?_ _) | (with_reducible refine Below.trans ?_ (Below.mono (by assumption) ?_)) | (with_reducible exact Nat.le_refl _) | omega | (simp only [World.size_alloc, World.size_setCell, World.size_drew]; omega) | (simp; omega) | (simp; done)))
  have hsz : X.heap.size = w.heap.size + 2 := by rw [← hW]; simp
  clear hW hNN
  go_loopw [12] (fun i wr => ∃ j : Nat, j ≤ N ∧ i = .int .i64 j ∧ (∃ v, Blk wr (w.heap.size + 1) #[.int .i64 n, v] 43 ∧ wr.ownsRow (w.heap.size + 2) 26 3 v j (litCells (colsTo col j)) ∧ (0 < j → v ≠ .slice Option.none 0 0)) ∧ Blk wr w.heap.size #[.int .i64 0, .slice Option.none 0 0] 43 ∧ Below w.heap.size w wr) (fun i _ => N - (intOf i).toNat)
  case atStart => exact ⟨0, by omega, rfl, ⟨_, P0, World.ownsRow_nil _ _ _ _, fun h => absurd h (by omega)⟩, R0, hB⟩
  case round =>
    obtain ⟨j, hj, rfl, ⟨v, hP, hown, hnn⟩, hR, hbel⟩ := hrel
    have hbs := hbel.size
    have lp := hP.lt
    have HB : Hid (Below w.heap.size w wr) := hbel
    have HO : Hid (wr.ownsRow (w.heap.size + 2) 26 3 v j (litCells (colsTo col j))) := hown
    have HP : Hid (Blk wr (w.heap.size + 1) #[.int .i64 n, v] 43) := hP
    have HR : Hid (Blk wr w.heap.size #[.int .i64 0, .slice Option.none 0 0] 43) := hR
    have HN : Hid (0 < j → v ≠ .slice Option.none 0 0) := hnn
    clear R0 P0 hB hsz hR hown hnn
    by_cases hlt : j < N
    · have K := HC.out j hlt
      have HY : Hid (colsTo col (j + 1) = colsTo col j ++ [col j]) := colsTo_snoc col j
      generalize col j = c at K HY
      have d1 := Blk.cellAt (i := 1) hP rfl
      simp only [List.getElem_toArray, List.getElem_cons_zero, List.getElem_cons_succ] at d1
      clear hP
      go_wp2_with fail
      go_region_law (first | (go_simp; (with_reducible refine (K.call _ HB.out.drew).mono ?_); rintro e w2 ⟨rfl, hb⟩; have d2 := cBelow hb (cDrew d1); have d4 := cAlloc (o := .cells #[.float .f32 c.r, .float .f32 c.g, .float .f32 c.b] 26) d2; have hP2 := Blk.below (Blk.drew HP.out) hb; have hown2 := ownsBelow hb (World.ownsRow.drew HO.out); have hbs2 := hb.size; try simp only [World.size_drew] at hbs2) | (refine step_append_lies _ (by rfl) _ _ _ (by rfl) (w.heap.size + 2) 26 i0 _ 3 12 Tryz.underlying41 hi hz0 hz1 hz2 rfl (by omega) v j (litCells (colsTo col j)) (by rfl) (hown2.alloc _) ⟨w2.heap.size, 0, Option.none⟩ 1 1 c.cells (by rfl) (by rfl) (World.news_of_block (cs := #[.float .f32 c.r, .float .f32 c.g, .float .f32 c.b]) (t := 26) (fr := (0, 0)) (heap_alloc_new w2 _)) (by simp [Lit.cells, Value.oneCell']) (by omega) (by unfold maxLen; omega) (by omega) (by simp; omega) (w2.heap.size + 1) (by simp) ?_; intro gg cap w3 hown3 hgrow hat hlt3; have hP3 : Blk w3 (w.heap.size + 1) #[.int .i64 n, v] 43 := (hgrow.block (w.heap.size + 1) (by simp; omega) (fun e => absurd (hown2.lt _ e.symm).1 (by omega))).trans (Blk.alloc hP2); have d3 := Blk.cellAt (i := 1) hP3 rfl; (simp only [List.getElem_toArray, List.getElem_cons_zero, List.getElem_cons_succ] at d3); have f3 := hP3.free 1; have hs3 := hgrow.size; (simp only [World.size_alloc] at hs3)))
      all_goals
        have HP4 : Hid (Blk (w3.setCell ⟨w.heap.size + 1, 1, Option.none⟩ (.slice (some ⟨gg, 0, Option.none⟩) (j + 1) cap)) (w.heap.size + 1) #[.int .i64 n, .slice (some ⟨gg, 0, Option.none⟩) (j + 1) cap] 43) := Blk.setAt (b := w.heap.size + 1) rfl hP3 rfl
        have HR4 : Hid (Blk (w3.setCell ⟨w.heap.size + 1, 1, Option.none⟩ (.slice (some ⟨gg, 0, Option.none⟩) (j + 1) cap)) w.heap.size #[.int .i64 0, .slice Option.none 0 0] 43) := Blk.other ((hgrow.block w.heap.size (by simp; omega) (fun e => absurd (hown2.lt _ e.symm).1 (by omega))).trans (Blk.alloc (Blk.below (Blk.drew HR.out) hb))) (by dsimp only; omega)
        have HO4 : Hid ((w3.setCell ⟨w.heap.size + 1, 1, Option.none⟩ (.slice (some ⟨gg, 0, Option.none⟩) (j + 1) cap)).ownsRow (w.heap.size + 2) 26 3 (.slice (some ⟨gg, 0, Option.none⟩) (j + 1) cap) (j + 1) (litCells (colsTo col j) ++ c.cells)) := ownsSet hown3 (by dsimp only; omega)
        have HB4 : Hid (Below w.heap.size w (w3.setCell ⟨w.heap.size + 1, 1, Option.none⟩ (.slice (some ⟨gg, 0, Option.none⟩) (j + 1) cap))) := (Below.grown (((HB.out.drew).trans (hb.mono (by simp; omega))).alloc (by omega) _) hgrow (by simp; omega) (fun q hq => by have := (hown2.lt q hq).1; omega)).setCell (by dsimp only; omega) _
        clear hP3 hP2 d1 d2 d3 d4 f3 hown3 hown2 hgrow hb hat hs3 hbs2
        go_wp2
        go_roundw
        case rel => exact ⟨j + 1, by omega, by go_num, ⟨_, HP4.out, by rw [HY.out, litCells_snoc]; exact HO4.out, fun _ => by simp⟩, HR4.out, HB4.out⟩
        case measure => simp [intOf]; omega
    · have hjm : j = N := by omega
      subst hjm
      rcases ownsRow_forms HO.out with ⟨e, _⟩ | ⟨g, cap, rfl⟩
      · exact absurd e (HN.out h0)
      have p0 := Blk.cellAt (i := 0) HP.out rfl
      have p1 := Blk.cellAt (i := 1) HP.out rfl
      have r0 := Blk.cellAt (i := 0) HR.out rfl
      have r1 := Blk.cellAt (i := 1) HR.out rfl
      have f0 := HR.out.free 0
      have f1 := HR.out.free 1
      have lr := HR.out.lt
      simp only [List.getElem_toArray, List.getElem_cons_zero, List.getElem_cons_succ] at p0 p1 r0 r1
      have RS := (HR.out.set (i := 0) (v := .int .i64 n)).set (i := 1) (v := .slice (some ⟨g, 0, Option.none⟩) j cap)
      have e0 := RS.cell 0
      have e1 := RS.cell 1
      simp only [List.setIfInBounds_toArray, List.set_cons_zero, List.set_cons_succ, List.getElem?_toArray, List.getElem?_cons_zero, List.getElem?_cons_succ] at e0 e1
      have HE0 : Hid (((wr.setCell ⟨w.heap.size, 0, Option.none⟩ (.int .i64 n)).setCell ⟨w.heap.size, 1, Option.none⟩ (.slice (some ⟨g, 0, Option.none⟩) j cap)).cell? ⟨w.heap.size, 0, Option.none⟩ = some (.int .i64 n)) := e0
      have HE1 : Hid (((wr.setCell ⟨w.heap.size, 0, Option.none⟩ (.int .i64 n)).setCell ⟨w.heap.size, 1, Option.none⟩ (.slice (some ⟨g, 0, Option.none⟩) j cap)).cell? ⟨w.heap.size, 1, Option.none⟩ = some (.slice (some ⟨g, 0, Option.none⟩) j cap)) := e1
      have HOE : Hid (((wr.setCell ⟨w.heap.size, 0, Option.none⟩ (.int .i64 n)).setCell ⟨w.heap.size, 1, Option.none⟩ (.slice (some ⟨g, 0, Option.none⟩) j cap)).ownsRow w.heap.size 26 3 (.slice (some ⟨g, 0, Option.none⟩) j cap) j (litCells (colsTo col j))) := ownsLess (ownsSet (ownsSet HO.out (by dsimp only; omega)) (by dsimp only; omega)) (by omega)
      have HBE : Hid (Below w.heap.size w ((wr.setCell ⟨w.heap.size, 0, Option.none⟩ (.int .i64 n)).setCell ⟨w.heap.size, 1, Option.none⟩ (.slice (some ⟨g, 0, Option.none⟩) j cap))) := (HB.out.setCell (Nat.le_refl _) _).setCell (Nat.le_refl _) _
      clear hP hbel RS e0 e1
      go_wp2
      have e0 := HE0.out
      have e1 := HE1.out
      exact bodyPost_ret (v := .agg #[.int .i64 n, .slice (some ⟨g, 0, Option.none⟩) j cap]) (by simp [results, Tryz.results46, go_sem, e0, e1]) rfl ⟨⟨g, cap, by rw [colsTo_len], by rw [colsTo_len]; exact HOE.out⟩, HBE.out⟩
end Go.Proofs.YtfdgijmmgllmgaaGreatDoor
namespace Go.Proofs.YtfdgijmmgllmgaaGreatDoor
open Go.ChangeShapes Go.WideShapes Go.ChangeAt Go.RowKit Go.Joins
set_option linter.unusedSimpArgs false
set_option linter.unusedVariables false
set_option maxRecDepth 100000
attribute [local go_sem] store_f
open Ieee
def Lit.isB (c : Lit) : Bool := colB c.r c.g c.b
def picB (n : Int) (l : List Lit) : Bool := sizeB n && decide ((l.length : Int) = n * n) && l.all Lit.isB
structure PicIs (n : Int) (a : Option Addr) (cap : Nat) (l : List Lit) (p : Bool) : Prop where
  call : ∀ w : World, LitsAt w a l → Calls Tryz.prog 7 #[.agg #[.int .i64 n, .slice a l.length cap]] w fun e w' => e = .returned (.bool p) ∧ Below w.heap.size w w'
structure ColB (c : Lit) (p : Bool) : Prop where
  call : ∀ w : World, Calls Tryz.prog 20 #[.agg #[.float .f32 c.r, .float .f32 c.g, .float .f32 c.b]] w fun e w' => e = .returned (.bool p) ∧ Below w.heap.size w w'
theorem colB_of (c : Lit) : ColB c c.isB := ⟨fun w => isColour_i c.r c.g c.b w⟩
set_option maxHeartbeats 4000000 in
theorem picIs_size {n : Int} {a : Option Addr} {cap : Nat} {l : List Lit} (h : sizeB n = false) : PicIs n a cap l false := ⟨fun w hrow => by
  have S := fun w => isSize_i n w
  rw [h] at S
  clear hrow h
  go_enter Tryz.func7, Tryz.ntmps7
  go_wp2_with (go_at_call 19; (with_reducible refine (S _).mono ?_); rintro e w1 ⟨rfl, rfl⟩)
  go_ret
  exact ⟨rfl, by (repeat' (first | (with_reducible exact Below.refl _ _) | (with_reducible assumption) | (with_reducible refine Below.alloc ?_ ?_ _) | (with_reducible refine Below.drew ?_) | (with_reducible refine Below.setCell ?_ ?_ _) | (with_reducible refine Below.trans ?_ (Below.mono (by assumption) ?_)) | (with_reducible exact Nat.le_refl _) | omega | (simp only [World.size_alloc, World.size_setCell, World.size_drew]; omega) | (simp; omega) | (simp; done)))⟩⟩
set_option maxHeartbeats 4000000 in
theorem picIs_len {n : Int} {a : Option Addr} {cap : Nat} {l : List Lit} (h : sizeB n = true) (hl : (l.length : Int) ≠ n * n) : PicIs n a cap l false := ⟨fun w hrow => by
  unfold sizeB at h
  simp at h
  clear hrow
  rcases (by omega : n = 1 ∨ n = 2 ∨ n = 3 ∨ n = 4 ∨ n = 5 ∨ n = 6 ∨ n = 7 ∨ n = 8) with rfl | rfl | rfl | rfl | rfl | rfl | rfl | rfl
  all_goals
    simp only [Int.reduceMul] at hl
    clear h
    go_enter Tryz.func7, Tryz.ntmps7
    go_wp2
    go_ret
    exact ⟨rfl, by (repeat' (first | (with_reducible exact Below.refl _ _) | (with_reducible assumption) | (with_reducible refine Below.alloc ?_ ?_ _) | (with_reducible refine Below.drew ?_) | (with_reducible refine Below.setCell ?_ ?_ _) | (with_reducible refine Below.trans ?_ (Below.mono (by assumption) ?_)) | (with_reducible exact Nat.le_refl _) | omega | (simp only [World.size_alloc, World.size_setCell, World.size_drew]; omega) | (simp; omega) | (simp; done)))⟩⟩
theorem picIs_all {n : Int} {a : Option Addr} {cap : Nat} {l : List Lit} (h : sizeB n = true) (hl : (l.length : Int) = n * n) : PicIs n a cap l (l.all Lit.isB) := ⟨fun w hrow => by
  unfold sizeB at h
  simp at h
  obtain ⟨N, hN⟩ : ∃ N : Nat, N = l.length := ⟨_, rfl⟩
  have hN2 : N ≤ 64 := by
    have h2 : n * n ≤ 8 * 8 := Int.mul_le_mul (by omega) (by omega) (by omega) (by omega)
    omega
  have HNN : Hid (n * n = (N : Int)) := by show n * n = (N : Int); omega
  have HR : Hid (LitsAt w a l) := hrow
  rw [← hN]
  have HN : Hid (N = l.length) := hN
  have HG : Hid (∀ j, j < N → l.all Lit.isB = true → (l.getD j default).isB = true) := fun j hj hh => by
    have h1 : j < l.length := by omega
    have h2 := List.all_eq_true.1 hh l[j] (List.getElem_mem h1)
    simpa [List.getD, h1] using h2
  have HA : Hid ((∀ j, j < N → (l.getD j default).isB = true) → l.all Lit.isB = true) := fun hh => by
    rw [List.all_eq_true]
    intro c hc
    obtain ⟨j, hj, rfl⟩ := List.mem_iff_getElem.1 hc
    have h2 := hh j (by omega)
    simpa [List.getD, hj] using h2
  clear hrow hl hN
  generalize l.all Lit.isB = p at HG HA ⊢
  have S := fun w => isSize_i n w
  have hs : sizeB n = true := by unfold sizeB; simp; omega
  rw [hs] at S
  obtain ⟨h1, h8⟩ := h
  clear hs
  have hNN := HNN.out
  go_enter Tryz.func7, Tryz.ntmps7
  go_wp2_with (go_at_call 19; (with_reducible refine (S _).mono ?_); rintro e w1 ⟨rfl, rfl⟩)
  clear S hNN
  go_loopw [23] (fun i wr => ∃ j : Nat, j ≤ N ∧ i = .int .i64 j ∧ (∀ i, i < j → (l.getD i default).isB = true) ∧ Below w.heap.size w wr) (fun i _ => N - (intOf i).toNat)
  case atStart => exact ⟨0, by omega, rfl, fun i hi => absurd hi (by omega), by (repeat' (first | (with_reducible exact Below.refl _ _) | (with_reducible assumption) | (with_reducible refine Below.alloc ?_ ?_ _) | (with_reducible refine Below.drew ?_) | (with_reducible refine Below.setCell ?_ ?_ _) | (with_reducible refine Below.trans ?_ (Below.mono (by assumption) ?_)) | (with_reducible exact Nat.le_refl _) | omega | (simp only [World.size_alloc, World.size_setCell, World.size_drew]; omega) | (simp; omega) | (simp; done)))⟩
  case round =>
    obtain ⟨j, hj, rfl, hall, hbel⟩ := hrel
    have HB : Hid (Below w.heap.size w wr) := hbel
    have HL : Hid (∀ i, i < j → (l.getD i default).isB = true) := hall
    have hbs := hbel.size
    clear hall
    by_cases hlt : j < N
    · have K := colB_of (l.getD j default)
      have HGj := HG.out j hlt
      rcases HR.out with hnil | ⟨b, off, rfl, hRR⟩
      · exfalso
        have := HN.out
        rw [hnil] at this
        simp at this
        omega
      have hrow := (LitRow.below hRR hbel) j (by have := HN.out; omega)
      have HS : Hid ((l.getD j default).isB = true → ∀ i, i < j + 1 → (l.getD i default).isB = true) := fun h i hi => by
        rcases (by omega : i < j ∨ i = j) with h1 | rfl
        · exact HL.out i h1
        · exact h
      generalize (l.getD j default).isB = q at K HS HGj
      have HQ : Hid (p = true → q = true) := HGj
      generalize l.getD j default = c at hrow K
      obtain ⟨d0, d1, d2⟩ := hrow
      clear hbel hRR HGj
      cases q
      · have hp : p = false := by
          cases p
          · rfl
          · exact absurd (HQ.out rfl) (by decide)
        subst hp
        go_wp2_with fail
        refine (K.call _).mono ?_
        rintro e w2 ⟨rfl, hb⟩
        have HB2 : Hid (Below w.heap.size w w2) := (HB.out.alloc (by omega) _).trans (hb.mono (by simp; omega))
        clear hb d0 d1 d2
        go_wp2
        go_ret
        exact ⟨rfl, HB2.out⟩
      · go_wp2_with fail
        refine (K.call _).mono ?_
        rintro e w2 ⟨rfl, hb⟩
        have HB2 : Hid (Below w.heap.size w w2) := (HB.out.alloc (by omega) _).trans (hb.mono (by simp; omega))
        clear hb d0 d1 d2
        go_wp2
        go_roundw
        case rel => exact ⟨j + 1, by omega, by go_num, HS.out (by simp), HB2.out⟩
        case measure => simp [intOf]; omega
    · have hjm : j = N := by omega
      subst hjm
      have hp : p = true := HA.out HL.out
      subst hp
      clear hbel
      go_wp2
      go_ret
      exact ⟨rfl, HB.out⟩⟩
theorem picIs (n : Int) (a : Option Addr) (cap : Nat) (l : List Lit) : PicIs n a cap l (picB n l) := by
  unfold picB
  cases hs : sizeB n
  · exact picIs_size hs
  · by_cases hl : (l.length : Int) = n * n
    · have h := picIs_all (a := a) (cap := cap) hs hl
      simpa [hl] using h
    · have h := picIs_len (a := a) (cap := cap) hs hl
      simpa [hl] using h
end Go.Proofs.YtfdgijmmgllmgaaGreatDoor
namespace Go.Proofs.YtfdgijmmgllmgaaGreatDoor
open Go.ChangeShapes Go.WideShapes Go.ChangeAt Go.RowKit Go.Joins
set_option linter.unusedSimpArgs false
set_option linter.unusedVariables false
set_option maxRecDepth 100000
attribute [local go_sem] store_f
open Ieee
structure PicBox (W : World) (b : Nat) (n : Int) (a : Option Addr) (cap : Nat) (l : List Lit) : Prop where
  blk : Blk W b #[.int .i64 n, .slice a l.length cap] 43
  row : LitsAt W a l
theorem PicBox.below {W w1 : World} {b : Nat} {n : Int} {a : Option Addr} {cap : Nat} {l : List Lit} (h : PicBox W b n a cap l) (hb : Below W.heap.size W w1) : PicBox w1 b n a cap l := ⟨h.blk.below hb, h.row.below hb⟩
set_option maxHeartbeats 4000000 in
theorem act_clo {n k t : Nat} {f : Bool} {a : Option Addr} {cap bp bs : Nat} {l : List Lit} {W : World} (h1 : 1 ≤ n) (h8 : n ≤ 8) (hk : k < n * n) (ht : t < 4) (hl : l.length = n * n)
    (P : PicBox W bp n a cap l) (S : Blk W bs #[.int .i64 t, .bool f] 52) :
    CloM 56 W #[.int .i64 k, .pointer (some ⟨bp, 0, Option.none⟩), .pointer (some ⟨bs, 0, Option.none⟩)] (l.getD (cellN n t f k) default) := ⟨fun w hw => by
  have K := cellM_yes f h1 h8 hk ht
  have hc := cell_lt' (f := f) h8 hk ht
  rw [← hl] at hc
  rcases (P.below hw).row with hnil | ⟨b, off, rfl, hR⟩
  · exfalso; rw [hnil] at hc; simp at hc
  have hrow := hR _ hc
  have p0 := Blk.cellAt (i := 0) (P.below hw).blk rfl
  have p1 := Blk.cellAt (i := 1) (P.below hw).blk rfl
  have s0 := Blk.cellAt (i := 0) (S.below hw) rfl
  have s1 := Blk.cellAt (i := 1) (S.below hw) rfl
  simp only [List.getElem_toArray, List.getElem_cons_zero, List.getElem_cons_succ] at p0 p1 s0 s1
  have lp := cell_lt p0
  have ls := cell_lt s0
  have lb := cell_lt hrow.1
  generalize cellN n t f k = c at *
  generalize l.getD c default = s at *
  have hc0 : (0 : Int) ≤ (c : Int) := by omega
  have hc1 : (c : Int) < (l.length : Int) := by omega
  clear hR P S hw hk ht hl
  obtain ⟨d0, d1, d2⟩ := hrow
  go_enter Tryz.func56, Tryz.ntmps56
  go_wp2_with fail
  generalize hW : w.alloc (.cells #[.float .f32 0, .float .f32 0, .float .f32 0] 26) = X
  have R0 : Hid (Blk X w.heap.size #[.float .f32 0, .float .f32 0, .float .f32 0] 26) := by rw [← hW]; exact Blk.new _ _ _
  have HB : Hid (Below w.heap.size w X) := by rw [← hW]; show Below w.heap.size w _; (repeat' (first | (with_reducible exact Below.refl _ _) | (with_reducible assumption) | (with_reducible refine Below.alloc ?_ ?_ _) | (with_reducible refine Below.drew ?_) | (with_reducible refine Below.setCell ?_ ?_ _) | (with_reducible refine Below.trans ?_ (Below.mono (by assumption) ?_)) | (with_reducible exact Nat.le_refl _) | omega | (simp only [World.size_alloc, World.size_setCell, World.size_drew]; omega) | (simp; omega) | (simp; done)))
  have hs : X.heap.size = w.heap.size + 1 := by rw [← hW]; simp
  have q0 : X.cell? ⟨bp, 0, Option.none⟩ = some (.int .i64 n) := by rw [← hW]; exact cAlloc p0
  have q1 : X.cell? ⟨bp, 1, Option.none⟩ = some (.slice (some ⟨b, off, Option.none⟩) l.length cap) := by rw [← hW]; exact cAlloc p1
  have u0 : X.cell? ⟨bs, 0, Option.none⟩ = some (.int .i64 t) := by rw [← hW]; exact cAlloc s0
  have u1 : X.cell? ⟨bs, 1, Option.none⟩ = some (.bool f) := by rw [← hW]; exact cAlloc s1
  have v0 : X.cell? ⟨b, (off + c * 3), Option.none⟩ = some (.float .f32 s.r) ∧ X.cell? ⟨b, (off + c * 3) + 1, Option.none⟩ = some (.float .f32 s.g) ∧ X.cell? ⟨b, (off + c * 3) + 2, Option.none⟩ = some (.float .f32 s.b) := by rw [← hW]; exact ⟨cAlloc d0, cAlloc d1, cAlloc d2⟩
  obtain ⟨e0, e1, e2⟩ := v0
  clear hW p0 p1 s0 s1 d0 d1 d2
  go_region_held3 (fun wx => wx.cell? ⟨bp, 0, Option.none⟩ = some (.int .i64 n) ∧ wx.cell? ⟨bp, 1, Option.none⟩ = some (.slice (some ⟨b, off, Option.none⟩) l.length cap) ∧ wx.cell? ⟨bs, 0, Option.none⟩ = some (.int .i64 (t)) ∧ wx.cell? ⟨bs, 1, Option.none⟩ = some (.bool (f)) ∧ wx.cell? ⟨b, (off + c * 3), Option.none⟩ = some (.float .f32 s.r) ∧ wx.cell? ⟨b, (off + c * 3) + 1, Option.none⟩ = some (.float .f32 s.g) ∧ wx.cell? ⟨b, (off + c * 3) + 2, Option.none⟩ = some (.float .f32 s.b))
    (((repeat' apply And.intro) <;> first | (with_reducible assumption) | (((repeat (first | (with_reducible assumption) | (with_reducible exact cNewAt (by first | rfl | (simp only [World.size_alloc, World.size_setCell, World.size_drew]; done) | omega) rfl) | (with_reducible exact sNewAt (by first | rfl | (simp only [World.size_alloc, World.size_setCell, World.size_drew]; done) | omega) rfl) | (simp; done) | (with_reducible apply cAlloc) | (with_reducible apply cDrew) | (with_reducible refine cSet (by dsimp only; omega) ?_) | (with_reducible refine cSetOff (by dsimp only; omega) ?_) | (with_reducible apply cSame) | (with_reducible refine cBelow (by assumption) ?_) | (with_reducible apply sAlloc) | (with_reducible apply sDrew) | (with_reducible refine sBelow (by assumption) ?_) | (with_reducible refine sSet (by dsimp only; omega) ?_))); first | done | (simp [*]; done)); done) | (simp only [World.size_alloc, World.size_setCell, World.size_drew]; omega) | omega | (go_keep; done) | ((repeat' (first | (with_reducible exact Below.refl _ _) | (with_reducible assumption) | (with_reducible refine Below.alloc ?_ ?_ _) | (with_reducible refine Below.drew ?_) | (with_reducible refine Below.setCell ?_ ?_ _) | (with_reducible refine Below.trans ?_ (Below.mono (by assumption) ?_)) | (with_reducible exact Nat.le_refl _) | omega | (simp only [World.size_alloc, World.size_setCell, World.size_drew]; omega) | (simp; omega) | (simp; done))); done)))
    (first | (go_at_call 57; (with_reducible refine (K.call _).mono ?_); rintro e w2 ⟨rfl, hb⟩; have R2 : Hid (Blk w2 w.heap.size #[.float .f32 0, .float .f32 0, .float .f32 0] 26) := Blk.below (Blk.drew R0.out) hb; have B2 : Hid (Below w.heap.size w w2) := HB.out.drew.trans (hb.mono (by simp; omega)); have o0 := Blk.cellAt (i := 0) R2.out rfl; have o1 := Blk.cellAt (i := 1) R2.out rfl; have o2 := Blk.cellAt (i := 2) R2.out rfl; have f0 := R2.out.free 0; have f1 := R2.out.free 1; have f2 := R2.out.free 2; have lr := R2.out.lt; (simp only [List.getElem_toArray, List.getElem_cons_zero, List.getElem_cons_succ] at o0 o1 o2)))
  all_goals
    rename_i hHeld
    clear hHeld
    go_wp2
    have hbb := B2.out
    (have d0 := (R2.out.set (i := 0) (v := .float .f32 s.r)).cell 0; have d1 := ((R2.out.set (i := 0) (v := .float .f32 s.r)).set (i := 1) (v := .float .f32 s.g)).cell 1; have d2 := (((R2.out.set (i := 0) (v := .float .f32 s.r)).set (i := 1) (v := .float .f32 s.g)).set (i := 2) (v := .float .f32 s.b)).cell 2; simp only [List.setIfInBounds_toArray, List.set_cons_zero, List.set_cons_succ, List.getElem?_toArray, List.getElem?_cons_zero, List.getElem?_cons_succ] at d0 d1 d2; exact bodyPost_ret (v := .agg #[.float .f32 s.r, .float .f32 s.g, .float .f32 s.b]) (by simp [results, Tryz.results56, go_sem, d0, d1, d2]) rfl ⟨rfl, by (repeat' (first | (with_reducible exact Below.refl _ _) | (with_reducible assumption) | (with_reducible refine Below.alloc ?_ ?_ _) | (with_reducible refine Below.drew ?_) | (with_reducible refine Below.setCell ?_ ?_ _) | (with_reducible refine Below.trans ?_ (Below.mono (by assumption) ?_)) | (with_reducible exact Nat.le_refl _) | omega | (simp only [World.size_alloc, World.size_setCell, World.size_drew]; omega) | (simp; omega) | (simp; done)))⟩)⟩
end Go.Proofs.YtfdgijmmgllmgaaGreatDoor
namespace Go.Proofs.YtfdgijmmgllmgaaGreatDoor
open Go.ChangeShapes Go.WideShapes Go.ChangeAt Go.RowKit Go.Joins
set_option linter.unusedSimpArgs false
set_option linter.unusedVariables false
set_option maxRecDepth 100000
attribute [local go_sem] store_f
open Ieee
set_option maxHeartbeats 8000000 in
theorem pictureOf_a {n N : Nat} {c1 c2 : Value} {col : Nat → Lit} (h1 : 1 ≤ n) (h8 : n ≤ 8) (hN : N = n * n) (w : World) (C : ∀ k, k < N → CloM 56 w #[.int .i64 k, c1, c2] (col k)) :
    Calls Tryz.prog 46 #[.int .i64 n, .func (.func 56) #[] #[c1, c2]] w fun e w' => (∃ g cap, PicMade w.heap.size e w' n (colsTo col N) g cap) ∧ Below w.heap.size w w' := by
  have hN64 : N ≤ 64 := by rw [hN]; exact Nat.le_trans (Nat.mul_le_mul h8 h8) (by omega)
  have hNN : (n : Int) * (n : Int) = (N : Int) := by rw [hN]; simp
  have h0 : 0 < N := by rw [hN]; exact Nat.mul_pos h1 h1
  have HC : Hid (∀ k, k < N → CloM 56 w #[.int .i64 k, c1, c2] (col k)) := C
  clear C hN
  obtain ⟨i0, hi, hz0, hz1, hz2⟩ := info_parts infoC
  go_enter Tryz.func46, Tryz.ntmps46
  go_wp2_with fail
  generalize hW : (w.alloc (.cells #[.int .i64 0, .slice Option.none 0 0] 43)).alloc (.cells #[.int .i64 n, .slice Option.none 0 0] 43) = X
  have R0 : Blk X w.heap.size #[.int .i64 0, .slice Option.none 0 0] 43 := by rw [← hW]; exact (Blk.new _ _ _).alloc
  have P0 : Blk X (w.heap.size + 1) #[.int .i64 n, .slice Option.none 0 0] 43 := by rw [← hW]; exact Blk.newAt (by simp)
  have hB : Below w.heap.size w X := by rw [← hW]; (repeat' (first | (with_reducible exact Below.refl _ _) | (with_reducible assumption) | (with_reducible refine Below.alloc ?_ ?_ _) | (with_reducible refine Below.drew ?_) | (with_reducible refine Below.setCell ?_ ?_ _) | (with_reducible refine Below.trans ?_ (Below.mono (by assumption) ?_)) | (with_reducible exact Nat.le_refl _) | omega | (simp only [World.size_alloc, World.size_setCell, World.size_drew]; omega) | (simp; omega) | (simp; done)))
  have hsz : X.heap.size = w.heap.size + 2 := by rw [← hW]; simp
  clear hW hNN
  go_loopw [12] (fun i wr => ∃ j : Nat, j ≤ N ∧ i = .int .i64 j ∧ (∃ v, Blk wr (w.heap.size + 1) #[.int .i64 n, v] 43 ∧ wr.ownsRow (w.heap.size + 2) 26 3 v j (litCells (colsTo col j)) ∧ (0 < j → v ≠ .slice Option.none 0 0)) ∧ Blk wr w.heap.size #[.int .i64 0, .slice Option.none 0 0] 43 ∧ Below w.heap.size w wr) (fun i _ => N - (intOf i).toNat)
  case atStart => exact ⟨0, by omega, rfl, ⟨_, P0, World.ownsRow_nil _ _ _ _, fun h => absurd h (by omega)⟩, R0, hB⟩
  case round =>
    obtain ⟨j, hj, rfl, ⟨v, hP, hown, hnn⟩, hR, hbel⟩ := hrel
    have hbs := hbel.size
    have lp := hP.lt
    have HB : Hid (Below w.heap.size w wr) := hbel
    have HO : Hid (wr.ownsRow (w.heap.size + 2) 26 3 v j (litCells (colsTo col j))) := hown
    have HP : Hid (Blk wr (w.heap.size + 1) #[.int .i64 n, v] 43) := hP
    have HR : Hid (Blk wr w.heap.size #[.int .i64 0, .slice Option.none 0 0] 43) := hR
    have HN : Hid (0 < j → v ≠ .slice Option.none 0 0) := hnn
    clear R0 P0 hB hsz hR hown hnn
    by_cases hlt : j < N
    · have K := HC.out j hlt
      have HY : Hid (colsTo col (j + 1) = colsTo col j ++ [col j]) := colsTo_snoc col j
      generalize col j = c at K HY
      have d1 := Blk.cellAt (i := 1) hP rfl
      simp only [List.getElem_toArray, List.getElem_cons_zero, List.getElem_cons_succ] at d1
      clear hP
      go_wp2_with fail
      go_region_law (first | (go_simp; (with_reducible refine (K.call _ HB.out.drew).mono ?_); rintro e w2 ⟨rfl, hb⟩; have d2 := cBelow hb (cDrew d1); have d4 := cAlloc (o := .cells #[.float .f32 c.r, .float .f32 c.g, .float .f32 c.b] 26) d2; have hP2 := Blk.below (Blk.drew HP.out) hb; have hown2 := ownsBelow hb (World.ownsRow.drew HO.out); have hbs2 := hb.size; try simp only [World.size_drew] at hbs2) | (refine step_append_lies _ (by rfl) _ _ _ (by rfl) (w.heap.size + 2) 26 i0 _ 3 12 Tryz.underlying41 hi hz0 hz1 hz2 rfl (by omega) v j (litCells (colsTo col j)) (by rfl) (hown2.alloc _) ⟨w2.heap.size, 0, Option.none⟩ 1 1 c.cells (by rfl) (by rfl) (World.news_of_block (cs := #[.float .f32 c.r, .float .f32 c.g, .float .f32 c.b]) (t := 26) (fr := (0, 0)) (heap_alloc_new w2 _)) (by simp [Lit.cells, Value.oneCell']) (by omega) (by unfold maxLen; omega) (by omega) (by simp; omega) (w2.heap.size + 1) (by simp) ?_; intro gg cap w3 hown3 hgrow hat hlt3; have hP3 : Blk w3 (w.heap.size + 1) #[.int .i64 n, v] 43 := (hgrow.block (w.heap.size + 1) (by simp; omega) (fun e => absurd (hown2.lt _ e.symm).1 (by omega))).trans (Blk.alloc hP2); have d3 := Blk.cellAt (i := 1) hP3 rfl; (simp only [List.getElem_toArray, List.getElem_cons_zero, List.getElem_cons_succ] at d3); have f3 := hP3.free 1; have hs3 := hgrow.size; (simp only [World.size_alloc] at hs3)))
      all_goals
        have HP4 : Hid (Blk (w3.setCell ⟨w.heap.size + 1, 1, Option.none⟩ (.slice (some ⟨gg, 0, Option.none⟩) (j + 1) cap)) (w.heap.size + 1) #[.int .i64 n, .slice (some ⟨gg, 0, Option.none⟩) (j + 1) cap] 43) := Blk.setAt (b := w.heap.size + 1) rfl hP3 rfl
        have HR4 : Hid (Blk (w3.setCell ⟨w.heap.size + 1, 1, Option.none⟩ (.slice (some ⟨gg, 0, Option.none⟩) (j + 1) cap)) w.heap.size #[.int .i64 0, .slice Option.none 0 0] 43) := Blk.other ((hgrow.block w.heap.size (by simp; omega) (fun e => absurd (hown2.lt _ e.symm).1 (by omega))).trans (Blk.alloc (Blk.below (Blk.drew HR.out) hb))) (by dsimp only; omega)
        have HO4 : Hid ((w3.setCell ⟨w.heap.size + 1, 1, Option.none⟩ (.slice (some ⟨gg, 0, Option.none⟩) (j + 1) cap)).ownsRow (w.heap.size + 2) 26 3 (.slice (some ⟨gg, 0, Option.none⟩) (j + 1) cap) (j + 1) (litCells (colsTo col j) ++ c.cells)) := ownsSet hown3 (by dsimp only; omega)
        have HB4 : Hid (Below w.heap.size w (w3.setCell ⟨w.heap.size + 1, 1, Option.none⟩ (.slice (some ⟨gg, 0, Option.none⟩) (j + 1) cap))) := (Below.grown (((HB.out.drew).trans (hb.mono (by simp; omega))).alloc (by omega) _) hgrow (by simp; omega) (fun q hq => by have := (hown2.lt q hq).1; omega)).setCell (by dsimp only; omega) _
        clear hP3 hP2 d1 d2 d3 d4 f3 hown3 hown2 hgrow hb hat hs3 hbs2
        go_wp2
        go_roundw
        case rel => exact ⟨j + 1, by omega, by go_num, ⟨_, HP4.out, by rw [HY.out, litCells_snoc]; exact HO4.out, fun _ => by simp⟩, HR4.out, HB4.out⟩
        case measure => simp [intOf]; omega
    · have hjm : j = N := by omega
      subst hjm
      rcases ownsRow_forms HO.out with ⟨e, _⟩ | ⟨g, cap, rfl⟩
      · exact absurd e (HN.out h0)
      have p0 := Blk.cellAt (i := 0) HP.out rfl
      have p1 := Blk.cellAt (i := 1) HP.out rfl
      have r0 := Blk.cellAt (i := 0) HR.out rfl
      have r1 := Blk.cellAt (i := 1) HR.out rfl
      have f0 := HR.out.free 0
      have f1 := HR.out.free 1
      have lr := HR.out.lt
      simp only [List.getElem_toArray, List.getElem_cons_zero, List.getElem_cons_succ] at p0 p1 r0 r1
      have RS := (HR.out.set (i := 0) (v := .int .i64 n)).set (i := 1) (v := .slice (some ⟨g, 0, Option.none⟩) j cap)
      have e0 := RS.cell 0
      have e1 := RS.cell 1
      simp only [List.setIfInBounds_toArray, List.set_cons_zero, List.set_cons_succ, List.getElem?_toArray, List.getElem?_cons_zero, List.getElem?_cons_succ] at e0 e1
      have HE0 : Hid (((wr.setCell ⟨w.heap.size, 0, Option.none⟩ (.int .i64 n)).setCell ⟨w.heap.size, 1, Option.none⟩ (.slice (some ⟨g, 0, Option.none⟩) j cap)).cell? ⟨w.heap.size, 0, Option.none⟩ = some (.int .i64 n)) := e0
      have HE1 : Hid (((wr.setCell ⟨w.heap.size, 0, Option.none⟩ (.int .i64 n)).setCell ⟨w.heap.size, 1, Option.none⟩ (.slice (some ⟨g, 0, Option.none⟩) j cap)).cell? ⟨w.heap.size, 1, Option.none⟩ = some (.slice (some ⟨g, 0, Option.none⟩) j cap)) := e1
      have HOE : Hid (((wr.setCell ⟨w.heap.size, 0, Option.none⟩ (.int .i64 n)).setCell ⟨w.heap.size, 1, Option.none⟩ (.slice (some ⟨g, 0, Option.none⟩) j cap)).ownsRow w.heap.size 26 3 (.slice (some ⟨g, 0, Option.none⟩) j cap) j (litCells (colsTo col j))) := ownsLess (ownsSet (ownsSet HO.out (by dsimp only; omega)) (by dsimp only; omega)) (by omega)
      have HBE : Hid (Below w.heap.size w ((wr.setCell ⟨w.heap.size, 0, Option.none⟩ (.int .i64 n)).setCell ⟨w.heap.size, 1, Option.none⟩ (.slice (some ⟨g, 0, Option.none⟩) j cap))) := (HB.out.setCell (Nat.le_refl _) _).setCell (Nat.le_refl _) _
      clear hP hbel RS e0 e1
      go_wp2
      have e0 := HE0.out
      have e1 := HE1.out
      exact bodyPost_ret (v := .agg #[.int .i64 n, .slice (some ⟨g, 0, Option.none⟩) j cap]) (by simp [results, Tryz.results46, go_sem, e0, e1]) rfl ⟨⟨g, cap, by rw [colsTo_len], by rw [colsTo_len]; exact HOE.out⟩, HBE.out⟩
end Go.Proofs.YtfdgijmmgllmgaaGreatDoor
namespace Go.Proofs.YtfdgijmmgllmgaaGreatDoor
open Go.ChangeShapes Go.WideShapes Go.ChangeAt Go.RowKit Go.Joins
set_option linter.unusedSimpArgs false
set_option linter.unusedVariables false
set_option maxRecDepth 100000
attribute [local go_sem] store_f
open Ieee
def actCols (n t : Nat) (f : Bool) (l : List Lit) : List Lit := colsTo (fun k => l.getD (cellN n (backT t f).toNat (backF t f) k) default) (n * n)
def spreadCols (kind : Int) (n : Nat) (l : List Lit) : List Lit := colsTo (fun k => l.getD (leastN kind n k) default) (n * n)
theorem pic_cases {n : Int} {l : List Lit} (h : picB n l = true) : ∃ m : Nat, n = m ∧ 1 ≤ m ∧ m ≤ 8 ∧ l.length = m * m ∧ ∀ c ∈ l, c.isB = true := by
  unfold picB at h
  simp only [Bool.and_eq_true, decide_eq_true_eq] at h
  obtain ⟨m, rfl, h1, h8⟩ := size_cases h.1.1
  have h2 := h.1.2
  have h3 : ((m * m : Nat) : Int) = (m : Int) * m := by simp
  exact ⟨m, rfl, h1, h8, by omega, fun c hc => List.all_eq_true.1 h.2 c hc⟩
structure ActPic (t : Int) (f : Bool) (n : Nat) (a : Option Addr) (cap : Nat) (l m : List Lit) : Prop where
  call : ∀ w : World, LitsAt w a l → Calls Tryz.prog 22 #[.agg #[.int .i64 t, .bool f], .agg #[.int .i64 n, .slice a l.length cap]] w fun e w' => (∃ g cp, PicMade w.heap.size e w' n m g cp) ∧ Below w.heap.size w w'
set_option maxHeartbeats 8000000 in
theorem actPic {n t : Nat} (f : Bool) {a : Option Addr} {cap : Nat} {l : List Lit} (ht : t < 4) (hp : picB n l = true) : ActPic t f n a cap l (actCols n t f l) := ⟨fun w hrow => by
  have IP := picIs n a cap l
  rw [hp] at IP
  obtain ⟨m, hm, h1, h8, hl, _⟩ := pic_cases hp
  obtain rfl : n = m := by omega
  have hJ := back_in ⟨t, ht⟩ f
  dsimp only at hJ
  have BK : BackM t f (backT t f) (backF t f) := ⟨fun w => backSym_i t f w⟩
  rw [hJ.1] at BK
  have HC : Hid (∀ (W : World) (bp bs : Nat), PicBox W bp n a cap l → Blk W bs #[.int .i64 (((backT t f).toNat : Nat) : Int), .bool (backF t f)] 52 → ∀ k, k < n * n → CloM 56 W #[.int .i64 k, .pointer (some ⟨bp, 0, Option.none⟩), .pointer (some ⟨bs, 0, Option.none⟩)] (l.getD (cellN n (backT t f).toNat (backF t f) k) default)) :=
    fun W bp bs P S k hk => act_clo h1 h8 hk hJ.2 hl P S
  have HP : Hid (∀ (w : World) (c1 c2 : Value), (∀ k, k < n * n → CloM 56 w #[.int .i64 k, c1, c2] (l.getD (cellN n (backT t f).toNat (backF t f) k) default)) → Calls Tryz.prog 46 #[.int .i64 n, .func (.func 56) #[] #[c1, c2]] w fun e w' => (∃ g cap, PicMade w.heap.size e w' n (actCols n t f l) g cap) ∧ Below w.heap.size w w') :=
    fun w c1 c2 C => pictureOf_a h1 h8 rfl w C
  have YS := fun w => isSym_yes (t : Int) f w (by omega) (by omega)
  generalize actCols n t f l = m at HP ⊢
  generalize ((backT t f).toNat : Int) = bt at *
  generalize (backT t f).toNat = bn at *
  generalize backF t f = bf at *
  generalize (t : Int) = t at *
  have HR : Hid (LitsAt w a l) := hrow
  clear hrow hp hl hJ h1 h8 hm
  go_enter Tryz.func22, Tryz.ntmps22
  go_wp2_with fail
  generalize hW : ((w.alloc (.cells #[.int .i64 t, .bool f] 52)).alloc (.cells #[.int .i64 n, .slice a l.length cap] 43)).alloc (.cells #[.int .i64 0, .slice Option.none 0 0] 43) = X
  have S0 : Hid (Blk X w.heap.size #[.int .i64 t, .bool f] 52) := by rw [← hW]; exact ((Blk.new _ _ _).alloc).alloc
  have P0 : Hid (PicBox X (w.heap.size + 1) n a cap l) := by rw [← hW]; exact ⟨(Blk.newAt (by simp)).alloc, ((HR.out.alloc).alloc).alloc⟩
  have R0 : Hid (Blk X (w.heap.size + 1 + 1) #[.int .i64 0, .slice Option.none 0 0] 43) := by rw [← hW]; exact Blk.newAt (by simp)
  have hB : Below w.heap.size w X := by rw [← hW]; (repeat' (first | (with_reducible exact Below.refl _ _) | (with_reducible assumption) | (with_reducible refine Below.alloc ?_ ?_ _) | (with_reducible refine Below.drew ?_) | (with_reducible refine Below.setCell ?_ ?_ _) | (with_reducible refine Below.trans ?_ (Below.mono (by assumption) ?_)) | (with_reducible exact Nat.le_refl _) | omega | (simp only [World.size_alloc, World.size_setCell, World.size_drew]; omega) | (simp; omega) | (simp; done)))
  have HB : Hid (Below w.heap.size w X) := hB
  have hs := hB.size
  clear hW hB HR
  refine (YS _).mono ?_
  rintro e w1 ⟨rfl, hb⟩
  have S1 : Hid (Blk w1 w.heap.size #[.int .i64 t, .bool f] 52) := S0.out.below hb
  have P1 : Hid (PicBox w1 (w.heap.size + 1) n a cap l) := P0.out.below hb
  have R1 : Hid (Blk w1 (w.heap.size + 1 + 1) #[.int .i64 0, .slice Option.none 0 0] 43) := R0.out.below hb
  have HB1 : Hid (Below w.heap.size w w1) := HB.out.trans (hb.mono hs)
  have hs1 := HB1.out.size
  have p0 := Blk.cellAt (i := 0) P1.out.blk rfl
  have p1 := Blk.cellAt (i := 1) P1.out.blk rfl
  simp only [List.getElem_toArray, List.getElem_cons_zero, List.getElem_cons_succ] at p0 p1
  clear hb S0 P0 R0 HB hs YS
  go_wp2_with fail
  refine (IP.call _ P1.out.row).mono ?_
  rintro e w2 ⟨rfl, hb⟩
  have S2 := S1.out.below hb
  have P2 : Hid (PicBox w2 (w.heap.size + 1) n a cap l) := P1.out.below hb
  have R2 : Hid (Blk w2 (w.heap.size + 1 + 1) #[.int .i64 0, .slice Option.none 0 0] 43) := R1.out.below hb
  have HB2 : Hid (Below w.heap.size w w2) := HB1.out.trans (hb.mono hs1)
  have hs2 := HB2.out.size
  have s0 := Blk.cellAt (i := 0) S2 rfl
  have s1 := Blk.cellAt (i := 1) S2 rfl
  simp only [List.getElem_toArray, List.getElem_cons_zero, List.getElem_cons_succ] at s0 s1
  clear hb S1 P1 R1 HB1 hs1 IP p0 p1 S2
  go_wp2_with fail
  refine (BK.call _).mono ?_
  rintro e w3 ⟨rfl, hb⟩
  have P3 : Hid (PicBox w3 (w.heap.size + 1) n a cap l) := P2.out.below hb
  have R3 : Hid (Blk w3 (w.heap.size + 1 + 1) #[.int .i64 0, .slice Option.none 0 0] 43) := R2.out.below hb
  have HB3 : Hid (Below w.heap.size w w3) := HB2.out.trans (hb.mono hs2)
  have hs3 := HB3.out.size
  have lp3 := P3.out.blk.lt
  have p0 := Blk.cellAt (i := 0) P3.out.blk rfl
  simp only [List.getElem_toArray, List.getElem_cons_zero, List.getElem_cons_succ] at p0
  clear hb P2 R2 HB2 hs2 BK s0 s1
  go_wp2_with fail
  generalize hV : w3.alloc (.cells #[.int .i64 bt, .bool bf] 52) = V
  have S4 : Blk V w3.heap.size #[.int .i64 bt, .bool bf] 52 := by rw [← hV]; exact Blk.new _ _ _
  have P4 : PicBox V (w.heap.size + 1) n a cap l := by rw [← hV]; exact ⟨P3.out.blk.alloc, P3.out.row.alloc⟩
  have R4 : Hid (Blk V (w.heap.size + 1 + 1) #[.int .i64 0, .slice Option.none 0 0] 43) := by rw [← hV]; exact R3.out.alloc
  have HB4 : Hid (Below w.heap.size w V) := by rw [← hV]; exact HB3.out.alloc (by omega) _
  have hs4 := HB4.out.size
  have C := HC.out V (w.heap.size + 1) w3.heap.size P4 S4
  clear hV P3 R3 HB3 hs3 lp3 p0 S4 P4
  refine (HP.out V _ _ C).mono ?_
  rintro e w5 ⟨⟨g, cp, ⟨rfl, hown⟩⟩, hb⟩
  have R5 : Hid (Blk w5 (w.heap.size + 1 + 1) #[.int .i64 0, .slice Option.none 0 0] 43) := R4.out.below hb
  have HB5 : Hid (Below w.heap.size w w5) := HB4.out.trans (hb.mono hs4)
  have r0 := Blk.cellAt (i := 0) R5.out rfl
  have r1 := Blk.cellAt (i := 1) R5.out rfl
  have f0 := R5.out.free 0
  have f1 := R5.out.free 1
  have lr := R5.out.lt
  have lr4 := R4.out.lt
  simp only [List.getElem_toArray, List.getElem_cons_zero, List.getElem_cons_succ] at r0 r1
  have RS := (R5.out.set (i := 0) (v := .int .i64 n)).set (i := 1) (v := .slice (some ⟨g, 0, Option.none⟩) m.length cp)
  have e0 := RS.cell 0
  have e1 := RS.cell 1
  simp only [List.setIfInBounds_toArray, List.set_cons_zero, List.set_cons_succ, List.getElem?_toArray, List.getElem?_cons_zero, List.getElem?_cons_succ] at e0 e1
  have HE0 : Hid (((w5.setCell ⟨w.heap.size + 1 + 1, 0, Option.none⟩ (.int .i64 n)).setCell ⟨w.heap.size + 1 + 1, 1, Option.none⟩ (.slice (some ⟨g, 0, Option.none⟩) m.length cp)).cell? ⟨w.heap.size + 1 + 1, 0, Option.none⟩ = some (.int .i64 n)) := e0
  have HE1 : Hid (((w5.setCell ⟨w.heap.size + 1 + 1, 0, Option.none⟩ (.int .i64 n)).setCell ⟨w.heap.size + 1 + 1, 1, Option.none⟩ (.slice (some ⟨g, 0, Option.none⟩) m.length cp)).cell? ⟨w.heap.size + 1 + 1, 1, Option.none⟩ = some (.slice (some ⟨g, 0, Option.none⟩) m.length cp)) := e1
  have HOE : Hid (((w5.setCell ⟨w.heap.size + 1 + 1, 0, Option.none⟩ (.int .i64 n)).setCell ⟨w.heap.size + 1 + 1, 1, Option.none⟩ (.slice (some ⟨g, 0, Option.none⟩) m.length cp)).ownsRow w.heap.size 26 3 (.slice (some ⟨g, 0, Option.none⟩) m.length cp) m.length (litCells m)) := ownsLess (ownsSet (ownsSet hown (by dsimp only; omega)) (by dsimp only; omega)) hs4
  have HBE : Hid (Below w.heap.size w ((w5.setCell ⟨w.heap.size + 1 + 1, 0, Option.none⟩ (.int .i64 n)).setCell ⟨w.heap.size + 1 + 1, 1, Option.none⟩ (.slice (some ⟨g, 0, Option.none⟩) m.length cp))) := (HB5.out.setCell (by dsimp only; omega) _).setCell (by dsimp only; omega) _
  clear hb hown RS e0 e1 C
  go_wp2
  have e0 := HE0.out
  have e1 := HE1.out
  exact bodyPost_ret (v := .agg #[.int .i64 n, .slice (some ⟨g, 0, Option.none⟩) m.length cp]) (by simp [results, Tryz.results22, go_sem, e0, e1]) rfl ⟨⟨g, cp, rfl, HOE.out⟩, HBE.out⟩⟩
end Go.Proofs.YtfdgijmmgllmgaaGreatDoor
namespace Go.Proofs.YtfdgijmmgllmgaaGreatDoor
open Go.ChangeShapes Go.WideShapes Go.ChangeAt Go.RowKit Go.Joins
set_option linter.unusedSimpArgs false
set_option linter.unusedVariables false
set_option maxRecDepth 100000
attribute [local go_sem] store_f
open Ieee
structure PicMade2 (B : Nat) (e : Ending) (w' : World) (n : Nat) (l : List Lit) (g cap : Nat) : Prop where
  ret : e = .returned (.tuple #[.agg #[.int .i64 n, .slice (some ⟨g, 0, Option.none⟩) l.length cap], .bool true])
  own : w'.ownsRow B 26 3 (.slice (some ⟨g, 0, Option.none⟩) l.length cap) l.length (litCells l)
end Go.Proofs.YtfdgijmmgllmgaaGreatDoor
