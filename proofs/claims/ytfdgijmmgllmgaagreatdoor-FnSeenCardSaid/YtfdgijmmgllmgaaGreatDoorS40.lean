/-
  Texts Sm CeDigit Cstep Cfmt Cfo Sn So, joined.
-/
import Derived.RangeFuncNested
import Derived.RangeFuncBound
import Derived.RangeFuncCalls
import Derived.RangeFuncLeaves
import Derived.Shelf.Abstract
import Derived.Shelf.RegionOpen
import Derived.WalkKit
import Derived.OwnWalkIn
import Derived.TacticsInMore
import Derived.LoopNIn
import Derived.LoopIn
import Derived.Test.YtfdgijmmgllmgaaGreatDoorS39
import Derived.Test.YtfdgijmmgllmgaaGreatDoorS06
import Derived.Test.YtfdgijmmgllmgaaGreatDoorS09
import Derived.Test.YtfdgijmmgllmgaaGreatDoorS15
import Derived.Laws.IdiomStrings
import Derived.Test.YtfdgijmmgllmgaaGreatDoorS19
namespace Go.Proofs.YtfdgijmmgllmgaaGreatDoor
open Go.RowKit Go.Shelf
attribute [local go_sem] Oper.semAt_some
def rowNo (m : Nat) (h : 1 ≤ m) (j : Nat) : Fin m := ⟨j % m, Nat.mod_lt _ h⟩
def rowsTo (m : Nat) (h : 1 ≤ m) (k : Nat) : List (Fin m) := (List.range k).map (rowNo m h)
theorem rowsTo_succ (m : Nat) (h : 1 ≤ m) (k : Nat) : rowsTo m h (k + 1) = rowsTo m h k ++ [rowNo m h k] := by simp [rowsTo, List.range_succ]
theorem rowsTo_len (m : Nat) (h : 1 ≤ m) (k : Nat) : (rowsTo m h k).length = k := by simp [rowsTo]
def rowEnc (b o m : Nat) (x : Fin m) : Array Value := #[.slice (some ⟨b, o + x.1 * m * 3, Option.none⟩) m m]
theorem drewBy (A : World) : A.grownBy A.drew none := ⟨rfl, rfl, rfl, Nat.le_refl _, fun _ _ _ => rfl⟩
structure Two (p q : Nat) (W W' : World) : Prop where
  a : W'.heap[p]? = W.heap[p]?
  b : W'.heap[q]? = W.heap[q]?
theorem Two.trans {p q : Nat} {A B C : World} (h : Two p q A B) (k : Two p q B C) : Two p q A C := ⟨k.a.trans h.a, k.b.trans h.b⟩
set_option maxRecDepth 100000 in
set_option maxHeartbeats 4000000 in
theorem chunk1_in (F : Fence) (n : Nat) (h7 : F.fn 91) (hro : F.round = none) (hn : 1 ≤ n) (l B1 B2 b o m L cap : Nat) (h1 : 1 ≤ m) (h8 : m ≤ 8) (hL : L = m * m) (hcap : L ≤ cap) (J Jx : List (Fin m) → World → Prop) (hD : ∀ pre A, J pre A → J pre A.drew)
    (hY : ∀ pre x W, J pre W → pre.length < m → YieldAt F (n - 1) Tryz.prog l (rowEnc b o m x) W fun e W' =>
      (e = .returned (.bool true) ∧ J (pre ++ [x]) W' ∧ Two B1 B2 W W') ∨ (e = .returned (.bool false) ∧ Jx (pre ++ [x]) W'))
    (W : World) (c1 : W.cell? ⟨B1, 0, none⟩ = some (.slice (some ⟨b, o, none⟩) L cap)) (c2 : W.cell? ⟨B2, 0, none⟩ = some (.int .i64 m)) (h0 : J [] W) :
    CallsIn F n Tryz.prog 91 #[.func (.yield l) #[] #[], .pointer (some ⟨B1, 0, none⟩), .pointer (some ⟨B2, 0, none⟩)] W fun e W' => (∃ v, e = .returned v) ∧
      ((∃ ys, ys = rowsTo m h1 m ∧ J ys W') ∨ (∃ pre, (∃ k, k ≤ m ∧ pre = rowsTo m h1 k) ∧ Jx pre W')) := by
  refine callsIn_of_wp Tryz.func91 rfl h7 ?_ hro
  simp only [Tryz.ntmps91, List.size_toArray, List.length_cons, List.length_nil, Nat.reduceAdd, Nat.reduceSub, Array.replicate_succ, Array.replicate_zero, List.push_toArray, List.append_toArray, List.nil_append, List.cons_append]
  gi_wp2
  gi_loopw [4] (fun i wr => ∃ k p : Nat, k ≤ m ∧ p = k * m ∧ i = .int .i64 p ∧ J (rowsTo m h1 k) wr ∧ Two B1 B2 W wr)
    (fun i _ => L - (RowKit.intOf i).toNat)
  case atStart => exact ⟨0, 0, Nat.zero_le _, by simp, rfl, h0, ⟨rfl, rfl⟩⟩
  case round =>
    obtain ⟨k, p, hk, hp, rfl, hJs, hnx⟩ := hrel
    have d1 : wr.cell? ⟨B1, 0, none⟩ = some (.slice (some ⟨b, o, none⟩) L cap) := (World.cell?_of_block (a := ⟨B1, 0, none⟩) hnx.a).trans c1
    have d2 : wr.cell? ⟨B2, 0, none⟩ = some (.int .i64 m) := (World.cell?_of_block (a := ⟨B2, 0, none⟩) hnx.b).trans c2
    have hL64 : L ≤ 64 := by rw [hL]; exact Nat.mul_le_mul h8 h8
    by_cases hlt : k < m
    · have hpm : p + m ≤ L := by rw [hp, hL, ← Nat.succ_mul]; exact Nat.mul_le_mul_right _ hlt
      obtain ⟨fn, tmps, assign, body, hy, hR⟩ := hY _ (rowNo m h1 k) wr.drew (hD _ _ hJs) (by rw [rowsTo_len]; exact hlt)
      have he : rowEnc b o m (rowNo m h1 k) = #[.slice (some ⟨b, o + p * 3, Option.none⟩) m m] := by
        unfold rowEnc rowNo
        simp only [Nat.mod_eq_of_lt hlt]
        rw [hp]
      rw [he] at hy
      have hpl : p < L := by omega
      have HP := Lib.hid hp
      have HL := Lib.hid hL
      clear hp hL he
      gi_wp2
      have hmin : min (m : Int) ((L - p : Nat) : Int) = m := by omega
      gi_region
      all_goals
        gi_wp2
        refine hR.mono ?_
        rintro e W3 (⟨rfl, hJ3, hk3⟩ | ⟨rfl, hJx3⟩)
        · have d3 : W3.cell? ⟨B2, 0, none⟩ = some (.int .i64 m) := (World.cell?_of_block (a := ⟨B2, 0, none⟩) hk3.b).trans d2
          gi_wp2
          go_roundw
          case rel => exact ⟨k + 1, p + m, by omega, by rw [HP.out, Nat.succ_mul], by simp, by rw [rowsTo_succ]; exact hJ3, hnx.trans ⟨hk3.a, hk3.b⟩⟩
          case measure => simp [RowKit.intOf]; omega
        · gi_wp2
          refine bodyPost_ret (results_none rfl _ _ _) rfl ?_
          exact ⟨⟨_, rfl⟩, .inr ⟨_, ⟨k + 1, by omega, (rowsTo_succ _ _ _).symm⟩, hJx3⟩⟩
    · obtain rfl : k = m := by omega
      have hpL : p = L := by rw [hp, hL]
      subst hpL
      clear hp hL
      gi_wp2
      go_end0
      exact ⟨⟨_, rfl⟩, .inl ⟨_, rfl, hJs⟩⟩
theorem chunk_stops (F : Fence) (n : Nat) (h7 : F.fn 91) (hro : F.round = none) (hn : 1 ≤ n) (B1 B2 b o m L cap : Nat) (h1 : 1 ≤ m) (h8 : m ≤ 8) (hL : L = m * m) (hcap : L ≤ cap) (w : World) (hB1 : B1 < w.heap.size) (hB2 : B2 < w.heap.size)
    (c1 : w.cell? ⟨B1, 0, none⟩ = some (.slice (some ⟨b, o, none⟩) L cap)) (c2 : w.cell? ⟨B2, 0, none⟩ = some (.int .i64 m)) :
    SeqStopsK F n Tryz.prog 91 #[.pointer (some ⟨B1, 0, none⟩), .pointer (some ⟨B2, 0, none⟩)] (rowEnc b o m) (Two B1 B2) (fun ys => ys = rowsTo m h1 m) (fun pre => ∃ k, k ≤ m ∧ pre = rowsTo m h1 k) m w := fun l J Jx W hW hJ _ hY h0 =>
  chunk1_in F n h7 hro hn l B1 B2 b o m L cap h1 h8 hL hcap J Jx (fun pre A h => hJ pre A A.drew none h (drewBy A) (fun r e => by cases e)) hY W ((hW.cell (p := ⟨B1, 0, none⟩) hB1).trans c1) ((hW.cell (p := ⟨B2, 0, none⟩) hB2).trans c2) h0
theorem chunk_i (a : Option Addr) (L cap m : Nat) (h1 : 1 ≤ m) (h8 : m ≤ 8) (w : World) :
    Calls Tryz.prog 58 #[.slice a L cap, .int .i64 m] w fun e w' => e = .returned (.func (.func 91) #[] #[.pointer (some ⟨w.heap.size, 0, none⟩), .pointer (some ⟨w.heap.size + 1, 0, none⟩)]) ∧ w' = (w.alloc (.cells #[.slice a L cap] 41)).alloc (.cells #[.int .i64 m] 3) := by
  have hm : ¬ ((m : Int) < 1) := by omega
  clear h1
  go_enter Tryz.func58, Tryz.ntmps58
  go_wp2
  all_goals (go_ret; exact ⟨rfl, rfl⟩)
end Go.Proofs.YtfdgijmmgllmgaaGreatDoor
namespace Go.Proofs.YtfdgijmmgllmgaaGreatDoor
open Go.ChangeShapes Go.WideShapes Go.ChangeAt Go.RowKit Go.Joins
set_option linter.unusedSimpArgs false
set_option linter.unusedVariables false
set_option maxRecDepth 100000
attribute [local go_sem] store_f
theorem eachDigit_i (a0 a1 a2 : Nat) (y0 y1 y2 : Int) (w : World)
    (k0 : ∀ w1 : World, Below w.heap.size w w1 → Calls Tryz.prog 61 #[.float .f32 a0] w1 fun e w' => e = .returned (.int .u8 y0) ∧ Below w1.heap.size w1 w')
    (k1 : ∀ w1 : World, Below w.heap.size w w1 → Calls Tryz.prog 61 #[.float .f32 a1] w1 fun e w' => e = .returned (.int .u8 y1) ∧ Below w1.heap.size w1 w')
    (k2 : ∀ w1 : World, Below w.heap.size w w1 → Calls Tryz.prog 61 #[.float .f32 a2] w1 fun e w' => e = .returned (.int .u8 y2) ∧ Below w1.heap.size w1 w')
    : Calls Tryz.prog 60 #[.agg #[.float .f32 a0, .float .f32 a1, .float .f32 a2], .func (.func 61) #[] #[]] w fun e w' =>
      e = .returned (.agg #[.int .u8 y0, .int .u8 y1, .int .u8 y2]) ∧ Below w.heap.size w w' := by
  have K0 : Hid (∀ w1 : World, Below w.heap.size w w1 → Calls Tryz.prog 61 #[.float .f32 a0] w1 fun e w' => e = .returned (.int .u8 y0) ∧ Below w1.heap.size w1 w') := k0
  have K1 : Hid (∀ w1 : World, Below w.heap.size w w1 → Calls Tryz.prog 61 #[.float .f32 a1] w1 fun e w' => e = .returned (.int .u8 y1) ∧ Below w1.heap.size w1 w') := k1
  have K2 : Hid (∀ w1 : World, Below w.heap.size w w1 → Calls Tryz.prog 61 #[.float .f32 a2] w1 fun e w' => e = .returned (.int .u8 y2) ∧ Below w1.heap.size w1 w') := k2
  clear k0 k1 k2
  have x0 : ∀ w : World, (Instr.index 104 (.agg #[.float .f32 a0, .float .f32 a1, .float .f32 a2]) (.int .i64 0)).run Tryz.prog w = .ok (.float .f32 a0) w := fun _ => by kernel_rfl
  have x1 : ∀ w : World, (Instr.index 104 (.agg #[.float .f32 a0, .float .f32 a1, .float .f32 a2]) (.int .i64 1)).run Tryz.prog w = .ok (.float .f32 a1) w := fun _ => by kernel_rfl
  have x2 : ∀ w : World, (Instr.index 104 (.agg #[.float .f32 a0, .float .f32 a1, .float .f32 a2]) (.int .i64 2)).run Tryz.prog w = .ok (.float .f32 a2) w := fun _ => by kernel_rfl
  go_enter Tryz.func60, Tryz.ntmps60
  go_wp2_with fail
  go_loopw [9] (fun i wr => ∃ k : Int, (k = 0 ∨ k = 1 ∨ k = 2 ∨ k = 3) ∧ i = .int .i64 k ∧ Blk wr (w.heap.size + 2) (row3 (.int .u8 y0) (.int .u8 y1) (.int .u8 y2) (.int .u8 0) k) 113 ∧ Blk wr (w.heap.size + 1) #[.int .u8 0, .int .u8 0, .int .u8 0] 113 ∧ Below w.heap.size w wr)
    (fun i _ => 3 - (intOf i).toNat)
  case atStart => exact ⟨0, Or.inl rfl, rfl, Blk.newAt (by simp), (Blk.newAt (by simp)).alloc, by (repeat' (first | (with_reducible exact Below.refl _ _) | (with_reducible assumption) | (with_reducible refine Below.alloc ?_ ?_ _) | (with_reducible refine Below.drew ?_) | (with_reducible refine Below.setCell ?_ ?_ _) | (with_reducible refine Below.trans ?_ (Below.mono (by assumption) ?_)) | (with_reducible exact Nat.le_refl _) | omega | (simp only [World.size_alloc, World.size_setCell, World.size_drew]; omega) | (simp; omega) | (simp; done)))⟩
  case round =>
    obtain ⟨k, hk, rfl, hB2, hB1, hbel⟩ := hrel
    have l2 := hB2.lt
    have l1 := hB1.lt
    have c20 := hB2.cell 0
    have c21 := hB2.cell 1
    have c22 := hB2.cell 2
    have f20 := hB2.free 0
    have f21 := hB2.free 1
    have f22 := hB2.free 2
    have c10 := hB1.cell 0
    have c11 := hB1.cell 1
    have c12 := hB1.cell 2
    have f10 := hB1.free 0
    have f11 := hB1.free 1
    have f12 := hB1.free 2
    have H2 : Hid (Blk wr (w.heap.size + 2) (row3 (.int .u8 y0) (.int .u8 y1) (.int .u8 y2) (.int .u8 0) k) 113) := hB2
    have H1 : Hid (Blk wr (w.heap.size + 1) #[.int .u8 0, .int .u8 0, .int .u8 0] 113) := hB1
    clear hB2 hB1
    rcases hk with rfl | rfl | rfl | rfl
    all_goals simp [row3] at c20 c21 c22 c10 c11 c12
    · go_wp2_with (first | simp only [x0] | (go_at_call 61; refine (K0.out _ (by (repeat' (first | (with_reducible exact Below.refl _ _) | (with_reducible assumption) | (with_reducible refine Below.alloc ?_ ?_ _) | (with_reducible refine Below.drew ?_) | (with_reducible refine Below.setCell ?_ ?_ _) | (with_reducible refine Below.trans ?_ (Below.mono (by assumption) ?_)) | (with_reducible exact Nat.le_refl _) | omega | (simp only [World.size_alloc, World.size_setCell, World.size_drew]; omega) | (simp; omega) | (simp; done))))).mono ?_; rintro e w1 ⟨rfl, hb⟩; obtain ⟨hc, hf⟩ := bcell hb; have HL := keepL (by (repeat (first | (with_reducible assumption) | (with_reducible apply AllLt.alloc) | (with_reducible apply AllLt.setCell) | (with_reducible apply AllLt.drew) | (with_reducible exact AllLt.nil _)))) hb; have hq := HL; simp only [AllLt, and_true, World.size_alloc, World.size_setCell, World.size_drew] at hq; have hbs := hb.size; try simp only [World.size_alloc, World.size_setCell, World.size_drew] at hbs))
      go_roundw
      case rel => exact ⟨1, by omega, rfl, Blk.setAt (cs := row3 (.int .u8 y0) (.int .u8 y1) (.int .u8 y2) (.int .u8 0) 0) (by omega) (by (repeat (first | (with_reducible exact H2.out) | (with_reducible refine Blk.below ?_ (by assumption)) | (with_reducible refine Blk.alloc ?_) | (with_reducible refine Blk.drew ?_) | (with_reducible refine Blk.other ?_ (by dsimp only; omega))))) rfl, by (repeat (first | (with_reducible exact H1.out) | (with_reducible refine Blk.below ?_ (by assumption)) | (with_reducible refine Blk.alloc ?_) | (with_reducible refine Blk.drew ?_) | (with_reducible refine Blk.other ?_ (by dsimp only; omega)))), by (repeat' (first | (with_reducible exact Below.refl _ _) | (with_reducible assumption) | (with_reducible refine Below.alloc ?_ ?_ _) | (with_reducible refine Below.drew ?_) | (with_reducible refine Below.setCell ?_ ?_ _) | (with_reducible refine Below.trans ?_ (Below.mono (by assumption) ?_)) | (with_reducible exact Nat.le_refl _) | omega | (simp only [World.size_alloc, World.size_setCell, World.size_drew]; omega) | (simp; omega) | (simp; done)))⟩
      case measure => simp [intOf]
    · go_wp2_with (first | simp only [x1] | (go_at_call 61; refine (K1.out _ (by (repeat' (first | (with_reducible exact Below.refl _ _) | (with_reducible assumption) | (with_reducible refine Below.alloc ?_ ?_ _) | (with_reducible refine Below.drew ?_) | (with_reducible refine Below.setCell ?_ ?_ _) | (with_reducible refine Below.trans ?_ (Below.mono (by assumption) ?_)) | (with_reducible exact Nat.le_refl _) | omega | (simp only [World.size_alloc, World.size_setCell, World.size_drew]; omega) | (simp; omega) | (simp; done))))).mono ?_; rintro e w1 ⟨rfl, hb⟩; obtain ⟨hc, hf⟩ := bcell hb; have HL := keepL (by (repeat (first | (with_reducible assumption) | (with_reducible apply AllLt.alloc) | (with_reducible apply AllLt.setCell) | (with_reducible apply AllLt.drew) | (with_reducible exact AllLt.nil _)))) hb; have hq := HL; simp only [AllLt, and_true, World.size_alloc, World.size_setCell, World.size_drew] at hq; have hbs := hb.size; try simp only [World.size_alloc, World.size_setCell, World.size_drew] at hbs))
      go_roundw
      case rel => exact ⟨2, by omega, rfl, Blk.setAt (cs := row3 (.int .u8 y0) (.int .u8 y1) (.int .u8 y2) (.int .u8 0) 1) (by omega) (by (repeat (first | (with_reducible exact H2.out) | (with_reducible refine Blk.below ?_ (by assumption)) | (with_reducible refine Blk.alloc ?_) | (with_reducible refine Blk.drew ?_) | (with_reducible refine Blk.other ?_ (by dsimp only; omega))))) rfl, by (repeat (first | (with_reducible exact H1.out) | (with_reducible refine Blk.below ?_ (by assumption)) | (with_reducible refine Blk.alloc ?_) | (with_reducible refine Blk.drew ?_) | (with_reducible refine Blk.other ?_ (by dsimp only; omega)))), by (repeat' (first | (with_reducible exact Below.refl _ _) | (with_reducible assumption) | (with_reducible refine Below.alloc ?_ ?_ _) | (with_reducible refine Below.drew ?_) | (with_reducible refine Below.setCell ?_ ?_ _) | (with_reducible refine Below.trans ?_ (Below.mono (by assumption) ?_)) | (with_reducible exact Nat.le_refl _) | omega | (simp only [World.size_alloc, World.size_setCell, World.size_drew]; omega) | (simp; omega) | (simp; done)))⟩
      case measure => simp [intOf]
    · go_wp2_with (first | simp only [x2] | (go_at_call 61; refine (K2.out _ (by (repeat' (first | (with_reducible exact Below.refl _ _) | (with_reducible assumption) | (with_reducible refine Below.alloc ?_ ?_ _) | (with_reducible refine Below.drew ?_) | (with_reducible refine Below.setCell ?_ ?_ _) | (with_reducible refine Below.trans ?_ (Below.mono (by assumption) ?_)) | (with_reducible exact Nat.le_refl _) | omega | (simp only [World.size_alloc, World.size_setCell, World.size_drew]; omega) | (simp; omega) | (simp; done))))).mono ?_; rintro e w1 ⟨rfl, hb⟩; obtain ⟨hc, hf⟩ := bcell hb; have HL := keepL (by (repeat (first | (with_reducible assumption) | (with_reducible apply AllLt.alloc) | (with_reducible apply AllLt.setCell) | (with_reducible apply AllLt.drew) | (with_reducible exact AllLt.nil _)))) hb; have hq := HL; simp only [AllLt, and_true, World.size_alloc, World.size_setCell, World.size_drew] at hq; have hbs := hb.size; try simp only [World.size_alloc, World.size_setCell, World.size_drew] at hbs))
      go_roundw
      case rel => exact ⟨3, by omega, rfl, Blk.setAt (cs := row3 (.int .u8 y0) (.int .u8 y1) (.int .u8 y2) (.int .u8 0) 2) (by omega) (by (repeat (first | (with_reducible exact H2.out) | (with_reducible refine Blk.below ?_ (by assumption)) | (with_reducible refine Blk.alloc ?_) | (with_reducible refine Blk.drew ?_) | (with_reducible refine Blk.other ?_ (by dsimp only; omega))))) rfl, by (repeat (first | (with_reducible exact H1.out) | (with_reducible refine Blk.below ?_ (by assumption)) | (with_reducible refine Blk.alloc ?_) | (with_reducible refine Blk.drew ?_) | (with_reducible refine Blk.other ?_ (by dsimp only; omega)))), by (repeat' (first | (with_reducible exact Below.refl _ _) | (with_reducible assumption) | (with_reducible refine Below.alloc ?_ ?_ _) | (with_reducible refine Below.drew ?_) | (with_reducible refine Below.setCell ?_ ?_ _) | (with_reducible refine Below.trans ?_ (Below.mono (by assumption) ?_)) | (with_reducible exact Nat.le_refl _) | omega | (simp only [World.size_alloc, World.size_setCell, World.size_drew]; omega) | (simp; omega) | (simp; done)))⟩
      case measure => simp [intOf]
    · have d0 := (H1.out.set (i := 0) (v := .int .u8 y0)).cell 0
      have d1 := ((H1.out.set (i := 0) (v := .int .u8 y0)).set (i := 1) (v := .int .u8 y1)).cell 1
      have d2 := (((H1.out.set (i := 0) (v := .int .u8 y0)).set (i := 1) (v := .int .u8 y1)).set (i := 2) (v := .int .u8 y2)).cell 2
      simp only [List.setIfInBounds_toArray, List.set_cons_zero, List.set_cons_succ, List.getElem?_toArray, List.getElem?_cons_zero, List.getElem?_cons_succ] at d0 d1 d2
      go_wp2
      exact bodyPost_ret (v := .agg #[.int .u8 y0, .int .u8 y1, .int .u8 y2]) (by simp [results, Tryz.results60, go_sem, d0, d1, d2]) rfl ⟨rfl, by (repeat' (first | (with_reducible exact Below.refl _ _) | (with_reducible assumption) | (with_reducible refine Below.alloc ?_ ?_ _) | (with_reducible refine Below.drew ?_) | (with_reducible refine Below.setCell ?_ ?_ _) | (with_reducible refine Below.trans ?_ (Below.mono (by assumption) ?_)) | (with_reducible exact Nat.le_refl _) | omega | (simp only [World.size_alloc, World.size_setCell, World.size_drew]; omega) | (simp; omega) | (simp; done)))⟩
end Go.Proofs.YtfdgijmmgllmgaaGreatDoor
namespace Go.Proofs.YtfdgijmmgllmgaaGreatDoor
open Ieee
theorem cut_down (neg : Bool) (n drop : Nat) : Toward.cut .zero neg n drop = n / 2 ^ drop := by
  unfold Toward.cut
  simp only [Nat.one_shiftLeft]
  by_cases h : drop ≤ n.log2 + 2
  · rw [Nat.min_eq_left h]; simp
  · rw [Nat.min_eq_right (by omega)]
    have h1 : n < 2 ^ (n.log2 + 1) := Nat.lt_log2_self
    have h2 : 2 ^ (n.log2 + 2) = 2 * 2 ^ (n.log2 + 1) := by rw [Nat.pow_succ, Nat.mul_comm]
    have h3 : 2 ^ (n.log2 + 2) ≤ 2 ^ drop := Nat.pow_le_pow_right (by omega) (by omega)
    have e1 : n / 2 ^ (n.log2 + 2) = 0 := Nat.div_eq_of_lt (by omega)
    have e2 : n / 2 ^ drop = 0 := Nat.div_eq_of_lt (by omega)
    rw [e1, e2]; rfl
def wholeOf (r : Nat) : Nat := magOf F32 (rungOf F32 r) / 2 ^ 149
theorem whole_div (s u k : Nat) : (s <<< ((-(k : Int) + (u : Nat)).toNat)) / 2 ^ ((-(-(k : Int) + (u : Nat))).toNat) = s * 2 ^ u / 2 ^ k := by
  rw [Nat.shiftLeft_eq]
  rcases Nat.le_total k u with h | h
  · have e1 : (-(k : Int) + (u : Nat)).toNat = u - k := by omega
    have e2 : (-(-(k : Int) + (u : Nat))).toNat = 0 := by omega
    have e3 : 2 ^ u = 2 ^ (u - k) * 2 ^ k := by rw [← Nat.pow_add, Nat.sub_add_cancel h]
    rw [e1, e2, e3, ← Nat.mul_assoc, Nat.mul_div_cancel _ (Nat.two_pow_pos k), Nat.pow_zero, Nat.div_one]
  · have e1 : (-(k : Int) + (u : Nat)).toNat = 0 := by omega
    have e2 : (-(-(k : Int) + (u : Nat))).toNat = k - u := by omega
    have e3 : 2 ^ k = 2 ^ (k - u) * 2 ^ u := by rw [← Nat.pow_add, Nat.sub_add_cancel h]
    rw [e1, e2, e3, Nat.mul_div_mul_right _ _ (Nat.two_pow_pos u), Nat.pow_zero, Nat.mul_one]
theorem toInt_fin {r : Nat} (h : Fin32 r) (hn : negOf F32 r = true → rungOf F32 r = 0) (hb : wholeOf r ≤ 16) : floatToIntVal .f32 r .i64 = some (wholeOf r : Int) := by
  have e : (FloatKind.f32.decode r).toInt .zero = some (wholeOf r : Int) := by
    show (F32.read r).toInt .zero = _
    rw [read_fin F32 h]
    simp only [Datum.toInt, Datum.integral]
    rw [cut_down, F32_lp, whole_div]
    show some (signed _ (wholeOf r) 0) = _
    congr 1
    cases hs : negOf F32 r
    · simp [signed]
    · have : wholeOf r = 0 := by unfold wholeOf; rw [hn hs, magOf_zero, Nat.zero_div]
      rw [this]; simp [signed]
  unfold floatToIntVal
  rw [e]
  simp only
  rw [if_pos]
  constructor
  · have : IntKind.i64.min = -9223372036854775808 := by decide
    omega
  · have : IntKind.i64.max = 9223372036854775807 := by decide
    omega
theorem mag_16 : magOf F32 1098907648 = 16 * 2 ^ 149 := by decide +kernel
def by16 (x : Nat) : Nat := roundMul F32 149 (negOf F32 x) (16 * 2 ^ 149 * pm x)
theorem mul16 {x : Nat} (h : Part x) : F32.mul 1098907648 x = some (by16 x) ∧ F32.mul x 1098907648 = some (by16 x) ∧ Fin32 (by16 x) ∧ (negOf F32 (by16 x) = true → rungOf F32 (by16 x) = 0) ∧ wholeOf (by16 x) ≤ 16 := by
  have f16 : Fin32 1098907648 := fin_of_lt (by omega)
  have r16 : rungOf F32 1098907648 = 1098907648 := rung_of_lt (by omega)
  have n16 : negOf F32 1098907648 = false := neg_of_lt (by omega)
  have e1 := mul_fin F32 (q := 149) F32_lp f16 h.fin
  have e2 := mul_fin F32 (q := 149) F32_lp h.fin f16
  rw [r16, n16, mag_16] at e1 e2
  have hN : 16 * 2 ^ 149 * pm x ≤ magOf F32 1098907648 * 2 ^ 149 := by rw [mag_16]; exact Nat.mul_le_mul_left _ h.pm_le
  obtain ⟨e3, l3⟩ := roundMul_eq 149 (negOf F32 x) (16 * 2 ^ 149 * pm x) (R := 1098907648) (by omega) hN
  have eb : by16 x = F32.word (negOf F32 x) (rn F32 (16 * 2 ^ 149 * pm x) 149) := e3
  have hr : rungOf F32 (by16 x) = rn F32 (16 * 2 ^ 149 * pm x) 149 := by rw [eb]; exact rungOf_word F32 _ (by rw [F32_sw]; omega)
  refine ⟨?_, ?_, ?_, ?_, ?_⟩
  · rw [e1]; simp only [Bool.false_xor]; rfl
  · rw [e2, Nat.mul_comm]; simp only [Bool.xor_false]; rfl
  · rw [eb]; exact fin_word _ (by omega)
  · intro hn
    have h1 : negOf F32 (by16 x) = negOf F32 x := by rw [eb]; exact negOf_word F32 _ (by rw [F32_sw]; omega)
    rw [h1] at hn
    have h2 : pm x = 0 := by unfold pm; rw [h.neg hn, magOf_zero]
    rw [hr, h2, Nat.mul_zero, rn_zero]
  · unfold wholeOf
    rw [hr]
    have h1 := magOf_le F32 l3
    rw [mag_16] at h1
    exact Nat.div_le_of_le_mul (Nat.le_trans h1 (Nat.le_of_eq (Nat.mul_comm _ _)))
def stepN (x : Nat) : Nat := min (wholeOf (by16 x)) 15
end Go.Proofs.YtfdgijmmgllmgaaGreatDoor
namespace Go.Proofs.YtfdgijmmgllmgaaGreatDoor
open Go.ChangeShapes Go.WideShapes Go.ChangeAt Go.RowKit Go.Joins
set_option linter.unusedSimpArgs false
set_option linter.unusedVariables false
set_option maxRecDepth 100000
attribute [local go_sem] store_f
open Ieee
def dg (n : Nat) : UInt8 := if n < 10 then UInt8.ofNat (48 + n) else UInt8.ofNat (87 + n)
def dig3 (a b c : Nat) : ByteArray := ⟨#[dg a, dg b, dg c]⟩
theorem up16 {q : Nat} (h : q ≤ 16) : q = 0 ∨ q = 1 ∨ q = 2 ∨ q = 3 ∨ q = 4 ∨ q = 5 ∨ q = 6 ∨ q = 7 ∨ q = 8 ∨ q = 9 ∨ q = 10 ∨ q = 11 ∨ q = 12 ∨ q = 13 ∨ q = 14 ∨ q = 15 ∨ q = 16 := by omega
theorem index_digit (n : Nat) (h : n ≤ 15) (w : World) :
    (Instr.index 9 (.string ⟨#[48, 49, 50, 51, 52, 53, 54, 55, 56, 57, 97, 98, 99, 100, 101, 102]⟩) (.int .i64 n)).run Tryz.prog w = .ok (.int .u8 ((dg n).toNat : Int)) w := by
  rcases up16 (Nat.le_succ_of_le h) with rfl | rfl | rfl | rfl | rfl | rfl | rfl | rfl | rfl | rfl | rfl | rfl | rfl | rfl | rfl | rfl | rfl
  all_goals first | (exfalso; omega) | kernel_rfl
theorem digitOfPart_of {x r q : Nat} (hq : q ≤ 16) (hm : FloatKind.f32.format.mul 1098907648 x = some r) (ht : floatToIntVal .f32 r .i64 = some (q : Int)) (w : World) :
    Calls Tryz.prog 61 #[.float .f32 x] w fun e w' => e = .returned (.int .u8 ((dg (min q 15)).toNat : Int)) ∧ w' = w := by
  have hop := fun t w => run_float_arith (P := Tryz.prog) w .mul t .f32 1098907648 x r hm
  have hcv := fun w => run_convert_float_int (P := Tryz.prog) w 24 3 .f32 .i64 r q (by rw [Tryz.underlying24]; rfl) Tryz.underlying3 ht
  clear hm ht
  by_cases h15 : q ≤ 15
  · have e : min q 15 = q := by omega
    rw [e]
    have hix := fun w => index_digit q h15 w
    have hlt : ¬ (15 : Int) < (q : Int) := by omega
    have hmn : min (q : Int) 15 = (q : Int) := by omega
    go_enter Tryz.func61, Tryz.ntmps61
    go_wp2_with (first | simp only [hop] | simp only [hcv] | simp only [hix])
    all_goals (go_ret; exact ⟨rfl, rfl⟩)
  · obtain rfl : q = 16 := by omega
    go_enter Tryz.func61, Tryz.ntmps61
    go_wp2_with (first | simp only [hop] | simp only [hcv])
    all_goals (go_ret; exact ⟨by first | rfl | decide, rfl⟩)
theorem digitOfPart_i {x : Nat} (h : Part x) (w : World) :
    Calls Tryz.prog 61 #[.float .f32 x] w fun e w' => e = .returned (.int .u8 ((dg (stepN x)).toNat : Int)) ∧ Below w.heap.size w w' := by
  obtain ⟨e1, _, hf, hn, hb⟩ := mul16 h
  refine (digitOfPart_of hb e1 (toInt_fin hf hn hb) w).mono ?_
  rintro e w1 ⟨rfl, rfl⟩
  exact ⟨rfl, Below.refl _ _⟩
theorem three_back (a b c : UInt8) (w1 : World) :
    (convert 22 9 (.slice (some ⟨w1.heap.size, 0, Option.none⟩) 3 3)).run Tryz.prog (w1.alloc (.cells #[.int .u8 a.toNat, .int .u8 b.toNat, .int .u8 c.toNat] 113)) = .ok (.string ⟨#[a, b, c]⟩) (w1.alloc (.cells #[.int .u8 a.toNat, .int .u8 b.toNat, .int .u8 c.toNat] 113)) := by
  exact run_convert_bytes_back (P := Tryz.prog) (w1.alloc (.cells #[.int .u8 a.toNat, .int .u8 b.toNat, .int .u8 c.toNat] 113)) 22 9 5 ⟨w1.heap.size, 0, Option.none⟩ 3 [a, b, c] Tryz.underlying22 Tryz.underlying5 Tryz.underlying9 (by
    intro j hj
    have hj3 : j < 3 := by simpa using hj
    rcases (by omega : j = 0 ∨ j = 1 ∨ j = 2) with rfl | rfl | rfl
    all_goals simp [Addr.add])
end Go.Proofs.YtfdgijmmgllmgaaGreatDoor
namespace Go.Proofs.YtfdgijmmgllmgaaGreatDoor
open Go.ChangeShapes Go.WideShapes Go.ChangeAt Go.RowKit Go.Joins
set_option linter.unusedSimpArgs false
set_option linter.unusedVariables false
set_option maxRecDepth 100000
attribute [local go_sem] store_f
open Ieee
theorem format_i_yes (a b c : Nat) (ha : Part a) (hb : Part b) (hc : Part c) (w : World) :
    Calls Tryz.prog 27 #[colV a b c] w fun e w' => e = .returned (.string (dig3 (stepN a) (stepN b) (stepN c))) ∧ Below w.heap.size w w' := by
  have K : Hid (∀ w : World, Calls Tryz.prog 20 #[colV a b c] w fun e w' => e = .returned (.bool true) ∧ Below w.heap.size w w') := fun w => parts_colB ha hb hc ▸ isColour_i a b c w
  have E : Hid (∀ w : World, Calls Tryz.prog 60 #[.agg #[.float .f32 a, .float .f32 b, .float .f32 c], .func (.func 61) #[] #[]] w fun e w' =>
      e = .returned (.agg #[.int .u8 ((dg (stepN a)).toNat : Int), .int .u8 ((dg (stepN b)).toNat : Int), .int .u8 ((dg (stepN c)).toNat : Int)]) ∧ Below w.heap.size w w') := fun w => eachDigit_i _ _ _ _ _ _ w (fun w1 _ => digitOfPart_i ha w1) (fun w1 _ => digitOfPart_i hb w1) (fun w1 _ => digitOfPart_i hc w1)
  clear ha hb hc
  unfold dig3
  generalize dg (stepN a) = x at E ⊢
  generalize dg (stepN b) = y at E ⊢
  generalize dg (stepN c) = z at E ⊢
  have P : Hid (∀ w : World, Calls Tryz.prog 52 #[colV a b c] w fun e w' => e = .returned (.agg #[.float .f32 a, .float .f32 b, .float .f32 c]) ∧ Below w.heap.size w w') := fun w => partsOf_i a b c w
  have k3 := fun (w1 : World) => three_back x y z w1
  unfold colV at K P ⊢
  go_enter Tryz.func27, Tryz.ntmps27
  go_wp2_with (first | simp only [k3] | (go_at_call 20; refine (K.out _).mono ?_; rintro e w1 ⟨rfl, hb⟩; obtain ⟨hc, hf⟩ := bcell hb; have HL := keepL (by (repeat (first | (with_reducible assumption) | (with_reducible apply AllLt.alloc) | (with_reducible apply AllLt.setCell) | (with_reducible apply AllLt.drew) | (with_reducible exact AllLt.nil _)))) hb; have hq := HL; simp only [AllLt, and_true, World.size_alloc, World.size_setCell, World.size_drew] at hq; have hbs := hb.size; try simp only [World.size_alloc, World.size_setCell, World.size_drew] at hbs) | (go_at_call 52; refine (P.out _).mono ?_; rintro e w2 ⟨rfl, hb⟩; obtain ⟨hc, hf⟩ := bcell hb; have HL := keepL (by (repeat (first | (with_reducible assumption) | (with_reducible apply AllLt.alloc) | (with_reducible apply AllLt.setCell) | (with_reducible apply AllLt.drew) | (with_reducible exact AllLt.nil _)))) hb; have hq := HL; simp only [AllLt, and_true, World.size_alloc, World.size_setCell, World.size_drew] at hq; have hbs := hb.size; try simp only [World.size_alloc, World.size_setCell, World.size_drew] at hbs) | (go_at_call 60; refine (E.out _).mono ?_; rintro e w3 ⟨rfl, hb⟩; obtain ⟨hc, hf⟩ := bcell hb; have HL := keepL (by (repeat (first | (with_reducible assumption) | (with_reducible apply AllLt.alloc) | (with_reducible apply AllLt.setCell) | (with_reducible apply AllLt.drew) | (with_reducible exact AllLt.nil _)))) hb; have hq := HL; simp only [AllLt, and_true, World.size_alloc, World.size_setCell, World.size_drew] at hq; have hbs := hb.size; try simp only [World.size_alloc, World.size_setCell, World.size_drew] at hbs))
  all_goals (go_returns; exact ⟨rfl, by (repeat' (first | (with_reducible exact Below.refl _ _) | (with_reducible assumption) | (with_reducible refine Below.alloc ?_ ?_ _) | (with_reducible refine Below.drew ?_) | (with_reducible refine Below.setCell ?_ ?_ _) | (with_reducible refine Below.trans ?_ (Below.mono (by assumption) ?_)) | (with_reducible exact Nat.le_refl _) | omega | (simp only [World.size_alloc, World.size_setCell, World.size_drew]; omega) | (simp; omega) | (simp; done)))⟩)
end Go.Proofs.YtfdgijmmgllmgaaGreatDoor
namespace Go.Proofs.YtfdgijmmgllmgaaGreatDoor
open Go.ChangeShapes Go.WideShapes Go.ChangeAt Go.RowKit Go.Joins
set_option linter.unusedSimpArgs false
set_option linter.unusedVariables false
set_option maxRecDepth 100000
attribute [local go_sem] store_f
open Go.Shelf Ieee
attribute [local go_sem] Oper.semAt_some
def txt (c : Lit) : ByteArray := dig3 (stepN c.r) (stepN c.g) (stepN c.b)
structure Lit.Wide (c : Lit) : Prop where
  r : c.r < 4294967296
  g : c.g < 4294967296
  b : c.b < 4294967296
theorem fmt_of {c : Lit} (h : c.isB = true) (w : c.Wide) : FmtM c (txt c) := by
  obtain ⟨pa, pb, pc⟩ := colB_parts w.r w.g w.b h
  exact ⟨fun W => format_i_yes c.r c.g c.b pa pb pc W⟩
def rowCells (l : List Lit) (m x : Nat) : List Lit := (l.drop (x * m)).take m
def lineAt (l : List Lit) (m x : Nat) : ByteArray := lineOf (fun k => txt ((rowCells l m x).getD k default)) m
theorem keeps_below {W W' : World} (hb : Below W.heap.size W W') : KeepsOthers W W' := ⟨hb.size, fun k o hk _ => (hb.block k (Array.getElem?_eq_some_iff.1 hk).1).trans hk⟩
def lines (l : List Lit) (m : Nat) (xs : List (Fin m)) : List Value := xs.map fun x => .string (lineAt l m x.1)
structure Lined (w w' : World) (e : Ending) (l : List Lit) (m : Nat) : Prop where
  row : ∃ v, e = .returned v ∧ w'.ownsRow w.heap.size 9 1 v m (texts (lineAt l m) m) ∧ v ≠ .slice Option.none 0 0
  below : Below w.heap.size w w'
theorem lines_snoc (l : List Lit) (m : Nat) (xs : List (Fin m)) (x : Fin m) : lines l m (xs ++ [x]) = lines l m xs ++ [.string (lineAt l m x.1)] := by simp [lines]
theorem lines_all (l : List Lit) (m : Nat) (h : 1 ≤ m) : lines l m (rowsTo m h m) = texts (lineAt l m) m := by
  unfold lines rowsTo texts
  rw [List.map_map]
  apply List.map_congr_left
  intro j hj
  simp only [List.mem_range] at hj
  simp [rowNo, Nat.mod_eq_of_lt hj]
theorem two_own {β : Type} (B p q : Nat) (t t' : TypeId) (u u' : Value) : OwnFrom B (fun (_ : β) W => Boxed W p t u ∧ Boxed W q t' u') := fun s A C row hs hg hr =>
  ⟨hs.1.kept hg (fun e => by obtain ⟨_, o, ho, hc⟩ := hr _ e.symm; rw [show A.heap[p]? = _ from hs.1] at ho; cases ho; cases hc), hs.2.kept hg (fun e => by obtain ⟨_, o, ho, hc⟩ := hr _ e.symm; rw [show A.heap[q]? = _ from hs.2] at ho; cases ho; cases hc)⟩
attribute [-go_sem] Builtin.append_
set_option maxHeartbeats 16000000 in
theorem formatPic {m : Nat} {b o cap : Nat} {l : List Lit} (h1 : 1 ≤ m) (h8 : m ≤ 8) (hl : l.length = m * m) (hcap : l.length ≤ cap) (P : PicIs m (some ⟨b, o, Option.none⟩) cap l true)
    (hrow : ∀ x, x < m → ∀ (W : World), LitRow W b o l → b < W.heap.size → Calls Tryz.prog 59 #[.slice (some ⟨b, o + x * m * 3, Option.none⟩) m m] W fun e W' => e = .returned (.string (lineAt l m x)) ∧ Below W.heap.size W W')
    (w : World) (hr : LitRow w b o l) (hbw : b < w.heap.size) :
    Calls Tryz.prog 25 #[.agg #[.int .i64 m, .slice (some ⟨b, o, Option.none⟩) l.length cap]] w fun e w' => Lined w w' e l m := by
  have PH := Lib.hid P.call
  have HR := Lib.hid hr
  have RH := Lib.hid hrow
  have HL := Lib.hid hl
  clear hr hrow P hl
  obtain ⟨i0, hi, hz0, hz1, hz2⟩ := info_parts infoStr
  refine (callsIn_wide (n := 3)).1 ?_
  refine callsIn_of_wp_marks Tryz.func25 rfl trivial ?_ rfl
  simp only [Tryz.ntmps25, List.size_toArray, List.length_cons, List.length_nil, Nat.reduceAdd, Nat.reduceSub, Array.replicate_succ, Array.replicate_zero, List.push_toArray, List.append_toArray, List.nil_append, List.cons_append]
  gi_wp2_with fail
  obtain ⟨X, hX⟩ : ∃ X, ((w.alloc (.cells #[.int .i64 m, .slice (some ⟨b, o, Option.none⟩) l.length cap] 43)).alloc (.cells #[] 9)).alloc (.cells #[.slice (some ⟨w.heap.size + 1, 0, Option.none⟩) 0 0] 53) = X := ⟨_, rfl⟩
  rw [hX]
  have M0 : Hid (Blk X w.heap.size #[.int .i64 m, .slice (some ⟨b, o, Option.none⟩) l.length cap] 43) := by rw [← hX]; exact ((Blk.new _ _ _).alloc).alloc
  have N0 : Hid (Blk X (w.heap.size + 1 + 1) #[.slice (some ⟨w.heap.size + 1, 0, Option.none⟩) 0 0] 53) := by rw [← hX]; exact Blk.newAt (by simp)
  have O0 : Hid (X.ownsRow w.heap.size 9 1 (.slice (some ⟨w.heap.size + 1, 0, Option.none⟩) 0 0) 0 []) := by
    rw [← hX]
    refine World.ownsRow.alloc ?_ _
    have h := World.ownsRow_lit (base := w.heap.size) (e := 9) (size := 1) (w.alloc (.cells #[.int .i64 m, .slice (some ⟨b, o, Option.none⟩) l.length cap] 43)) #[] 0 (by simp) (by unfold maxLen; omega) (by simp)
    simpa using h
  have G0 : Hid (Below w.heap.size w X) := by rw [← hX]; show Below w.heap.size w _; (repeat' (first | (with_reducible exact Below.refl _ _) | (with_reducible assumption) | (with_reducible refine Below.alloc ?_ ?_ _) | (with_reducible refine Below.drew ?_) | (with_reducible refine Below.setCell ?_ ?_ _) | (with_reducible refine Below.trans ?_ (Below.mono (by assumption) ?_)) | (with_reducible exact Nat.le_refl _) | omega | (simp only [World.size_alloc, World.size_setCell, World.size_drew]; omega) | (simp; omega) | (simp; done)))
  have hs : w.heap.size + 3 ≤ X.heap.size := by rw [← hX]; simp
  clear hX
  refine ⟨trivial, ?_⟩
  refine (callsIn_wide.2 (PH.out X (.inr ⟨b, o, rfl, HR.out.below G0.out⟩))).mono ?_
  rintro e w1 ⟨rfl, hb⟩
  have M1 := M0.out.below hb
  have N1 := N0.out.below hb
  have O1 := ownsBelow hb O0.out
  have G1 := G0.out.trans (hb.mono (by omega))
  have hs1 := hb.size
  have m0 := Blk.cellAt (i := 0) M1 rfl
  have m1 := Blk.cellAt (i := 1) M1 rfl
  simp only [List.getElem_toArray, List.getElem_cons_zero, List.getElem_cons_succ] at m0 m1
  have MH := Lib.hid M1
  have NH := Lib.hid N1
  have OH := Lib.hid O1
  have GH := Lib.hid G1
  clear hb M0 N0 O0 G0 PH M1 N1 O1 G1
  gi_wp2_with (refine ⟨trivial, ?_⟩; gi_at_call 58; refine (callsIn_wide.2 (chunk_i _ _ _ m h1 h8 _)).mono ?_; rintro e w2 ⟨rfl, rfl⟩)
  obtain ⟨W2, hW2⟩ : ∃ W2, (w1.alloc (.cells #[.slice (some ⟨b, o, Option.none⟩) l.length cap] 41)).alloc (.cells #[.int .i64 m] 3) = W2 := ⟨_, rfl⟩
  rw [hW2]
  have e1 : W2.cell? ⟨w1.heap.size, 0, Option.none⟩ = some (.slice (some ⟨b, o, Option.none⟩) l.length cap) := by rw [← hW2]; simp
  have e2 : W2.cell? ⟨w1.heap.size + 1, 0, Option.none⟩ = some (.int .i64 m) := by rw [← hW2]; simp
  have hs2 : w1.heap.size + 2 ≤ W2.heap.size := by rw [← hW2]; simp
  have bN : Boxed W2 (w.heap.size + 1 + 1) 53 (.slice (some ⟨w.heap.size + 1, 0, Option.none⟩) 0 0) := by rw [← hW2]; exact Boxed.alloc (Boxed.alloc NH.out _) _
  have b1 : Boxed W2 (w1.heap.size) 41 (.slice (some ⟨b, o, Option.none⟩) l.length cap) := by rw [← hW2]; exact Boxed.alloc (Boxed.new _ _ _) _
  have b2 : Boxed W2 (w1.heap.size + 1) 3 (.int .i64 m) := by
    rw [← hW2]
    have h := Boxed.new (w1.alloc (.cells #[.slice (some ⟨b, o, Option.none⟩) l.length cap] 41)) 3 (.int .i64 m)
    rwa [World.size_alloc] at h
  have hO : W2.ownsRow w.heap.size 9 1 (.slice (some ⟨w.heap.size + 1, 0, Option.none⟩) 0 0) 0 [] := by rw [← hW2]; exact (OH.out.alloc _).alloc _
  have hG : Below w.heap.size w W2 := by rw [← hW2]; exact (GH.out.alloc (by omega) _).alloc (by simp; omega) _
  clear hW2 MH NH OH GH m0 m1
  refine wpIn_rangeFunc_ownF rfl (by omega) (gf := 91) (lb := #[.pointer (some ⟨w1.heap.size, 0, Option.none⟩), .pointer (some ⟨w1.heap.size + 1, 0, Option.none⟩)]) rfl trivial (enters_of Tryz.func91 (by kernel_rfl) rfl)
    (chunk_stops Fence.wide 2 trivial rfl (by omega) w1.heap.size (w1.heap.size + 1) b o m l.length cap h1 h8 HL.out hcap W2 (by omega) (by omega) e1 e2)
    (fun h k => h.trans k) (fun W q u u' hq h ha hw => ⟨(belowK_b (w := W2) (Nat.le_refl _) W q u u' hq h ha hw).block _ (by omega), (belowK_b (w := W2) (Nat.le_refl _) W q u u' hq h ha hw).block _ (by omega)⟩) (Below.refl _ _) (fun _ => rfl)
    (fun pre W => (∃ v, Boxed W (w.heap.size + 1 + 1) 53 v ∧ W.ownsRow w.heap.size 9 1 v pre.length (lines l m pre) ∧ v ≠ .slice Option.none 0 0) ∧ Below w.heap.size w W ∧ Boxed W (w1.heap.size) 41 (.slice (some ⟨b, o, Option.none⟩) l.length cap) ∧ Boxed W (w1.heap.size + 1) 3 (.int .i64 m))
    (fun _ _ _ => False)
    (OwnFrom.and (Own.from (holdsRow_own w.heap.size (w.heap.size + 1 + 1) 53 9 1 (fun pre : List (Fin m) => pre.length) (fun pre => lines l m pre) (fun _ v => v ≠ .slice Option.none 0 0)) _) (OwnFrom.and (ownFrom_below (Nat.le_refl _) (by omega)) (two_own _ _ _ _ _ _ _)))
    (fun _ _ _ _ _ hs _ _ => hs)
    ⟨⟨_, bN, by simpa [lines] using hO, by simp⟩, hG, b1, b2⟩
    (fun x => { tmps := #[.agg #[.int .i64 m, .slice (some ⟨b, o, Option.none⟩) l.length cap], .pointer (some ⟨w.heap.size, 0, Option.none⟩), .slice Option.none 0 0, .pointer (some ⟨w.heap.size + 1 + 1, 0, Option.none⟩), .slice (some ⟨b, o + x.1 * m * 3, Option.none⟩) m m, .slice (some ⟨w.heap.size + 1, 0, Option.none⟩) 0 0, .agg #[.int .i64 m, .slice (some ⟨b, o, Option.none⟩) l.length cap], .bool true, .bool false, undef, .pointer (some ⟨w.heap.size, 1, Option.none⟩), .slice (some ⟨b, o, Option.none⟩) l.length cap, .pointer (some ⟨w.heap.size, 0, Option.none⟩), .int .i64 m, .func (.func 91) #[] #[.pointer (some ⟨w1.heap.size, 0, Option.none⟩), .pointer (some ⟨w1.heap.size + 1, 0, Option.none⟩)], .slice (some ⟨b, o + x.1 * m * 3, Option.none⟩) m m, undef, undef, undef, undef, undef, undef], defers := [] }) ?assign ?body ?done ?stop
  case assign =>
    intro q x W K hK
    simp only [rowEnc]
    gi_wp2
    exact hK
  case body =>
    rintro q pre x W ⟨⟨v, hv, hrw, hnn⟩, hB, x1, x2⟩ hlt
    have hmx : Tryz.prog.follows .mixedOrders = true := by kernel_rfl
    have hc := hv.cell
    have hf := hv.frozen
    have hS := hB.size
    gi_wp2
    gi_region_with_o (first | (refine ⟨trivial, ?_⟩; gi_at_call 59; refine (CallsIn.inRound q (callsIn_wide.2 (RH.out x.1 x.2 _ (HR.out.below (by first | exact hB | exact hB.drew)) (by first | exact Nat.lt_of_lt_of_le hbw hS)))).mono ?_; rintro e w3 ⟨rfl, hb3⟩; have hrw3 := ownsBelow hb3 hrw.drew; have hv3 : Boxed w3 (w.heap.size + 1 + 1) 53 v := (hb3.block _ hv.lt).trans hv; have hc3 := hv3.cell; have hl3 := hv3.lt; have hf3 := hv3.frozen; have hs3 : W.heap.size ≤ w3.heap.size := hb3.size; obtain ⟨v', w4, hrun, hown', hgrow, _⟩ := run_append_own (P := Tryz.prog) (w3.alloc (.cells #[.string (lineAt l m x.1)] 9)) w.heap.size 53 53 9 i0 (.string ⟨#[]⟩) 1 16 Tryz.underlying53 hi hz0 hz1 hz2 rfl (by decide) v pre.length (lines l m pre) (hrw3.alloc _) ⟨w3.heap.size, 0, Option.none⟩ 1 1 [.string (lineAt l m x.1)] rfl (cell_one_new _ _ _) (by simp [Value.oneCell']) (by unfold maxLen; omega) (by omega) (by simp; omega); obtain ⟨g', cap', rfl⟩ := ownsRow_succ hown'; obtain ⟨hv1, hv2, hr2, hk2, hb2⟩ := hv3.appended (by decide) hrw3 (by omega) (by omega) hown' hgrow; have hc1 := hv1.cell; have hf1 := hv1.frozen))
    all_goals
      gi_wp2
      have y1 : Boxed w3 (w1.heap.size) 41 (.slice (some ⟨b, o, Option.none⟩) l.length cap) := (hb3.block _ x1.lt).trans x1
      have y2 : Boxed w3 (w1.heap.size + 1) 3 (.int .i64 m) := (hb3.block _ x2.lt).trans x2
      have z1 := ((y1.alloc _).kept hgrow (y1.not_row (by decide) hrw3)).other (B' := w.heap.size + 1 + 1) (by omega) (.slice (some ⟨g', 0, Option.none⟩) (pre.length + 1) cap')
      have z2 := ((y2.alloc _).kept hgrow (y2.not_row (by decide) hrw3)).other (B' := w.heap.size + 1 + 1) (by omega) (.slice (some ⟨g', 0, Option.none⟩) (pre.length + 1) cap')
      have hbW : Below w.heap.size W w3 := ((Below.refl w.heap.size W).drew).trans (hb3.mono hS)
      exact ⟨((KeepsOthers.drew _).trans (keeps_below hb3)).trans hk2, ⟨z1.trans x1.symm, z2.trans x2.symm⟩, ⟨_, hv2, by rw [lines_snoc]; simpa using hr2, by simp⟩, (hB.trans hbW).trans hb2, z1, z2⟩
  case done =>
    rintro D ys W hD rfl ⟨⟨v, hv, hrw, hnn⟩, hB, _⟩ hK
    have hc := hv.cell
    gi_wp2
    refine ⟨by simp, .inl ⟨_, _, rfl, run_takeDeferred hK, ?_⟩⟩
    refine ⟨_, results_tmp rfl _ _ _, ⟨v, rfl, ?_, hnn⟩, hB.trans (belowK_b (w := w) (Nat.le_refl _) W D _ _ (by omega) hK rfl rfl)⟩
    rw [lines_all] at hrw
    rw [rowsTo_len] at hrw
    exact ownsRow_putObj hrw _ hK rfl
  case stop =>
    rintro D c pre W _ _ h _
    exact h.elim
end Go.Proofs.YtfdgijmmgllmgaaGreatDoor
namespace Go.Proofs.YtfdgijmmgllmgaaGreatDoor
open Go.ChangeShapes Go.WideShapes Go.ChangeAt Go.RowKit Go.Joins
set_option linter.unusedSimpArgs false
set_option linter.unusedVariables false
set_option maxRecDepth 100000
attribute [local go_sem] store_f
open Ieee
theorem rowOf_len {l : List Lit} {m x : Nat} (hl : l.length = m * m) (hx : x < m) : (rowCells l m x).length = m := by
  have h : x * m + m ≤ m * m := by rw [← Nat.succ_mul]; exact Nat.mul_le_mul_right _ hx
  simp [rowCells]; omega
theorem rowOf_get {l : List Lit} {m x k : Nat} (hk : k < m) : (rowCells l m x).getD k default = l.getD (x * m + k) default := by
  unfold rowCells
  rw [List.getD_eq_getElem?_getD, List.getD_eq_getElem?_getD, List.getElem?_take_of_lt hk, List.getElem?_drop]
theorem join3 (xs : List ByteArray) (h : ∀ x ∈ xs, x.data.toList.length = 3) : (Lib.join (xs.map (·.data.toList)) [32]).length ≤ 4 * xs.length := by
  cases xs with
  | nil => simp [Lib.join, List.intercalate]
  | cons y r =>
    rw [List.map_cons, Lib.join_cons, List.length_append, h y (by simp)]
    have h2 : ∀ (r : List ByteArray), (∀ x ∈ r, x.data.toList.length = 3) → (Lib.joinTail [32] (r.map (·.data.toList))).length = 4 * r.length := by
      intro r hr
      induction r with
      | nil => simp [Lib.joinTail]
      | cons z t ih =>
        have := ih (fun x hx => hr x (by simp [hx]))
        have hz := hr z (by simp)
        simp [Lib.joinTail] at this ⊢
        simp at hz
        omega
    rw [h2 r (fun x hx => h x (by simp [hx]))]
    simp; omega
theorem txt_len (c : Lit) : (txt c).data.toList.length = 3 := by simp [txt, dig3]
theorem rowRun {l : List Lit} {m x b o : Nat} {W : World} (hl : l.length = m * m) (hx : x < m) (h : LitRow W b o l) (hb : b < W.heap.size) : LitRun W b (o + x * m * 3) (rowCells l m x) := by
  have hm : x * m + m ≤ m * m := by rw [← Nat.succ_mul]; exact Nat.mul_le_mul_right _ hx
  have e : ∀ k, o + x * m * 3 + k * 3 = o + (x * m + k) * 3 := fun k => by omega
  refine ⟨hb, fun k hk => ?_, fun k hk => ?_, fun k hk => ?_⟩ <;> rw [rowOf_len hl hx] at hk <;> rw [rowOf_get hk, e k]
  · exact (h (x * m + k) (by omega)).1
  · exact (h (x * m + k) (by omega)).2.1
  · exact (h (x * m + k) (by omega)).2.2
theorem fmtRowAt {l : List Lit} {m x b o : Nat} (h1 : 1 ≤ m) (h8 : m ≤ 8) (hl : l.length = m * m) (hx : x < m) (hf : ∀ k, k < l.length → FmtM (l.getD k default) (txt (l.getD k default))) (W : World) (h : LitRow W b o l) (hb : b < W.heap.size) :
    Calls Tryz.prog 59 #[.slice (some ⟨b, o + x * m * 3, Option.none⟩) m m] W fun e W' => e = .returned (.string (lineAt l m x)) ∧ Below W.heap.size W W' := by
  have hm : x * m + m ≤ m * m := by rw [← Nat.succ_mul]; exact Nat.mul_le_mul_right _ hx
  have hn := rowOf_len hl hx
  have hs : Shorts (fun k => txt ((rowCells l m x).getD k default)) (rowCells l m x).length := ⟨by omega, by
    have h3 := join3 ((List.range (rowCells l m x).length).map fun k => txt ((rowCells l m x).getD k default)) (fun y hy => by
      obtain ⟨k, _, rfl⟩ := List.mem_map.1 hy
      exact txt_len _)
    simp only [List.length_map, List.length_range] at h3
    omega⟩
  have h4 := fmtRow (l := rowCells l m x) (f := fun k => txt ((rowCells l m x).getD k default)) (by omega) hs (fun k hk => by
    rw [hn] at hk
    rw [rowOf_get hk]
    exact hf _ (by omega)) b (o + x * m * 3) m W (rowRun hl hx h hb)
  rw [hn] at h4
  exact h4
end Go.Proofs.YtfdgijmmgllmgaaGreatDoor
