/-
  Texts of this proof, joined: Er, Na, Nb, Nc, Nd, Ne.
-/
import Derived.Test.YtlnikapkheldeaaK12
import Derived.Test.YtlnikapkheldeaaK19
import Derived.Maps.AppendAt
import Derived.Test.YtlnikapkheldeaaK22
import Derived.Maps.OwnSet
import Derived.Maps.Views
import Derived.DeepKeys4
import Derived.WideKeyPair
import Derived.Deep.OwnRows
import Derived.Deep.QuietTactic
import Derived.BigQuiet
/-
  First cells of a grid: cellsThatAreLeast, and the model's FirstCells.
-/
namespace Go.Proofs.Ytlnikapkheldeaa
open Go.ChangeShapes Go.WideShapes Go.ChangeAt Go.RowKit Go.Joins
set_option linter.unusedSimpArgs false
set_option linter.unusedVariables false
set_option maxRecDepth 100000
attribute [local go_sem] store_f
open Ieee

/-- The first cells among the first j. -/
def firstsTo (kind : Int) (n j : Nat) : List Int := ((List.range j).filter fun k => leastN kind n k == k).map fun (k : Nat) => (k : Int)
theorem firstsTo_yes {kind : Int} {n j : Nat} (h : leastN kind n j = j) : firstsTo kind n (j + 1) = firstsTo kind n j ++ [(j : Int)] := by
  unfold firstsTo
  rw [List.range_succ, List.filter_append]
  simp [h]
theorem firstsTo_no {kind : Int} {n j : Nat} (h : leastN kind n j ≠ j) : firstsTo kind n (j + 1) = firstsTo kind n j := by
  unfold firstsTo
  rw [List.range_succ, List.filter_append]
  simp [h]
theorem firstsTo_le (kind : Int) (n j : Nat) : (firstsTo kind n j).length ≤ j := by
  unfold firstsTo
  rw [List.length_map]
  exact Nat.le_trans (List.length_filter_le _ _) (by simp)
theorem infoI : (Try.prog.info? 3).map (fun i => (i.zero, i.size, i.bytes)) = some (some (.int .i64 0), 1, 8) := by kernel_rfl
/-- A list of numbers that a call has made. -/
structure IntsMade (B : Nat) (w' : World) (z : List Int) (g cap : Nat) : Prop where
  own : w'.ownsRow B 3 1 (.slice (some ⟨g, 0, Option.none⟩) z.length cap) z.length (z.map (Value.int .i64))
structure LeastsM (kind n : Int) (z : List Int) : Prop where
  call : ∀ w : World, Calls Try.prog 146 #[.agg #[.int .i64 kind, .int .i64 n]] w fun e w' => (∃ g cp, e = .returned (.slice (some ⟨g, 0, Option.none⟩) z.length cp) ∧ IntsMade w.heap.size w' z g cp) ∧ Below w.heap.size w w'
set_option maxHeartbeats 8000000 in
theorem leastsM {n : Nat} (kind : Int) (h1 : 1 ≤ n) (h8 : n ≤ 8) : LeastsM kind n (firstsTo kind n (n * n)) := ⟨fun w => by
  obtain ⟨N, hN⟩ : ∃ N : Nat, N = n * n := ⟨_, rfl⟩
  have hN64 : N ≤ 64 := by rw [hN]; exact Nat.le_trans (Nat.mul_le_mul h8 h8) (by omega)
  have hNN : (n : Int) * (n : Int) = (N : Int) := by rw [hN]; simp
  have HL : Hid (∀ k, k < N → LeastM kind n k (leastN kind n k)) := fun k hk => leastM kind h1 h8 (by omega)
  have HY : Hid (∀ j, leastN kind n j = j → firstsTo kind n (j + 1) = firstsTo kind n j ++ [(j : Int)]) := fun j h => firstsTo_yes h
  have HNO : Hid (∀ j, leastN kind n j ≠ j → firstsTo kind n (j + 1) = firstsTo kind n j) := fun j h => firstsTo_no h
  have HLE : Hid (∀ j, (firstsTo kind n j).length ≤ j) := firstsTo_le kind n
  have H0 : Hid (firstsTo kind n 0 = []) := rfl
  obtain ⟨i0, hi, hz0, hz1, hz2⟩ := info_parts infoI
  rw [← hN]
  generalize firstsTo kind n = M at *
  clear hN
  go_enter Try.func146, Try.ntmps146
  go_wp2_with fail
  generalize hW : (w.alloc (.cells #[.int .i64 kind, .int .i64 n] 127)).alloc (.cells #[] 3) = X
  have P0 : Hid (Blk X w.heap.size #[.int .i64 kind, .int .i64 n] 127) := by rw [← hW]; exact (Blk.new _ _ _).alloc
  have O0 : Hid (X.ownsRow (w.heap.size + 1) 3 1 (.slice (some ⟨w.heap.size + 1, 0, Option.none⟩) 0 0) 0 []) := by
    rw [← hW]
    have h := World.ownsRow_lit (w.alloc (.cells #[.int .i64 kind, .int .i64 n] 127)) (base := w.heap.size + 1) (e := 3) (size := 1) #[] 0 (by simp) (by unfold maxLen; omega) rfl
    simp only [World.size_alloc] at h
    exact h
  have HB : Hid (Below w.heap.size w X) := by rw [← hW]; show Below w.heap.size w _; (repeat' (first | (with_reducible exact Below.refl _ _) | (with_reducible assumption) | (with_reducible refine Below.alloc ?_ ?_ _) | (with_reducible refine Below.drew ?_) | (with_reducible refine Below.setCell ?_ ?_ _) | (with_reducible refine Below.trans ?_ (Below.mono (by assumption) ?_)) | (with_reducible exact Nat.le_refl _) | omega | (simp only [World.size_alloc, World.size_setCell, World.size_drew]; omega) | (simp; omega) | (simp; done)))
  clear hW
  go_loopw [3, 11] (fun v i wr => ∃ j : Nat, j ≤ N ∧ i = .int .i64 j ∧ (wr.ownsRow (w.heap.size + 1) 3 1 v (M j).length ((M j).map (Value.int .i64)) ∧ v ≠ .slice Option.none 0 0) ∧ Blk wr w.heap.size #[.int .i64 kind, .int .i64 n] 127 ∧ Below w.heap.size w wr) (fun _ i _ => N - (intOf i).toNat)
  case atStart => exact ⟨0, by omega, rfl, ⟨by rw [H0.out]; exact O0.out, by simp⟩, P0.out, HB.out⟩
  case round =>
    obtain ⟨j, hj, rfl, ⟨hown, hnn⟩, hP, hbel⟩ := hrel
    have HN : Hid (u3 ≠ .slice Option.none 0 0) := hnn
    have HO : Hid (wr.ownsRow (w.heap.size + 1) 3 1 u3 (M j).length ((M j).map (Value.int .i64))) := hown
    have P1 : Hid (Blk wr w.heap.size #[.int .i64 kind, .int .i64 n] 127) := hP
    have B1 : Hid (Below w.heap.size w wr) := hbel
    have hle := HLE.out j
    clear hown hnn hP hbel P0 O0 HB
    by_cases hlt : j < N
    · have K := HL.out j hlt
      have hy := HY.out j
      have hno := HNO.out j
      generalize leastN kind n j = c at K hy hno
      have HYC : Hid (c = j → M (j + 1) = M j ++ [(j : Int)]) := hy
      have HNC : Hid (c ≠ j → M (j + 1) = M j) := hno
      clear hy hno
      (have p0 := Blk.cellAt (i := 0) P1.out rfl; have p1 := Blk.cellAt (i := 1) P1.out rfl; simp only [List.getElem_toArray, List.getElem_cons_zero, List.getElem_cons_succ] at p0 p1)
      go_wp2_with fail
      refine (K.call _).mono ?_
      rintro e w2 ⟨rfl, hb⟩
      have P2 : Hid (Blk w2 w.heap.size #[.int .i64 kind, .int .i64 n] 127) := P1.out.below hb
      have B2 : Hid (Below w.heap.size w w2) := B1.out.trans (hb.mono B1.out.size)
      have O2 : Hid (w2.ownsRow (w.heap.size + 1) 3 1 u3 (M j).length ((M j).map (Value.int .i64))) := ownsBelow hb HO.out
      clear hb p0 p1 P1 B1 HO K
      by_cases hc : c = j
      · have hcc : ((c : Int) == (j : Int)) = true := by simp [hc]
        have hown := O2.out
        have hb2 := B2.out
        have hl2 := P2.out.lt
        go_wp2_with (at_builtin; go_loud (refine wpList_append_own _ rfl _ _ 59 rfl (w.heap.size + 1) 3 i0 (.int .i64 0) 1 8 Try.underlying59 hi hz0 hz1 hz2 rfl (by decide) _ (M j).length ((M j).map (Value.int .i64)) rfl ?hown ⟨w2.heap.size, 0, Option.none⟩ 1 1 [.int .i64 j] rfl rfl ?c1 ?c2 ?c3 ?c4 ?c5 ?_))
        case hown => (change World.ownsRow _ _ _ _ u3 _ _; (repeat (first | (with_reducible assumption) | (with_reducible refine World.ownsRow.alloc ?_ _) | (with_reducible refine World.ownsRow.drew ?_) | (with_reducible refine ownsBelow (by assumption) ?_))))
        case c1 =>
          intro j' u hj
          rcases j' with _ | j' <;> simp at hj <;> subst hj <;> simp [Addr.add]
        case c2 =>
          intro u hu
          simp at hu
          rcases hu with rfl
          rfl
        case c3 => (unfold maxLen; omega)
        case c4 => omega
        case c5 => (simp; omega)
        intro v' w3 hown' hgrow hvn
        have HV : Hid (v' ≠ .slice Option.none 0 0) := hvn
        have P3 : Hid (Blk w3 w.heap.size #[.int .i64 kind, .int .i64 n] 127) := (hgrow.block w.heap.size (by simp; omega) (fun e => by have := (hown.lt _ e.symm).1; omega)).trans (Blk.alloc P2.out)
        have B3 : Hid (Below w.heap.size w w3) := Below.grown (hb2.alloc hb2.size _) hgrow (by have := hb2.size; simp; omega) (fun q hq => by have := (hown.lt q hq).1; omega)
        have O3 : Hid (w3.ownsRow (w.heap.size + 1) 3 1 v' ((M j).length + 1) ((M j).map (Value.int .i64) ++ [.int .i64 j])) := hown'
        have hm := HYC.out hc
        clear hown' hgrow hvn hown hb2 hcc
        go_wp2
        go_roundw
        case rel => exact ⟨j + 1, by omega, by go_num, ⟨by rw [hm]; simpa using O3.out, HV.out⟩, P3.out, B3.out⟩
        case measure => simp [intOf]; omega
      · have hcc : ((c : Int) == (j : Int)) = false := by simp; omega
        have hm := HNC.out hc
        go_wp2
        go_roundw
        case rel => exact ⟨j + 1, by omega, by go_num, ⟨by rw [hm]; exact O2.out, HN.out⟩, P2.out, B2.out⟩
        case measure => simp [intOf]; omega
    · have hjm : j = N := by omega
      subst hjm
      rcases ownsRow_forms HO.out with ⟨e, _⟩ | ⟨g, cp, rfl⟩
      · exact absurd e HN.out
      go_wp2
      go_ret
      exact ⟨⟨g, cp, rfl, ⟨ownsLess HO.out (show w.heap.size ≤ w.heap.size + 1 by omega)⟩⟩, B1.out⟩⟩
end Go.Proofs.Ytlnikapkheldeaa

/-
  A map from kind and size to a list: what is stored under a key is read back.
-/
namespace Go.Proofs.Ytlnikapkheldeaa
open Go.ChangeShapes Go.WideShapes Go.ChangeAt Go.RowKit Go.Joins
set_option linter.unusedSimpArgs false
set_option linter.unusedVariables false
set_option maxRecDepth 100000
attribute [local go_sem] store_f
open Go.WideMaps Go.WideElems Go.Maps

theorem laidOutA : laidOutB Try.prog = true := by kernel_rfl
theorem gridRow : (127 : TypeId) < Try.prog.types.size := of_decide_eq_true (by kernel_rfl)
theorem gridWide : (match Try.prog.underlying 127 with | some (.array _ _) | some (.struct _) => true | _ => false) = true := by kernel_rfl
theorem gridLaw : KeyLaw Try.prog 127 := deep_law_laid laidOutA (m := 3) (by omega) gridRow (by kernel_rfl) gridWide
theorem gridKeyed : Keyed Try.prog 127 := Keyed.of_law gridLaw
theorem gridMap : Try.prog.underlying 124 = some (.map 127 59) := by kernel_rfl
theorem gridZero (w : World) : (zeroValue 59).run Try.prog w = .ok (.slice Option.none 0 0) w := by kernel_rfl

/-- What a key reads as. -/
def gridLit (a b : Int) : Go.Lit := .string (keyBytes [.int .i64 a, .int .i64 b])
theorem keyOf_grid {a b : Int} (ha : (Go.Lit.int .i64 a).wf = true) (hb : (Go.Lit.int .i64 b).wf = true) : keyOf Try.prog 127 (.agg #[.int .i64 a, .int .i64 b]) = some (gridLit a b) := by
  have hS : Try.prog.underlying 127 = some (.struct (Try.prog.fieldsOf 127)) := by kernel_rfl
  have hF : Try.prog.fieldsOf 127 = #[(Try.prog.fieldsOf 127)[0]'(of_decide_eq_true (by kernel_rfl)), (Try.prog.fieldsOf 127)[1]'(of_decide_eq_true (by kernel_rfl))] := by kernel_rfl
  have hk : Try.prog.keyType 127 = true := by kernel_rfl
  have hc : Try.prog.cellsOf 127 = 2 := by kernel_rfl
  have hi : Try.prog.underlying 3 = some (.int .i64) := Try.underlying3
  have hci : Try.prog.cellsOf 3 = 1 := by kernel_rfl
  obtain ⟨m, hm⟩ : ∃ m, Try.prog.types.size = m + 1 := Nat.exists_eq_succ_of_ne_zero (fun e => by have h := gridRow; rw [e] at h; exact absurd h (Nat.not_lt_zero _))
  have hall : (Try.prog.fieldsOf 127).all (·.name != "_") = true := by kernel_rfl
  have hmap : ((Try.prog.fieldsOf 127).toList.map fun f => (f.type, f.offset)) = [(3, 0), (3, 1)] := by kernel_rfl
  unfold keyOf
  simp only [hS]
  rw [if_pos (by simp [hk, Value.formed, hS, hc]), hm]
  unfold Program.keyLits
  simp only [hS, Value.cells]
  rw [if_pos ⟨by rw [hc]; rfl, hall⟩]
  have hl : (Try.prog.fieldsOf 127).toList.length = 2 := by kernel_rfl
  generalize (Try.prog.fieldsOf 127).toList = L at hmap hl
  rcases L with _ | ⟨f, _ | ⟨g, _ | ⟨h, r⟩⟩⟩
  · cases hl
  · cases hl
  · simp only [List.map_cons, List.map_nil, List.cons.injEq, Prod.mk.injEq] at hmap
    obtain ⟨⟨e1, e2⟩, ⟨e3, e4⟩, _⟩ := hmap
    simp only [List.mapM_cons, List.mapM_nil, e1, e2, e3, e4, hci]
    simp [Program.keyLits, hi, ha, hb, gridLit]
  · simp at hl
theorem gridLit_inj {a b c d : Int} (ha : (Go.Lit.int .i64 a).wf = true) (hb : (Go.Lit.int .i64 b).wf = true) (hc : (Go.Lit.int .i64 c).wf = true) (hd : (Go.Lit.int .i64 d).wf = true) (h : gridLit a b = gridLit c d) : a = c ∧ b = d := by
  have h1 := keyOf_grid ha hb
  rw [h] at h1
  have h2 := gridLaw.inj h1 (keyOf_grid hc hd)
  simp only [Value.agg.injEq] at h2
  have h3 := congrArg Array.toList h2
  simp at h3
  exact h3

/-- How a list's value reads. -/
def sliceR : Value → Option (DataW Unit × List MemPlace)
  | .slice Option.none 0 0 => some (.nil, [])
  | .slice (some ⟨g, 0, Option.none⟩) l c => some (.agg [.lit (.int .i64 g), .lit (.int .i64 l), .lit (.int .i64 c)], [])
  | _ => none
theorem sliceR_inv {v : Value} {g l c : Nat} {ps : List MemPlace} (h : sliceR v = some (.agg [.lit (.int .i64 g), .lit (.int .i64 l), .lit (.int .i64 c)], ps)) : v = .slice (some ⟨g, 0, Option.none⟩) l c := by
  unfold sliceR at h
  split at h
  · simp at h
  · simp at h
    obtain ⟨⟨h1, h2, h3⟩, _⟩ := h
    rw [Int.ofNat.inj h1, Int.ofNat.inj h2, Int.ofNat.inj h3]
  · cases h
theorem sliceR_nil {v : Value} {ps : List MemPlace} (h : sliceR v = some (.nil, ps)) : v = .slice Option.none 0 0 := by
  unfold sliceR at h
  split at h
  · rfl
  · simp at h
  · cases h
/-- The map after m stores: entry j is a list of L j at block G j. -/
def rowD (g l c : Nat) : DataW Unit := .agg [.lit (.int .i64 g), .lit (.int .i64 l), .lit (.int .i64 c)]
def gridAt (j : Nat) : Go.Lit := gridLit ((j / 8 : Nat) : Int) ((j % 8 + 1 : Nat) : Int)
def gridD (G C : Nat → Nat) (l : Nat → Nat) : Nat → DataW Unit
  | 0 => .map []
  | m + 1 => (gridD G C l m).put (gridAt m) (rowD (G m) (l m) (C m))
theorem gridD_congr {G C G' C' l : Nat → Nat} : ∀ m, (∀ j, j < m → G j = G' j ∧ C j = C' j) → gridD G C l m = gridD G' C' l m
  | 0, _ => rfl
  | m + 1, h => by
    unfold gridD
    rw [gridD_congr m (fun j hj => h j (by omega)), (h m (by omega)).1, (h m (by omega)).2]
theorem gridD_isMap (G C l : Nat → Nat) : ∀ m, IsMap (gridD G C l m)
  | 0 => isMap_empty
  | m + 1 => (gridD_isMap G C l m).put _ _
theorem wf_small {n : Nat} (h : n ≤ 1000) : (Go.Lit.int .i64 (n : Int)).wf = true := WalkArith.wf_i64 (by omega)
theorem gridAt_inj {i j : Nat} (hi : i < 32) (hj : j < 32) (h : gridAt i = gridAt j) : i = j := by
  obtain ⟨h1, h2⟩ := gridLit_inj (wf_small (by omega)) (wf_small (by omega)) (wf_small (by omega)) (wf_small (by omega)) h
  omega
theorem gridD_at {G C l : Nat → Nat} {j : Nat} (hj : j < 32) (z : DataW Unit) : ∀ m, m ≤ 32 → j < m → (gridD G C l m).atKey (gridAt j) z = rowD (G j) (l j) (C j)
  | 0, _, h => by omega
  | m + 1, hm, h => by
    unfold gridD
    by_cases e : j = m
    · subst e
      exact atKey_put_same (gridD_isMap _ _ _ _) (by simp [gridAt, gridLit, WideAt.IsKeyLit]) _ _
    · rw [atKey_put_other (fun e' => e (gridAt_inj hj (by omega) e'))]
      exact gridD_at hj z m (by omega) (by omega)
theorem gridD_off {G C l : Nat → Nat} {k : Go.Lit} (hk : ∀ j, j < 32 → k ≠ gridAt j) (z : DataW Unit) : ∀ m, m ≤ 32 → (gridD G C l m).atKey k z = z
  | 0, _ => rfl
  | m + 1, hm => by
    unfold gridD
    rw [atKey_put_other (hk m (by omega))]
    exact gridD_off hk z m (by omega)

/-- The lists of the first m grids lie in the map at block b; L j: the list of grid j. -/
structure GridMap (W : World) (b m : Nat) (L : Nat → List Int) : Prop where
  own : ∃ G C : Nat → Nat, W.ownsMap Try.prog 127 sliceR b m (gridD G C (fun j => (L j).length) m) ∧ ∀ j, j < m → W.ownsRow (b + 1) 3 1 (.slice (some ⟨G j, 0, Option.none⟩) (L j).length (C j)) (L j).length ((L j).map (Value.int .i64))
theorem GridMap.made (w : World) (L : Nat → List Int) : GridMap (w.alloc (.map #[] 0)) w.heap.size 0 L := ⟨fun _ => 0, fun _ => 0, World.ownsMap_made _ _ _ _, fun j h => by omega⟩
theorem GridMap.lt {W : World} {b m : Nat} {L : Nat → List Int} (h : GridMap W b m L) : b < W.heap.size := by
  obtain ⟨G, C, h1, _⟩ := h.own
  exact h1.lt
theorem GridMap.below {W W' : World} {b m : Nat} {L : Nat → List Int} (h : GridMap W b m L) (hg : Below W.heap.size W W') : GridMap W' b m L := by
  have hg' : W.grownBy W' Option.none := ⟨hg.os, hg.tape, hg.output, hg.size, fun i hi _ => hg.block i hi⟩
  obtain ⟨G, C, h1, h2⟩ := h.own
  exact ⟨G, C, h1.kept hg' (by simp), fun j hj => (h2 j hj).kept hg' (.inr (by simp [Value.ownBlock]))⟩
theorem GridMap.alloc {W : World} {b m : Nat} {L : Nat → List Int} (h : GridMap W b m L) (o : Obj) : GridMap (W.alloc o) b m L := by
  obtain ⟨G, C, h1, h2⟩ := h.own
  exact ⟨G, C, h1.alloc o, fun j hj => (h2 j hj).alloc o⟩
theorem GridMap.drew {W : World} {b m : Nat} {L : Nat → List Int} (h : GridMap W b m L) : GridMap W.drew b m L := by
  obtain ⟨G, C, h1, h2⟩ := h.own
  exact ⟨G, C, h1.drew, fun j hj => (h2 j hj).drew⟩
theorem gridAt_of {a c : Int} {j : Nat} (h0 : 0 ≤ a) (h1 : 1 ≤ c) (h8 : c ≤ 8) (hj : (j : Int) = 8 * a + c - 1) : gridAt j = gridLit a c := by
  have e1 : ((j / 8 : Nat) : Int) = a := by omega
  have e2 : ((j % 8 + 1 : Nat) : Int) = c := by omega
  unfold gridAt
  rw [e1, e2]
theorem GridMap.store {W : World} {b m g cp : Nat} {L : Nat → List Int} {a c : Int} (h : GridMap W b m L) (h0 : 0 ≤ a) (h3 : a ≤ 3) (h1 : 1 ≤ c) (h8 : c ≤ 8) (hm : (m : Int) = 8 * a + c - 1)
    (ho : W.ownsRow (b + 1) 3 1 (.slice (some ⟨g, 0, Option.none⟩) (L m).length cp) (L m).length ((L m).map (Value.int .i64))) :
    ∃ w2, (Instr.mapUpdate 124 (.map (some b)) (.agg #[.int .i64 a, .int .i64 c]) (.slice (some ⟨g, 0, Option.none⟩) (L m).length cp)).run Try.prog W = .ok () w2 ∧ GridMap w2 b (m + 1) L ∧ W.grownBy w2 (some b) := by
  obtain ⟨G, C, k1, k2⟩ := h.own
  have hkey := keyOf_grid (a := a) (b := c) (WalkArith.wf_i64 (by omega)) (WalkArith.wf_i64 (by omega))
  obtain ⟨w2, r1, r2, r3⟩ := k1.update gridKeyed gridMap (by unfold maxLen; omega) hkey (val := .slice (some ⟨g, 0, Option.none⟩) (L m).length cp) (d := rowD g (L m).length cp) (ps := []) rfl
  refine ⟨w2, r1, ⟨fun j => if j = m then g else G j, fun j => if j = m then cp else C j, ?_, fun j hj => ?_⟩, r3⟩
  · unfold gridD
    rw [gridAt_of h0 h1 h8 hm, gridD_congr (G := fun j => if j = m then g else G j) (C := fun j => if j = m then cp else C j) (G' := G) (C' := C) m (fun j hj => ⟨if_neg (by omega), if_neg (by omega)⟩)]
    simp only [if_true]
    exact r2
  · by_cases e : j = m
    · subst e
      simp only [if_true]
      exact owns_gr r3 (Nat.lt_succ_self b) ho
    · simp only [if_neg e]
      exact owns_gr r3 (Nat.lt_succ_self b) (k2 j (by omega))
theorem GridMap.look {W : World} {b : Nat} {L : Nat → List Int} (h : GridMap W b 32 L) {a c : Int} (ha : (Go.Lit.int .i64 a).wf = true) (hc : (Go.Lit.int .i64 c).wf = true) :
    ∃ v, (Instr.lookup 124 (.map (some b)) (.agg #[.int .i64 a, .int .i64 c]) false).run Try.prog W = .ok v W ∧
      ((∃ j : Nat, 0 ≤ a ∧ a ≤ 3 ∧ 1 ≤ c ∧ c ≤ 8 ∧ (j : Int) = 8 * a + c - 1 ∧ ∃ g cp : Nat, v = .slice (some ⟨g, 0, Option.none⟩) (L j).length cp ∧ W.ownsRow (b + 1) 3 1 (.slice (some ⟨g, 0, Option.none⟩) (L j).length cp) (L j).length ((L j).map (Value.int .i64))) ∨
        (¬ (0 ≤ a ∧ a ≤ 3 ∧ 1 ≤ c ∧ c ≤ 8) ∧ v = .slice Option.none 0 0)) := by
  obtain ⟨G, C, k1, k2⟩ := h.own
  obtain ⟨v, ps, r1, r2⟩ := k1.lookup gridKeyed gridMap (gridZero W) (zd := .nil) (zp := []) rfl (keyOf_grid ha hc)
  refine ⟨v, r1, ?_⟩
  by_cases hin : 0 ≤ a ∧ a ≤ 3 ∧ 1 ≤ c ∧ c ≤ 8
  · obtain ⟨i0, i1, i2, i3⟩ := hin
    have hj : (((8 * a + c - 1).toNat : Nat) : Int) = 8 * a + c - 1 := by omega
    generalize (8 * a + c - 1).toNat = j at hj
    rw [← gridAt_of i0 i2 i3 hj, gridD_at (by omega) _ 32 (Nat.le_refl _) (by omega)] at r2
    exact .inl ⟨j, i0, i1, i2, i3, hj, G j, C j, sliceR_inv r2, k2 j (by omega)⟩
  · rw [gridD_off (fun j hj e => ?_) _ 32 (Nat.le_refl _)] at r2
    · exact .inr ⟨hin, sliceR_nil r2⟩
    · obtain ⟨e1, e2⟩ := gridLit_inj ha hc (wf_small (by omega)) (wf_small (by omega)) e
      omega
end Go.Proofs.Ytlnikapkheldeaa

/-
  The map of all lists of first cells: firstCellLists.
-/
namespace Go.Proofs.Ytlnikapkheldeaa
open Go.ChangeShapes Go.WideShapes Go.ChangeAt Go.RowKit Go.Joins
set_option linter.unusedSimpArgs false
set_option linter.unusedVariables false
set_option maxRecDepth 100000
attribute [local go_sem] store_f
open Ieee

def listAt (j : Nat) : List Int := firstsTo ((j / 8 : Nat) : Int) (j % 8 + 1) ((j % 8 + 1) * (j % 8 + 1))
theorem listAt_of {k n : Nat} (h1 : 1 ≤ n) (h8 : n ≤ 8) : listAt (8 * k + n - 1) = firstsTo (k : Int) n (n * n) := by
  have e1 : (8 * k + n - 1) / 8 = k := by omega
  have e2 : (8 * k + n - 1) % 8 + 1 = n := by omega
  unfold listAt
  rw [e1, e2]
structure ListsM : Prop where
  call : ∀ w : World, Calls Try.prog 104 #[] w fun e w' => (∃ b, e = .returned (.map (some b)) ∧ w.heap.size ≤ b ∧ GridMap w' b 32 listAt) ∧ Below w.heap.size w w'
set_option maxHeartbeats 8000000 in
theorem listsM : ListsM := ⟨fun w => by
  have HLM : Hid (∀ k n : Nat, 1 ≤ n → n ≤ 8 → LeastsM (k : Int) (n : Int) (listAt (8 * k + n - 1))) := fun k n h1 h8 => by rw [listAt_of h1 h8]; exact leastsM _ h1 h8
  generalize listAt = L at *
  have M0 : Hid (GridMap (w.alloc (.map #[] 0)) w.heap.size 0 L) := GridMap.made w L
  have hmm := @run_makeMap Try.prog
  go_enter Try.func104, Try.ntmps104
  go_wp2_with fail
  clear hmm
  go_loopw [2] (fun i wr => ∃ k : Nat, k ≤ 4 ∧ i = .int .i64 k ∧ GridMap wr w.heap.size (8 * k) L ∧ Below w.heap.size w wr) (fun i _ => 4 - (intOf i).toNat)
  case atStart => exact ⟨0, by omega, rfl, M0.out, by (repeat' (first | (with_reducible exact Below.refl _ _) | (with_reducible assumption) | (with_reducible refine Below.alloc ?_ ?_ _) | (with_reducible refine Below.drew ?_) | (with_reducible refine Below.setCell ?_ ?_ _) | (with_reducible refine Below.trans ?_ (Below.mono (by assumption) ?_)) | (with_reducible exact Nat.le_refl _) | omega | (simp only [World.size_alloc, World.size_setCell, World.size_drew]; omega) | (simp; omega) | (simp; done)))⟩
  case round =>
    obtain ⟨k, hk, rfl, hG, hbel⟩ := hrel
    have HG : Hid (GridMap wr w.heap.size (8 * k) L) := hG
    have HB : Hid (Below w.heap.size w wr) := hbel
    clear hG hbel M0
    by_cases hlt : k < 4
    · go_wp2_with fail
      generalize Value.bool (decide ((k : Int) ≤ 3)) = bk
      go_loopw [3] (fun i wi => ∃ n : Nat, 1 ≤ n ∧ n ≤ 9 ∧ i = .int .i64 n ∧ GridMap wi w.heap.size (8 * k + n - 1) L ∧ Below w.heap.size w wi) (fun i _ => 9 - (intOf i).toNat)
      case atStart => exact ⟨1, by omega, by omega, rfl, HG.out, HB.out⟩
      case round =>
        obtain ⟨n, hn1, hn9, rfl, hG, hbel⟩ := hrel
        have HG2 : Hid (GridMap wr w.heap.size (8 * k + n - 1) L) := hG
        have HB2 : Hid (Below w.heap.size w wr) := hbel
        clear hG hbel HG HB
        by_cases hlt2 : n ≤ 8
        · have K := HLM.out k n hn1 hlt2
          have HGN : Hid ((8 * k + n - 1) + 1 = 8 * k + (n + 1) - 1) := by show _ = _; omega
          have hm32 : ((8 * k + n - 1 : Nat) : Int) = 8 * (k : Int) + (n : Int) - 1 := by omega
          have HST : Hid (∀ (W : World) (g cp : Nat), GridMap W w.heap.size (8 * k + n - 1) L → W.ownsRow (w.heap.size + 1) 3 1 (.slice (some ⟨g, 0, Option.none⟩) (L (8 * k + n - 1)).length cp) (L (8 * k + n - 1)).length ((L (8 * k + n - 1)).map (Value.int .i64)) →
              ∃ w2, (Instr.mapUpdate 124 (.map (some w.heap.size)) (.agg #[.int .i64 k, .int .i64 n]) (.slice (some ⟨g, 0, Option.none⟩) (L (8 * k + n - 1)).length cp)).run Try.prog W = .ok () w2 ∧ GridMap w2 w.heap.size (8 * k + n - 1 + 1) L ∧ W.grownBy w2 (some w.heap.size)) :=
            fun W g cp h ho => h.store (by omega) (by omega) (by omega) (by omega) hm32 ho
          clear hm32 HLM
          generalize 8 * k + n - 1 = m at *
          generalize L m = z at K HST
          go_wp2_with fail
          generalize hX : wr.alloc (.cells #[.int .i64 (k : Int), .int .i64 (n : Int)] 127) = X
          have P1 : Hid (Blk X wr.heap.size #[.int .i64 (k : Int), .int .i64 (n : Int)] 127) := by rw [← hX]; exact Blk.new _ _ _
          have G1 : Hid (GridMap X w.heap.size m L) := by rw [← hX]; exact HG2.out.alloc _
          have B1 : Hid (Below w.heap.size w X) := by rw [← hX]; exact HB2.out.alloc HB2.out.size _
          have hlt3 : w.heap.size < X.heap.size := by rw [← hX]; have := HG2.out.lt; simp; omega
          generalize wr.heap.size = p at P1
          clear hX HG2 HB2
          (have p0 := Blk.cellAt (i := 0) P1.out rfl; have p1 := Blk.cellAt (i := 1) P1.out rfl; simp only [List.getElem_toArray, List.getElem_cons_zero, List.getElem_cons_succ] at p0 p1)
          go_region_with (first | (go_at_call 146; (with_reducible refine (K.call _).mono ?_); rintro e w4 ⟨⟨g, cp, rfl, hM⟩, hb⟩; have P4 : Hid (Blk w4 p #[.int .i64 (k : Int), .int .i64 (n : Int)] 127) := Blk.belowAt hb (Blk.drew P1.out); have G4 : GridMap w4 w.heap.size m L := G1.out.drew.below hb; have O4 := ownsLess hM.own (show w.heap.size + 1 ≤ X.drew.heap.size from hlt3); obtain ⟨w5, hrun, hG5, hgr5⟩ := HST.out w4 g cp G4 O4; have B5 : Hid (Below w.heap.size w w5) := Below.grown (B1.out.drew.trans (hb.mono (Nat.le_of_lt hlt3))) hgr5 (Nat.le_of_lt G4.lt) (fun q hq => by cases hq; exact Nat.le_refl _); have G5 : Hid (GridMap w5 w.heap.size (m + 1) L) := hG5; have q0 := Blk.cellAt (i := 0) P4.out rfl; have q1 := Blk.cellAt (i := 1) P4.out rfl; (simp only [List.getElem_toArray, List.getElem_cons_zero, List.getElem_cons_succ] at q0 q1); clear hM hb G4 O4 hG5 hgr5))
          all_goals
            go_wp2
            go_roundw
            case rel => exact ⟨n + 1, by omega, by omega, by go_num, by rw [← HGN.out]; exact G5.out, B5.out⟩
            case measure => simp [intOf]; omega
        · have hn : n = 9 := by omega
          subst hn
          go_wp2
          go_roundw
          case rel => exact ⟨k + 1, by omega, by go_num, HG2.out, HB2.out⟩
          case measure => simp [intOf]; omega
    · have hk4 : k = 4 := by omega
      subst hk4
      go_wp2
      go_ret
      exact ⟨⟨_, rfl, Nat.le_refl _, HG.out⟩, HB.out⟩⟩
end Go.Proofs.Ytlnikapkheldeaa

/-
  FirstCells of the program.
-/
namespace Go.Proofs.Ytlnikapkheldeaa
open Go.ChangeShapes Go.WideShapes Go.ChangeAt Go.RowKit Go.Joins
set_option linter.unusedSimpArgs false
set_option linter.unusedVariables false
set_option maxRecDepth 100000
attribute [local go_sem] store_f
open Ieee

/-- What FirstCells gives back at a kind and a size. -/
inductive FirstIs (B : Nat) (w' : World) (kind n : Int) (v : Value) : Prop
  | yes (k m g cp : Nat) (hk : kind = (k : Int)) (hn : n = (m : Int)) (h3 : k ≤ 3) (h1 : 1 ≤ m) (h8 : m ≤ 8) (hv : v = .slice (some ⟨g, 0, Option.none⟩) (firstsTo (k : Int) m (m * m)).length cp) (own : IntsMade B w' (firstsTo (k : Int) m (m * m)) g cp)
  | no (hno : ¬ (0 ≤ kind ∧ kind ≤ 3 ∧ 1 ≤ n ∧ n ≤ 8)) (hv : v = .slice Option.none 0 0)
structure FirstI (kind n : Int) : Prop where
  call : ∀ w : World, Calls Try.prog 39 #[.int .i64 kind, .int .i64 n] w fun e w' => (∃ v, e = .returned v ∧ FirstIs w.heap.size w' kind n v) ∧ Below w.heap.size w w'
set_option maxHeartbeats 4000000 in
theorem firstI {kind n : Int} (hk : (Go.Lit.int .i64 kind).wf = true) (hn : (Go.Lit.int .i64 n).wf = true) : FirstI kind n := ⟨fun w => by
  have LM := listsM
  go_enter Try.func39, Try.ntmps39
  go_wp2_with fail
  refine (LM.call _).mono ?_
  rintro e w2 ⟨⟨b, rfl, hbb, hG⟩, hb⟩
  obtain ⟨v, hrun, hv⟩ := hG.look hk hn
  have HV : Hid (FirstIs w.heap.size w2 kind n v) := by
    rcases hv with ⟨j, h0, h3, h1, h8, hj, g, cp, rfl, ho⟩ | ⟨hno, rfl⟩
    · obtain ⟨k, rfl⟩ : ∃ k : Nat, kind = k := ⟨kind.toNat, by omega⟩
      obtain ⟨m, rfl⟩ : ∃ m : Nat, n = m := ⟨n.toNat, by omega⟩
      have e : j = 8 * k + m - 1 := by omega
      subst e
      rw [listAt_of (by omega) (by omega)] at ho ⊢
      exact .yes k m g cp rfl rfl (by omega) (by omega) (by omega) rfl ⟨ownsLess ho (by omega)⟩
    · exact .no hno rfl
  have HB : Hid (Below w.heap.size w w2) := hb
  clear hv hG hb LM
  go_wp2
  trace_state
  go_ret
  exact ⟨⟨_, rfl, HV.out⟩, HB.out⟩⟩
end Go.Proofs.Ytlnikapkheldeaa

/-
  The model's FirstCells.
-/
namespace Go.Proofs.Ytlnikapkheldeaa
open Go.ChangeShapes Go.WideShapes Go.ChangeAt Go.RowKit Go.Joins
set_option linter.unusedSimpArgs false
set_option linter.unusedVariables false
set_option maxRecDepth 100000
attribute [local go_sem] store_f
open Ieee

structure FirstMS (kind n : Int) (z : List Int) : Prop where
  call : ∀ w : World, Calls Try.prog 60 #[.int .i64 kind, .int .i64 n] w fun e w' => (∃ g cp, e = .returned (.slice (some ⟨g, 0, Option.none⟩) z.length cp) ∧ IntsMade w.heap.size w' z g cp) ∧ Below w.heap.size w w'
theorem emptyMade (w : World) : IntsMade w.heap.size (w.alloc (.cells #[] 3)) [] w.heap.size 0 := ⟨by
  have h := World.ownsRow_lit w (base := w.heap.size) (e := 3) (size := 1) #[] 0 (by simp) (by unfold maxLen; omega) rfl
  exact h⟩
theorem IntsMade.below {B g cp : Nat} {W W' : World} {z : List Int} (h : IntsMade B W z g cp) (hb : Below W.heap.size W W') : IntsMade B W' z g cp := ⟨ownsBelow hb h.own⟩
set_option maxHeartbeats 4000000 in
theorem firstMS_kind {kind n : Int} (h : ¬ (0 ≤ kind ∧ kind ≤ 3)) : FirstMS kind n [] := ⟨fun w => by
  have S : LieM kind 0 3 false := lieM_no (by omega)
  have M0 : Hid (IntsMade w.heap.size (w.alloc (.cells #[] 3)) [] w.heap.size 0) := emptyMade w
  clear h
  go_enter Try.func60, Try.ntmps60
  go_wp2_with fail
  refine (S.call _).mono ?_
  rintro e w1 ⟨rfl, hb⟩
  have M1 : Hid (IntsMade w.heap.size w1 [] w.heap.size 0) := M0.out.below hb
  have HB : Hid (Below w.heap.size w w1) := (Below.refl _ _).alloc (Nat.le_refl _) _ |>.trans (hb.mono (by simp))
  clear S hb M0
  go_wp2
  go_ret
  exact ⟨⟨_, _, rfl, M1.out⟩, HB.out⟩⟩
set_option maxHeartbeats 4000000 in
theorem firstMS_size {kind n : Int} (h0 : 0 ≤ kind) (h3 : kind ≤ 3) (h : ¬ (1 ≤ n ∧ n ≤ 8)) : FirstMS kind n [] := ⟨fun w => by
  have S : LieM kind 0 3 true := lieM_yes h0 h3
  have S2 : LieM n 1 8 false := lieM_no (by omega)
  have M0 : Hid (IntsMade w.heap.size (w.alloc (.cells #[] 3)) [] w.heap.size 0) := emptyMade w
  clear h h0 h3
  go_enter Try.func60, Try.ntmps60
  go_wp2_with fail
  refine (S.call _).mono ?_
  rintro e w1 ⟨rfl, hb⟩
  have M1 : Hid (IntsMade w.heap.size w1 [] w.heap.size 0) := M0.out.below hb
  have HB : Hid (Below w.heap.size w w1) := (Below.refl _ _).alloc (Nat.le_refl _) _ |>.trans (hb.mono (by simp))
  clear S hb M0
  go_wp2_with fail
  refine (S2.call _).mono ?_
  rintro e w2 ⟨rfl, hb⟩
  have M2 : Hid (IntsMade w.heap.size w2 [] w.heap.size 0) := M1.out.below hb
  have HB2 : Hid (Below w.heap.size w w2) := HB.out.trans (hb.mono HB.out.size)
  clear S2 hb M1 HB
  go_wp2
  go_ret
  exact ⟨⟨_, _, rfl, M2.out⟩, HB2.out⟩⟩
set_option maxHeartbeats 8000000 in
theorem firstMS_yes {k n : Nat} (h3 : k ≤ 3) (h1 : 1 ≤ n) (h8 : n ≤ 8) : FirstMS k n (firstsTo k n (n * n)) := ⟨fun w => by
  obtain ⟨N, hN⟩ : ∃ N : Nat, N = n * n := ⟨_, rfl⟩
  have hN64 : N ≤ 64 := by rw [hN]; exact Nat.le_trans (Nat.mul_le_mul h8 h8) (by omega)
  have hNN : (n : Int) * (n : Int) = (N : Int) := by rw [hN]; simp
  have S : LieM k 0 3 true := lieM_yes (by omega) (by omega)
  have S2 : LieM n 1 8 true := lieM_yes (by omega) (by omega)
  have HL : Hid (∀ j, j < N → FirstS k n j (leastN k n j)) := fun j hj => firstS k h1 h8 (by omega)
  have HY : Hid (∀ j, leastN k n j = j → firstsTo k n (j + 1) = firstsTo k n j ++ [(j : Int)]) := fun j h => firstsTo_yes h
  have HNO : Hid (∀ j, leastN k n j ≠ j → firstsTo k n (j + 1) = firstsTo k n j) := fun j h => firstsTo_no h
  have HLE : Hid (∀ j, (firstsTo k n j).length ≤ j) := firstsTo_le k n
  have H0 : Hid (firstsTo k n 0 = []) := rfl
  obtain ⟨i0, hi, hz0, hz1, hz2⟩ := info_parts infoI
  have M0 : Hid (IntsMade w.heap.size (w.alloc (.cells #[] 3)) [] w.heap.size 0) := emptyMade w
  rw [← hN]
  generalize firstsTo k n = M at *
  clear hN
  go_enter Try.func60, Try.ntmps60
  go_wp2_with fail
  refine (S.call _).mono ?_
  rintro e w1 ⟨rfl, hb⟩
  have M1 : Hid (IntsMade w.heap.size w1 [] w.heap.size 0) := M0.out.below hb
  have HB : Hid (Below w.heap.size w w1) := (Below.refl _ _).alloc (Nat.le_refl _) _ |>.trans (hb.mono (by simp))
  clear S hb M0
  go_wp2_with fail
  refine (S2.call _).mono ?_
  rintro e w2 ⟨rfl, hb⟩
  have M2 : Hid (IntsMade w.heap.size w2 [] w.heap.size 0) := M1.out.below hb
  have HB2 : Hid (Below w.heap.size w w2) := HB.out.trans (hb.mono HB.out.size)
  clear S2 hb M1 HB
  go_wp2_with fail
  go_loopw [5, 6] (fun v i wr => ∃ j : Nat, j ≤ N ∧ i = .int .i64 j ∧ (wr.ownsRow w.heap.size 3 1 v (M j).length ((M j).map (Value.int .i64)) ∧ v ≠ .slice Option.none 0 0) ∧ Below w.heap.size w wr) (fun _ i _ => N - (intOf i).toNat)
  case atStart => exact ⟨0, by omega, rfl, ⟨by rw [H0.out]; exact M2.out.own, by simp⟩, HB2.out⟩
  case round =>
    obtain ⟨j, hj, rfl, ⟨hown, hnn⟩, hbel⟩ := hrel
    have HN : Hid (u5 ≠ .slice Option.none 0 0) := hnn
    have HO : Hid (wr.ownsRow w.heap.size 3 1 u5 (M j).length ((M j).map (Value.int .i64))) := hown
    have B1 : Hid (Below w.heap.size w wr) := hbel
    have hle := HLE.out j
    clear hown hnn hbel M2 HB2
    by_cases hlt : j < N
    · have K := HL.out j hlt
      have hy := HY.out j
      have hno := HNO.out j
      generalize leastN k n j = c at K hy hno
      have HYC : Hid (c = j → M (j + 1) = M j ++ [(j : Int)]) := hy
      have HNC : Hid (c ≠ j → M (j + 1) = M j) := hno
      clear hy hno
      go_wp2_with fail
      refine (K.call _).mono ?_
      rintro e w3 ⟨rfl, hb⟩
      have B2 : Hid (Below w.heap.size w w3) := B1.out.trans (hb.mono B1.out.size)
      have O2 : Hid (w3.ownsRow w.heap.size 3 1 u5 (M j).length ((M j).map (Value.int .i64))) := ownsBelow hb HO.out
      clear hb B1 HO K
      by_cases hc : c = j
      · have hcc : ((c : Int) == (j : Int)) = true := by simp [hc]
        have hown := O2.out
        have hb2 := B2.out
        have hsz := hb2.size
        go_wp2_with (at_builtin; go_loud (refine wpList_append_own _ rfl _ _ 59 rfl w.heap.size 3 i0 (.int .i64 0) 1 8 Try.underlying59 hi hz0 hz1 hz2 rfl (by decide) _ (M j).length ((M j).map (Value.int .i64)) rfl ?hown ⟨w3.heap.size, 0, Option.none⟩ 1 1 [.int .i64 j] rfl rfl ?c1 ?c2 ?c3 ?c4 ?c5 ?_))
        case hown => (change World.ownsRow _ _ _ _ u5 _ _; (repeat (first | (with_reducible assumption) | (with_reducible refine World.ownsRow.alloc ?_ _) | (with_reducible refine World.ownsRow.drew ?_) | (with_reducible refine ownsBelow (by assumption) ?_))))
        case c1 =>
          intro j' u hj
          rcases j' with _ | j' <;> simp at hj <;> subst hj <;> simp [Addr.add]
        case c2 =>
          intro u hu
          simp at hu
          rcases hu with rfl
          rfl
        case c3 => (unfold maxLen; omega)
        case c4 => omega
        case c5 => (simp; omega)
        intro v' w4 hown' hgrow hvn
        have HV : Hid (v' ≠ .slice Option.none 0 0) := hvn
        have B3 : Hid (Below w.heap.size w w4) := Below.grown (hb2.alloc hb2.size _) hgrow (by have := hb2.size; simp; omega) (fun q hq => by have := (hown.lt q hq).1; omega)
        have O3 : Hid (w4.ownsRow w.heap.size 3 1 v' ((M j).length + 1) ((M j).map (Value.int .i64) ++ [.int .i64 j])) := hown'
        have hm := HYC.out hc
        clear hown' hgrow hvn hown hb2 hcc hsz
        go_wp2
        go_roundw
        case rel => exact ⟨j + 1, by omega, by go_num, ⟨by rw [hm]; simpa using O3.out, HV.out⟩, B3.out⟩
        case measure => simp [intOf]; omega
      · have hcc : ((c : Int) == (j : Int)) = false := by simp; omega
        have hm := HNC.out hc
        go_wp2
        go_roundw
        case rel => exact ⟨j + 1, by omega, by go_num, ⟨by rw [hm]; exact O2.out, HN.out⟩, B2.out⟩
        case measure => simp [intOf]; omega
    · have hjm : j = N := by omega
      subst hjm
      rcases ownsRow_forms HO.out with ⟨e, _⟩ | ⟨g, cp, rfl⟩
      · exact absurd e HN.out
      go_wp2
      go_ret
      exact ⟨⟨g, cp, rfl, ⟨HO.out⟩⟩, B1.out⟩⟩
end Go.Proofs.Ytlnikapkheldeaa

/-
  Lists of numbers held against each other, marked, and held against the marks; first cells of both.
-/
namespace Go.Proofs.Ytlnikapkheldeaa
open Go.ChangeShapes Go.WideShapes Go.ChangeAt Go.RowKit Go.Joins
set_option linter.unusedSimpArgs false
set_option linter.unusedVariables false
set_option maxRecDepth 100000
attribute [local go_sem] store_f
open Ieee

/-- A list of numbers lies at the address (nowhere, if it is empty). -/
def NumsAt (W : World) (a : Option Addr) (z : List Int) : Prop := ∀ k : Nat, k < z.length → ∃ g, a = some ⟨g, 0, Option.none⟩ ∧ W.cell? ⟨g, k, Option.none⟩ = some (.int .i64 (z.getD k 0))
theorem NumsAt.below {W w1 : World} {a : Option Addr} {z : List Int} (h : NumsAt W a z) (hb : Below W.heap.size W w1) : NumsAt w1 a z := fun k hk => by
  obtain ⟨g, e, hc⟩ := h k hk
  exact ⟨g, e, cBelow hb hc⟩
theorem NumsAt.under {W w1 : World} {B : Nat} {a : Option Addr} {z : List Int} (h : NumsAt W a z) (hb : Below B W w1) (hl : ∀ x, a = some x → x.block < B) : NumsAt w1 a z := fun k hk => by
  obtain ⟨g, e, hc⟩ := h k hk
  exact ⟨g, e, (hb.cell (p := ⟨g, k, Option.none⟩) (show g < B from hl ⟨g, 0, Option.none⟩ e)).trans hc⟩
/-- .. the marks 1, 2, .. -/
def MksAt (W : World) (a : Option Addr) (n : Nat) : Prop := ∀ k : Nat, k < n → ∃ g, a = some ⟨g, 0, Option.none⟩ ∧ W.cell? ⟨g, k, Option.none⟩ = some (.int .i64 (1 + (k : Int)))
theorem MksAt.below {W w1 : World} {a : Option Addr} {n : Nat} (h : MksAt W a n) (hb : Below W.heap.size W w1) : MksAt w1 a n := fun k hk => by
  obtain ⟨g, e, hc⟩ := h k hk
  exact ⟨g, e, cBelow hb hc⟩
/-- A block with room for n numbers, of which the first k are marked. -/
def MkdAt (W : World) (B : Nat) (a : Option Addr) (n k : Nat) : Prop :=
  n = 0 ∨ ∃ g cur, a = some ⟨g, 0, Option.none⟩ ∧ B ≤ g ∧ Blk W g cur 3 ∧ n ≤ cur.size ∧ ∀ j : Nat, j < k → cur[j]? = some (.int .i64 (1 + (j : Int)))
theorem MkdAt.below {W w1 : World} {B : Nat} {a : Option Addr} {n k : Nat} (h : MkdAt W B a n k) (hb : Below W.heap.size W w1) : MkdAt w1 B a n k := by
  rcases h with h | ⟨g, cur, e, hg, hbk, h1, h2⟩
  · exact .inl h
  · exact .inr ⟨g, cur, e, hg, hbk.below hb, h1, h2⟩
theorem MkdAt.marks {W : World} {B : Nat} {a : Option Addr} {n : Nat} (h : MkdAt W B a n n) : MksAt W a n := fun k hk => by
  rcases h with h | ⟨g, cur, e, hg, hbk, h1, h2⟩
  · omega
  · exact ⟨g, e, (hbk.cell k).trans (h2 k hk)⟩

structure EqInts (z : List Int) (a b : Option Addr) (ca cb : Nat) : Prop where
  call : ∀ w : World, NumsAt w a z → NumsAt w b z → Calls Try.prog 61 #[.slice a z.length ca, .slice b z.length cb] w fun e w' => e = .returned (.bool true) ∧ Below w.heap.size w w'
set_option maxHeartbeats 4000000 in
theorem eqInts {z : List Int} (a b : Option Addr) (ca cb : Nat) (hn : z.length ≤ 64) : EqInts z a b ca cb := ⟨fun w ha hbr => by
  have HA : Hid (NumsAt w a z) := ha
  have HB : Hid (NumsAt w b z) := hbr
  obtain ⟨n, hl⟩ : ∃ n, n = z.length := ⟨_, rfl⟩
  have HL : Hid (n = z.length) := hl
  rw [← hl] at hn ⊢
  clear ha hbr hl
  go_enter Try.func61, Try.ntmps61
  go_wp2
  go_loopw [5] (fun i wr => ∃ k : Nat, k ≤ n ∧ i = .int .i64 k ∧ Below w.heap.size w wr) (fun i _ => n - (intOf i).toNat)
  case atStart => exact ⟨0, by omega, rfl, Below.refl _ _⟩
  case round =>
    obtain ⟨k, hk, rfl, hbel⟩ := hrel
    by_cases hlt : k < n
    · obtain ⟨ga, rfl, hA⟩ := (HA.out).below hbel k (by have := HL.out; omega)
      obtain ⟨gb, rfl, hB⟩ := (HB.out).below hbel k (by have := HL.out; omega)
      generalize z.getD k 0 = x at hA hB
      go_wp2_with fail
      go_quiet (fail)
      go_wp2
      have hd := hbel.size
      go_roundw
      case rel => exact ⟨k + 1, by omega, by go_num, hbel.trans (below_draws _ _ _)⟩
      case measure => simp [intOf]; omega
    · have hkn : k = n := by omega
      subst hkn
      go_wp2
      go_returns; exact ⟨rfl, by (repeat' (first | (with_reducible exact Below.refl _ _) | (with_reducible assumption) | (with_reducible refine Below.alloc ?_ ?_ _) | (with_reducible refine Below.drew ?_) | (with_reducible refine Below.setCell ?_ ?_ _) | (with_reducible refine Below.trans ?_ (Below.mono (by assumption) ?_)) | (with_reducible exact Nat.le_refl _) | omega | (simp only [World.size_alloc, World.size_setCell, World.size_drew]; omega) | (simp; omega) | (simp; done)))⟩⟩
structure MarkInts (a : Option Addr) (n c B : Nat) : Prop where
  call : ∀ w : World, MkdAt w B a n 0 → Calls Try.prog 62 #[.slice a n c, .int .i64 1] w fun e w' => e = .returned (.int .i64 (1 + (n : Int))) ∧ MkdAt w' B a n n ∧ Below B w w'
set_option maxHeartbeats 4000000 in
theorem markInts (a : Option Addr) (n c B : Nat) (hn : n ≤ 64) : MarkInts a n c B := ⟨fun w hp => by
  have HP : Hid (MkdAt w B a n 0) := hp
  clear hp
  go_enter Try.func62, Try.ntmps62
  go_wp2
  go_loopw [1, 5] (fun q i wr => ∃ k : Nat, k ≤ n ∧ i = .int .i64 k ∧ q = .int .i64 (1 + (k : Int)) ∧ MkdAt wr B a n k ∧ Below B w wr) (fun _ i _ => n - (intOf i).toNat)
  case atStart => exact ⟨0, by omega, rfl, by simp, HP.out, Below.refl _ _⟩
  case round =>
    obtain ⟨k, hk, rfl, rfl, hpart, hgr⟩ := hrel
    by_cases hlt : k < n
    · rcases hpart with h | ⟨g, cur, rfl, hg, hb, hs, hm⟩
      · omega
      have HS : Hid (MkdAt (wr.setCell ⟨g, k, Option.none⟩ (.int .i64 (1 + (k : Int)))) B (some ⟨g, 0, Option.none⟩) n (k + 1)) := .inr ⟨g, _, rfl, hg, hb.set, by simpa using hs, fun j hj => by
        rw [Array.getElem?_setIfInBounds]
        by_cases e : k = j
        · subst e
          rw [if_pos rfl, if_pos (by omega)]
        · rw [if_neg e]
          exact hm j (by omega)⟩
      have hx0 : ∃ x0, wr.cell? ⟨g, k, Option.none⟩ = some x0 := by rw [hb.cell]; exact ⟨_, Array.getElem?_eq_getElem (by omega)⟩
      obtain ⟨x0, hx0⟩ := hx0
      have hf0 := hb.free k
      have HG : Hid (Below B w (wr.setCell ⟨g, k, Option.none⟩ (.int .i64 (1 + (k : Int))))) := hgr.setCell hg _
      clear hb hm hs hgr HP hg
      go_wp2
      go_roundw
      case rel => exact ⟨k + 1, by omega, by go_num, by first | (go_num; done) | (simp; omega), HS.out, HG.out⟩
      case measure => simp [intOf]; omega
    · have hkn : k = n := by omega
      subst hkn
      have H1 : Hid (MkdAt wr B a k k) := hpart
      have H2 : Hid (Below B w wr) := hgr
      clear hpart hgr HP
      go_wp2
      go_ret
      exact ⟨rfl, H1.out, H2.out⟩⟩
structure HeldInts (a : Option Addr) (n c : Nat) : Prop where
  call : ∀ w : World, MksAt w a n → Calls Try.prog 63 #[.slice a n c, .int .i64 1] w fun e w' => e = .returned (.int .i64 (1 + (n : Int))) ∧ Below w.heap.size w w'
set_option maxHeartbeats 4000000 in
theorem heldInts (a : Option Addr) (n c : Nat) (hn : n ≤ 64) : HeldInts a n c := ⟨fun w hp => by
  have HP : Hid (MksAt w a n) := hp
  clear hp
  go_enter Try.func63, Try.ntmps63
  go_wp2
  go_loop [1, 5] (fun q i => ∃ k : Nat, k ≤ n ∧ i = .int .i64 k ∧ q = .int .i64 (1 + (k : Int))) (fun _ i => n - (intOf i).toNat)
  case atStart => exact ⟨0, by omega, rfl, by simp⟩
  case round =>
    obtain ⟨k, hk, rfl, rfl⟩ := hrel
    by_cases hlt : k < n
    · obtain ⟨g, rfl, h0⟩ := HP.out k hlt
      go_wp2
      go_round
      case rel => exact ⟨k + 1, by omega, by go_num, by first | (go_num; done) | (simp; omega)⟩
      case measure => simp [intOf]; omega
    · have hkn : k = n := by omega
      subst hkn
      go_wp2
      go_returns; exact ⟨rfl, by (repeat' (first | (with_reducible exact Below.refl _ _) | (with_reducible assumption) | (with_reducible refine Below.alloc ?_ ?_ _) | (with_reducible refine Below.drew ?_) | (with_reducible refine Below.setCell ?_ ?_ _) | (with_reducible refine Below.trans ?_ (Below.mono (by assumption) ?_)) | (with_reducible exact Nat.le_refl _) | omega | (simp only [World.size_alloc, World.size_setCell, World.size_drew]; omega) | (simp; omega) | (simp; done)))⟩⟩

/-- What both FirstCells hand back: the same list; the program's may be nil where it is empty. -/
structure FirstN (kind n : Int) (z : List Int) : Prop where
  call : ∀ w : World, Calls Try.prog 39 #[.int .i64 kind, .int .i64 n] w fun e w' => (∃ a cp, e = .returned (.slice a z.length cp) ∧ NumsAt w' a z ∧ MkdAt w' w.heap.size a z.length 0) ∧ Below w.heap.size w w'
structure FirstZ (kind n : Int) (z : List Int) : Prop where
  call : ∀ w : World, Calls Try.prog 60 #[.int .i64 kind, .int .i64 n] w fun e w' => (∃ a cp, e = .returned (.slice a z.length cp) ∧ NumsAt w' a z ∧ ∀ x, a = some x → x.block < w'.heap.size) ∧ Below w.heap.size w w'
theorem IntsMade.parts {B g cp : Nat} {W : World} {z : List Int} (h : IntsMade B W z g cp) : NumsAt W (some ⟨g, 0, Option.none⟩) z ∧ MkdAt W B (some ⟨g, 0, Option.none⟩) z.length 0 ∧ g < W.heap.size := by
  have hl := h.own.lt g rfl
  obtain ⟨_, h2⟩ := h.own
  rcases h2 with ⟨e, _⟩ | ⟨g', cap', cur, e, hB, hb, hn, _, hs, _⟩
  · simp at e
  · simp only [Value.slice.injEq, Option.some.injEq, Addr.mk.injEq] at e
    obtain ⟨⟨rfl, _⟩, _, rfl⟩ := e
    refine ⟨fun k hk => ⟨g, rfl, ?_⟩, .inr ⟨g, cur, rfl, hl.1, hb, by omega, fun j hj => by omega⟩, hl.2⟩
    have := h.own.cellAt k (by omega)
    rw [this]
    simp [List.getD, hk]
theorem first_both {kind n : Int} (hk : (Go.Lit.int .i64 kind).wf = true) (hn : (Go.Lit.int .i64 n).wf = true) : ∃ z : List Int, z.length ≤ 64 ∧ FirstN kind n z ∧ FirstZ kind n z := by
  by_cases hin : 0 ≤ kind ∧ kind ≤ 3 ∧ 1 ≤ n ∧ n ≤ 8
  · obtain ⟨h0, h3, h1, h8⟩ := hin
    obtain ⟨k, rfl⟩ : ∃ k : Nat, kind = k := ⟨kind.toNat, by omega⟩
    obtain ⟨m, rfl⟩ : ∃ m : Nat, n = m := ⟨n.toNat, by omega⟩
    refine ⟨firstsTo k m (m * m), Nat.le_trans (firstsTo_le _ _ _) (Nat.mul_le_mul (show m ≤ 8 by omega) (show m ≤ 8 by omega)), ⟨fun w => ?_⟩, ⟨fun w => ?_⟩⟩
    · refine ((firstI hk hn).call w).mono ?_
      rintro e w' ⟨⟨v, rfl, hv⟩, hb⟩
      rcases hv with ⟨k', m', g, cp, e1, e2, _, _, _, rfl, own⟩ | ⟨hno, _⟩
      · obtain rfl : k = k' := by omega
        obtain rfl : m = m' := by omega
        obtain ⟨p1, p2, _⟩ := own.parts
        exact ⟨⟨_, _, rfl, p1, p2⟩, hb⟩
      · omega
    · refine ((firstMS_yes (k := k) (n := m) (by omega) (by omega) (by omega)).call w).mono ?_
      rintro e w' ⟨⟨g, cp, rfl, own⟩, hb⟩
      obtain ⟨p1, _, p3⟩ := own.parts
      exact ⟨⟨_, _, rfl, p1, fun x hx => by cases hx; exact p3⟩, hb⟩
  · refine ⟨[], by simp, ⟨fun w => ?_⟩, ⟨fun w => ?_⟩⟩
    · refine ((firstI hk hn).call w).mono ?_
      rintro e w' ⟨⟨v, rfl, hv⟩, hb⟩
      rcases hv with ⟨k', m', g, cp, e1, e2, _, _, _, rfl, own⟩ | ⟨hno, rfl⟩
      · omega
      · exact ⟨⟨Option.none, 0, rfl, fun k hk => by simp at hk, .inl rfl⟩, hb⟩
    · have S : FirstMS kind n [] := by
        by_cases h : 0 ≤ kind ∧ kind ≤ 3
        · exact firstMS_size h.1 h.2 (by omega)
        · exact firstMS_kind h
      refine (S.call w).mono ?_
      rintro e w' ⟨⟨g, cp, rfl, own⟩, hb⟩
      obtain ⟨p1, _, p3⟩ := own.parts
      exact ⟨⟨_, _, rfl, p1, fun x hx => by cases hx; exact p3⟩, hb⟩
end Go.Proofs.Ytlnikapkheldeaa
