/-
  Texts Shelfj Sj Sk Sl Sm CeDigit Cstep Cfmt Cfo, joined.
-/
import Derived.Shelf.Strings.OnBuilder
import Derived.Test.YtfdgijmmgllmgaaProg
import Derived.Test.YtfdgijmmgllmgaaW01
import Derived.Test.YtfdgijmmgllmgaaW07
import Derived.Maps.AppendAt
import Derived.OwnWalk
import Derived.Lib.Hide
import Derived.RangeFuncNested
import Derived.RangeFuncBound
import Derived.RangeFuncCalls
import Derived.RangeFuncLeaves
import Derived.Shelf.Abstract
import Derived.Shelf.RegionOpen
import Derived.WalkKit
import Derived.OwnWalkIn
import Derived.TacticsInMore
import Derived.LoopNIn
import Derived.LoopIn
import Derived.Test.YtfdgijmmgllmgaaW10
import Derived.Test.YtfdgijmmgllmgaaW11
import Derived.StillTailTactics
import Derived.Laws.IdiomStrings
namespace Go.Proofs
open Go.Shelf
def Try.lays156_ren : Go.Shelf.Ren := ⟨fun | 156 => 72 | 165 => 108 | 166 => 109 | 169 => 110 | 240 => 132 | 241 => 133 | 276 => 146 | 277 => 147 | n => n, fun | 31 => 34 | 9 => 9 | 3 => 3 | 4 => 4 | 0 => 0 | 20 => 20 | 72 => 149 | 76 => 153 | 70 => 147 | 37 => 22 | 75 => 152 | 127 => 173 | 164 => 182 | 5 => 5 | 80 => 155 | n => n, fun | n => n⟩
theorem Try.lays156 : Go.Proofs.Lays.n156 Try.prog Try.lays156_ren := {
  mixed := by kernel_rfl
  f156 := Try.func72.trans (congrArg some (by kernel_rfl))
  f165 := Try.func108.trans (congrArg some (by kernel_rfl))
  f166 := Try.func109.trans (congrArg some (by kernel_rfl))
  f169 := Try.func110.trans (congrArg some (by kernel_rfl))
  f240 := Try.func132.trans (congrArg some (by kernel_rfl))
  f241 := Try.func133.trans (congrArg some (by kernel_rfl))
  f276 := Try.func146.trans (congrArg some (by kernel_rfl))
  f277 := Try.func147.trans (congrArg some (by kernel_rfl))
  t0 := Try.underlying0
  a0 := Try.isAgg0
  z0 := Try.sizeOf0
  v0 := Try.zeroValue0
  t3 := Try.underlying3
  a3 := Try.isAgg3
  z3 := Try.sizeOf3
  v3 := Try.zeroValue3
  t4 := Try.underlying4
  a4 := Try.isAgg4
  z4 := Try.sizeOf4
  v4 := Try.zeroValue4
  t9 := Try.underlying9
  a9 := Try.isAgg9
  z9 := Try.sizeOf9
  v9 := Try.zeroValue9
  t20 := Try.underlying20
  a20 := Try.isAgg20
  z20 := Try.sizeOf20
  v20 := Try.zeroValue20
  t31 := Try.underlying34
  a31 := Try.isAgg34
  z31 := Try.sizeOf34
  v31 := Try.zeroValue34
  t37 := Try.underlying22
  a37 := Try.isAgg22
  z37 := Try.sizeOf22
  v37 := Try.zeroValue22
  t70 := Try.underlying147
  a70 := Try.isAgg147
  z70 := Try.sizeOf147
  v70 := Try.zeroValue147
  t72 := Try.underlying149
  a72 := Try.isAgg149
  z72 := Try.sizeOf149
  v72 := Try.zeroValue149
  t75 := Try.underlying152
  a75 := Try.isAgg152
  z75 := Try.sizeOf152
  v75 := Try.zeroValue152
  t76 := Try.underlying153
  a76 := Try.isAgg153
  z76 := Try.sizeOf153
  v76 := Try.zeroValue153
  t127 := Try.underlying173
  a127 := Try.isAgg173
  z127 := Try.sizeOf173
  v127 := Try.zeroValue173
  t164 := Try.underlying182
  a164 := Try.isAgg182
  z164 := Try.sizeOf182
  v164 := Try.zeroValue182 }
theorem Try.extra156 : Builder.Extra Try.prog Try.lays156_ren := {
  sizeBuilder := by kernel_rfl
  liesBuilder := by kernel_rfl
  t5 := Try.underlying5
  a5 := Try.isAgg5
  z5 := Try.sizeOf5
  v5 := Try.zeroValue5
  infoByte := by kernel_rfl
  cellsByte := by kernel_rfl
  sizeByte := by kernel_rfl
  neB5 := by decide }
end Go.Proofs
namespace Go.Proofs.Ytfdgijmmgllmgaa
open Go.ChangeShapes Go.WideShapes Go.ChangeAt Go.RowKit Go.Joins
set_option linter.unusedSimpArgs false
set_option linter.unusedVariables false
set_option maxRecDepth 100000
attribute [local go_sem] store_f
open Go.Lib Go.RowKit
theorem join_at (bk o c : Nat) (xs : List ByteArray) (sep : ByteArray) (w : World)
    (hcells : ∀ (j : Nat) x, xs[j]? = some x → w.cell? ⟨bk, o + j, Option.none⟩ = some (.string x))
    (hbk : bk < w.heap.size) (hN : xs.length ≤ 140737488355328) (hcap : xs.length ≤ c)
    (hlen : (Lib.join (xs.map (·.data.toList)) sep.data.toList).length ≤ 140737488355328) :
    Calls Try.prog 72 #[.slice (some ⟨bk, o, Option.none⟩) xs.length c, .string sep] w fun e w' => e = .returned (.string ⟨(Lib.join (xs.map (·.data.toList)) sep.data.toList).toArray⟩) ∧ Below w.heap.size w w' :=
  Any.strings_Join Try.lays156 Try.extra156 bk o c xs sep w hcells hbk hN hcap hlen
end Go.Proofs.Ytfdgijmmgllmgaa
namespace Go.Proofs.Ytfdgijmmgllmgaa
open Go.ChangeShapes Go.WideShapes Go.ChangeAt Go.RowKit Go.Joins
set_option linter.unusedSimpArgs false
set_option linter.unusedVariables false
set_option maxRecDepth 100000
attribute [local go_sem] store_f
open Ieee
structure LitRun (W : World) (b o : Nat) (l : List Lit) : Prop where
  lt : b < W.heap.size
  r : ∀ k, k < l.length → W.cell? ⟨b, o + k * 3, Option.none⟩ = some (.float .f32 (l.getD k default).r)
  g : ∀ k, k < l.length → W.cell? ⟨b, o + k * 3 + 1, Option.none⟩ = some (.float .f32 (l.getD k default).g)
  b : ∀ k, k < l.length → W.cell? ⟨b, o + k * 3 + 2, Option.none⟩ = some (.float .f32 (l.getD k default).b)
theorem LitRun.below {W W' : World} {b o B : Nat} {l : List Lit} (h : LitRun W b o l) (hb : Below B W W') (hB : b < B) : LitRun W' b o l :=
  ⟨Nat.lt_of_lt_of_le h.lt hb.size, fun k hk => (hb.cell (p := ⟨b, _, Option.none⟩) hB).trans (h.r k hk), fun k hk => (hb.cell (p := ⟨b, _, Option.none⟩) hB).trans (h.g k hk), fun k hk => (hb.cell (p := ⟨b, _, Option.none⟩) hB).trans (h.b k hk)⟩
structure FmtM (c : Lit) (s : ByteArray) : Prop where
  call : ∀ w : World, Calls Try.prog 74 #[.agg #[.float .f32 c.r, .float .f32 c.g, .float .f32 c.b]] w fun e w' => e = .returned (.string s) ∧ Below w.heap.size w w'
theorem infoStr : (Try.prog.info? 9).map (fun i => (i.zero, i.size, i.bytes)) = some (some (.string ⟨#[]⟩), 1, 16) := by kernel_rfl
def texts (f : Nat → ByteArray) (k : Nat) : List Value := (List.range k).map fun j => .string (f j)
theorem texts_succ (f : Nat → ByteArray) (k : Nat) : texts f (k + 1) = texts f k ++ [.string (f k)] := by unfold texts; rw [List.range_succ, List.map_append]; rfl
structure Texts (w w' : World) (e : Ending) (f : Nat → ByteArray) (n : Nat) : Prop where
  row : ∃ v, e = .returned v ∧ w'.ownsRow w.heap.size 9 1 v n (texts f n) ∧ v ≠ .slice Option.none 0 0
  below : Below w.heap.size w w'
set_option maxHeartbeats 8000000 in
theorem fmtEach {l : List Lit} {f : Nat → ByteArray} (hl : l.length ≤ 64) (hf : ∀ k, k < l.length → FmtM (l.getD k default) (f k)) (b o cap : Nat) (w : World) (hr : LitRun w b o l) :
    Calls Try.prog 73 #[.slice (some ⟨b, o, Option.none⟩) l.length cap, .func (.func 74) #[] #[]] w fun e w' => Texts w w' e f l.length := by
  have HR : Hid (LitRun w b o l) := hr
  have hbw := hr.lt
  have HF := Lib.hid hf
  clear hr hf
  obtain ⟨i0, hi, hz0, hz1, hz2⟩ := info_parts infoStr
  go_enter Try.func73, Try.ntmps73
  go_wp2_with fail
  go_loopw [5, 11] (fun v i wr => ∃ k : Nat, k ≤ l.length ∧ i = .int .i64 k ∧ wr.ownsRow w.heap.size 9 1 v k (texts f k) ∧ v ≠ .slice Option.none 0 0 ∧ Below w.heap.size w wr)
    (fun _ i _ => l.length - (Lib.intOf i).toNat)
  case atStart => exact ⟨0, by omega, rfl, World.ownsRow_lit _ #[] 0 (by simp) (by unfold maxLen; omega) rfl, by simp, by (repeat' (first | (with_reducible exact Below.refl _ _) | (with_reducible assumption) | (with_reducible refine Below.alloc ?_ ?_ _) | (with_reducible refine Below.drew ?_) | (with_reducible refine Below.setCell ?_ ?_ _) | (with_reducible refine Below.trans ?_ (Below.mono (by assumption) ?_)) | (with_reducible exact Nat.le_refl _) | omega | (simp only [World.size_alloc, World.size_setCell, World.size_drew]; omega) | (simp; omega) | (simp; done)))⟩
  case round =>
    obtain ⟨k, hk, rfl, hown, hnn, hbel⟩ := hrel
    have HN : Hid (u5 ≠ .slice Option.none 0 0) := hnn
    have hbs := hbel.size
    clear hnn
    by_cases hlt : k < l.length
    · have HA := (HF.out k hlt).call
      have hS := HR.out.below hbel hbw
      have c0 := hS.r k hlt
      have c1 := hS.g k hlt
      have c2 := hS.b k hlt
      have hbl := hS.lt
      clear hS
      generalize l.getD k default = c at HA c0 c1 c2
      obtain ⟨cr, cg, cb⟩ := c
      simp only [] at c0 c1 c2 HA
      have HA2 := Lib.hid HA
      clear HA
      go_wp2_with fail
      refine (HA2.out _).mono ?_
      rintro e w2 ⟨rfl, hb2⟩
      have hB2 : Below w.heap.size w w2 := by (repeat' (first | (with_reducible exact Below.refl _ _) | (with_reducible assumption) | (with_reducible refine Below.alloc ?_ ?_ _) | (with_reducible refine Below.drew ?_) | (with_reducible refine Below.setCell ?_ ?_ _) | (with_reducible refine Below.trans ?_ (Below.mono (by assumption) ?_)) | (with_reducible exact Nat.le_refl _) | omega | (simp only [World.size_alloc, World.size_setCell, World.size_drew]; omega) | (simp; omega) | (simp; done)))
      have hs2 := hb2.size
      simp only [World.size_alloc] at hs2
      have hO2 : w2.ownsRow w.heap.size 9 1 u5 k (texts f k) := ownsBelow hb2 (World.ownsRow.alloc hown _)
      clear c0 c1 c2 hb2 HA2
      go_wp2_with (at_builtin; go_loud (refine wpList_append_own_at _ rfl _ _ 34 rfl w.heap.size 9 i0 (.string ⟨#[]⟩) 1 16 Try.underlying34 hi hz0 hz1 hz2 rfl (by decide) _ k (texts f k) rfl ?hown ⟨w2.heap.size, 0, Option.none⟩ 1 1 [.string (f k)] rfl rfl ?c1 ?c2 ?c3 ?c4 ?c5 ?_))
      case hown => (change World.ownsRow _ _ _ _ u5 _ _; (repeat (first | (with_reducible assumption) | (with_reducible refine World.ownsRow.alloc ?_ _) | (with_reducible refine World.ownsRow.drew ?_) | (with_reducible refine ownsBelow (by assumption) ?_))))
      case c1 =>
        intro j u hj
        rcases j with _ | j <;> simp at hj
        subst hj
        simp [Addr.add]
      case c2 =>
        intro u hu
        simp at hu
        subst hu
        rfl
      case c3 => (unfold maxLen; omega)
      case c4 => omega
      case c5 => first | omega | (simp only [World.size_alloc, World.size_setCell, World.size_drew]; omega)
      intro v' w3 hown' hgrow hvn hat
      have HV : Hid (v' ≠ .slice Option.none 0 0) := hvn
      have hb3 : Below w.heap.size w w3 := Below.grown (by (repeat' (first | (with_reducible exact Below.refl _ _) | (with_reducible assumption) | (with_reducible refine Below.alloc ?_ ?_ _) | (with_reducible refine Below.drew ?_) | (with_reducible refine Below.setCell ?_ ?_ _) | (with_reducible refine Below.trans ?_ (Below.mono (by assumption) ?_)) | (with_reducible exact Nat.le_refl _) | omega | (simp only [World.size_alloc, World.size_setCell, World.size_drew]; omega) | (simp; omega) | (simp; done)))) hgrow (by first | omega | (simp only [World.size_alloc, World.size_setCell, World.size_drew]; omega)) (fun q hq => (hown.lt q hq).1)
      clear hgrow hvn hat HN hO2 hown
      go_wp2
      go_roundw
      case rel => exact ⟨k + 1, by omega, by go_num, by rw [texts_succ]; exact hown', HV.out, hb3⟩
      case measure => simp [Lib.intOf]; omega
    · have hkl : k = l.length := by omega
      subst hkl
      have HO := Lib.hid hown
      clear hown
      go_wp2
      go_ret
      exact ⟨⟨_, rfl, HO.out, HN.out⟩, hbel⟩
end Go.Proofs.Ytfdgijmmgllmgaa
namespace Go.Proofs.Ytfdgijmmgllmgaa
open Go.ChangeShapes Go.WideShapes Go.ChangeAt Go.RowKit Go.Joins
set_option linter.unusedSimpArgs false
set_option linter.unusedVariables false
set_option maxRecDepth 100000
attribute [local go_sem] store_f
open Ieee
def StrsAt (W : World) (g n : Nat) (f : Nat → ByteArray) : Prop := g < W.heap.size ∧ ∀ k, k < n → W.cell? ⟨g, k, Option.none⟩ = some (.string (f k))
theorem texts_get (f : Nat → ByteArray) {n k : Nat} (h : k < n) : (texts f n)[k]? = some (.string (f k)) := by
  unfold texts
  rw [List.getElem?_map, List.getElem?_range h]; rfl
theorem strs_of {W : World} {B n : Nat} {v : Value} {f : Nat → ByteArray} (h : W.ownsRow B 9 1 v n (texts f n)) (hn : 1 ≤ n) : ∃ g c, v = .slice (some ⟨g, 0, Option.none⟩) n c ∧ n ≤ c ∧ B ≤ g ∧ StrsAt W g n f := by
  have h' := h
  obtain ⟨h1, h2⟩ := h
  rcases h2 with ⟨_, e⟩ | ⟨g, cap, cur, rfl, hB, hb, hle, hx, hs, hm⟩
  · omega
  · refine ⟨g, cap, rfl, by omega, hB, (h'.lt _ rfl).2, fun k hk => ?_⟩
    rw [h'.cellAt k (by omega)]
    exact texts_get f hk
def lineOf (f : Nat → ByteArray) (n : Nat) : ByteArray := ⟨(Lib.join (((List.range n).map f).map (·.data.toList)) [32]).toArray⟩
structure Shorts (f : Nat → ByteArray) (n : Nat) : Prop where
  few : n ≤ 64
  len : (Lib.join (((List.range n).map f).map (·.data.toList)) [32]).length ≤ 140737488355328
set_option maxHeartbeats 8000000 in
theorem fmtRow {l : List Lit} {f : Nat → ByteArray} (hl : 1 ≤ l.length) (hs : Shorts f l.length) (hf : ∀ k, k < l.length → FmtM (l.getD k default) (f k)) (b o cap : Nat) (w : World) (hr : LitRun w b o l) :
    Calls Try.prog 36 #[.slice (some ⟨b, o, Option.none⟩) l.length cap] w fun e w' => e = .returned (.string (lineOf f l.length)) ∧ Below w.heap.size w w' := by
  have HE := Lib.hid (fmtEach (hs.few) hf b o cap w hr)
  have h64 := hs.few
  have hlen := hs.len
  have hj := Lib.hid (fun (g c : Nat) (W : World) (hc : l.length ≤ c) (hS : StrsAt W g l.length f) => by
    have h := join_at g 0 c ((List.range l.length).map f) ⟨#[32]⟩ W (fun j x hx => by
      rw [List.getElem?_map] at hx
      by_cases hj : j < l.length
      · rw [List.getElem?_range hj] at hx
        simp only [Option.map_some, Option.some.injEq] at hx
        subst hx
        rw [Nat.zero_add]
        exact hS.2 j hj
      · rw [List.getElem?_eq_none (by simpa using hj)] at hx
        simp at hx) hS.1 (by simp; omega) (by simpa using hc) (by simpa using hlen)
    simp only [List.length_map, List.length_range] at h
    exact h)
  clear hr hf hs hlen
  go_enter Try.func36, Try.ntmps36
  go_wp2_with fail
  refine HE.out.mono ?_
  rintro e w1 ⟨⟨v, rfl, hown, _⟩, hb⟩
  obtain ⟨g, c, rfl, hc, hB, hS⟩ := strs_of hown hl
  have hJ := Lib.hid (hj.out g c w1 hc hS)
  clear hown hS hj HE
  go_wp2_with fail
  refine hJ.out.mono ?_
  rintro e w2 ⟨rfl, hb2⟩
  have G2 : Hid (Below w.heap.size w w2) := hb.trans (hb2.mono hb.size)
  clear hb hb2 hJ
  go_wp2
  go_ret
  exact ⟨by unfold lineOf; simp only [List.map_map]; rfl, G2.out⟩
end Go.Proofs.Ytfdgijmmgllmgaa
namespace Go.Proofs.Ytfdgijmmgllmgaa
open Go.RowKit Go.Shelf
attribute [local go_sem] Oper.semAt_some
def rowNo (m : Nat) (h : 1 ≤ m) (j : Nat) : Fin m := ⟨j % m, Nat.mod_lt _ h⟩
def rowsTo (m : Nat) (h : 1 ≤ m) (k : Nat) : List (Fin m) := (List.range k).map (rowNo m h)
theorem rowsTo_succ (m : Nat) (h : 1 ≤ m) (k : Nat) : rowsTo m h (k + 1) = rowsTo m h k ++ [rowNo m h k] := by simp [rowsTo, List.range_succ]
theorem rowsTo_len (m : Nat) (h : 1 ≤ m) (k : Nat) : (rowsTo m h k).length = k := by simp [rowsTo]
def rowEnc (b o m : Nat) (x : Fin m) : Array Value := #[.slice (some ⟨b, o + x.1 * m * 3, Option.none⟩) m m]
theorem drewBy (A : World) : A.grownBy A.drew none := ⟨rfl, rfl, rfl, Nat.le_refl _, fun _ _ _ => rfl⟩
structure Two (p q : Nat) (W W' : World) : Prop where
  a : W'.heap[p]? = W.heap[p]?
  b : W'.heap[q]? = W.heap[q]?
theorem Two.trans {p q : Nat} {A B C : World} (h : Two p q A B) (k : Two p q B C) : Two p q A C := ⟨k.a.trans h.a, k.b.trans h.b⟩
set_option maxRecDepth 100000 in
set_option maxHeartbeats 4000000 in
theorem chunk1_in (F : Fence) (n : Nat) (h7 : F.fn 71) (hro : F.round = none) (hn : 1 ≤ n) (l B1 B2 b o m L cap : Nat) (h1 : 1 ≤ m) (h8 : m ≤ 8) (hL : L = m * m) (hcap : L ≤ cap) (J Jx : List (Fin m) → World → Prop) (hD : ∀ pre A, J pre A → J pre A.drew)
    (hY : ∀ pre x W, J pre W → pre.length < m → YieldAt F (n - 1) Try.prog l (rowEnc b o m x) W fun e W' =>
      (e = .returned (.bool true) ∧ J (pre ++ [x]) W' ∧ Two B1 B2 W W') ∨ (e = .returned (.bool false) ∧ Jx (pre ++ [x]) W'))
    (W : World) (c1 : W.cell? ⟨B1, 0, none⟩ = some (.slice (some ⟨b, o, none⟩) L cap)) (c2 : W.cell? ⟨B2, 0, none⟩ = some (.int .i64 m)) (h0 : J [] W) :
    CallsIn F n Try.prog 71 #[.func (.yield l) #[] #[], .pointer (some ⟨B1, 0, none⟩), .pointer (some ⟨B2, 0, none⟩)] W fun e W' => (∃ v, e = .returned v) ∧
      ((∃ ys, ys = rowsTo m h1 m ∧ J ys W') ∨ (∃ pre, (∃ k, k ≤ m ∧ pre = rowsTo m h1 k) ∧ Jx pre W')) := by
  refine callsIn_of_wp Try.func71 rfl h7 ?_ hro
  simp only [Try.ntmps71, List.size_toArray, List.length_cons, List.length_nil, Nat.reduceAdd, Nat.reduceSub, Array.replicate_succ, Array.replicate_zero, List.push_toArray, List.append_toArray, List.nil_append, List.cons_append]
  gi_wp2
  gi_loopw [4] (fun i wr => ∃ k p : Nat, k ≤ m ∧ p = k * m ∧ i = .int .i64 p ∧ J (rowsTo m h1 k) wr ∧ Two B1 B2 W wr)
    (fun i _ => L - (RowKit.intOf i).toNat)
  case atStart => exact ⟨0, 0, Nat.zero_le _, by simp, rfl, h0, ⟨rfl, rfl⟩⟩
  case round =>
    obtain ⟨k, p, hk, hp, rfl, hJs, hnx⟩ := hrel
    have d1 : wr.cell? ⟨B1, 0, none⟩ = some (.slice (some ⟨b, o, none⟩) L cap) := (World.cell?_of_block (a := ⟨B1, 0, none⟩) hnx.a).trans c1
    have d2 : wr.cell? ⟨B2, 0, none⟩ = some (.int .i64 m) := (World.cell?_of_block (a := ⟨B2, 0, none⟩) hnx.b).trans c2
    have hL64 : L ≤ 64 := by rw [hL]; exact Nat.mul_le_mul h8 h8
    by_cases hlt : k < m
    · have hpm : p + m ≤ L := by rw [hp, hL, ← Nat.succ_mul]; exact Nat.mul_le_mul_right _ hlt
      obtain ⟨fn, tmps, assign, body, hy, hR⟩ := hY _ (rowNo m h1 k) wr.drew (hD _ _ hJs) (by rw [rowsTo_len]; exact hlt)
      have he : rowEnc b o m (rowNo m h1 k) = #[.slice (some ⟨b, o + p * 3, Option.none⟩) m m] := by
        unfold rowEnc rowNo
        simp only [Nat.mod_eq_of_lt hlt]
        rw [hp]
      rw [he] at hy
      have hpl : p < L := by omega
      have HP := Lib.hid hp
      have HL := Lib.hid hL
      clear hp hL he
      gi_wp2
      have hmin : min (m : Int) ((L - p : Nat) : Int) = m := by omega
      gi_region
      all_goals
        gi_wp2
        refine hR.mono ?_
        rintro e W3 (⟨rfl, hJ3, hk3⟩ | ⟨rfl, hJx3⟩)
        · have d3 : W3.cell? ⟨B2, 0, none⟩ = some (.int .i64 m) := (World.cell?_of_block (a := ⟨B2, 0, none⟩) hk3.b).trans d2
          gi_wp2
          go_roundw
          case rel => exact ⟨k + 1, p + m, by omega, by rw [HP.out, Nat.succ_mul], by simp, by rw [rowsTo_succ]; exact hJ3, hnx.trans ⟨hk3.a, hk3.b⟩⟩
          case measure => simp [RowKit.intOf]; omega
        · gi_wp2
          refine bodyPost_ret (results_none rfl _ _ _) rfl ?_
          exact ⟨⟨_, rfl⟩, .inr ⟨_, ⟨k + 1, by omega, (rowsTo_succ _ _ _).symm⟩, hJx3⟩⟩
    · obtain rfl : k = m := by omega
      have hpL : p = L := by rw [hp, hL]
      subst hpL
      clear hp hL
      gi_wp2
      go_end0
      exact ⟨⟨_, rfl⟩, .inl ⟨_, rfl, hJs⟩⟩
theorem chunk_stops (F : Fence) (n : Nat) (h7 : F.fn 71) (hro : F.round = none) (hn : 1 ≤ n) (B1 B2 b o m L cap : Nat) (h1 : 1 ≤ m) (h8 : m ≤ 8) (hL : L = m * m) (hcap : L ≤ cap) (w : World) (hB1 : B1 < w.heap.size) (hB2 : B2 < w.heap.size)
    (c1 : w.cell? ⟨B1, 0, none⟩ = some (.slice (some ⟨b, o, none⟩) L cap)) (c2 : w.cell? ⟨B2, 0, none⟩ = some (.int .i64 m)) :
    SeqStopsK F n Try.prog 71 #[.pointer (some ⟨B1, 0, none⟩), .pointer (some ⟨B2, 0, none⟩)] (rowEnc b o m) (Two B1 B2) (fun ys => ys = rowsTo m h1 m) (fun pre => ∃ k, k ≤ m ∧ pre = rowsTo m h1 k) m w := fun l J Jx W hW hJ _ hY h0 =>
  chunk1_in F n h7 hro hn l B1 B2 b o m L cap h1 h8 hL hcap J Jx (fun pre A h => hJ pre A A.drew none h (drewBy A) (fun r e => by cases e)) hY W ((hW.cell (p := ⟨B1, 0, none⟩) hB1).trans c1) ((hW.cell (p := ⟨B2, 0, none⟩) hB2).trans c2) h0
theorem chunk_i (a : Option Addr) (L cap m : Nat) (h1 : 1 ≤ m) (h8 : m ≤ 8) (w : World) :
    Calls Try.prog 35 #[.slice a L cap, .int .i64 m] w fun e w' => e = .returned (.func (.func 71) #[] #[.pointer (some ⟨w.heap.size, 0, none⟩), .pointer (some ⟨w.heap.size + 1, 0, none⟩)]) ∧ w' = (w.alloc (.cells #[.slice a L cap] 24)).alloc (.cells #[.int .i64 m] 3) := by
  have hm : ¬ ((m : Int) < 1) := by omega
  clear h1
  go_enter Try.func35, Try.ntmps35
  go_wp2
  all_goals (go_ret; exact ⟨rfl, rfl⟩)
end Go.Proofs.Ytfdgijmmgllmgaa
namespace Go.Proofs.Ytfdgijmmgllmgaa
open Go.ChangeShapes Go.WideShapes Go.ChangeAt Go.RowKit Go.Joins
set_option linter.unusedSimpArgs false
set_option linter.unusedVariables false
set_option maxRecDepth 100000
attribute [local go_sem] store_f
theorem eachDigit_i (a0 a1 a2 : Nat) (y0 y1 y2 : Int) (w : World)
    (k0 : ∀ w1 : World, Below w.heap.size w w1 → Calls Try.prog 112 #[.float .f32 a0] w1 fun e w' => e = .returned (.int .u8 y0) ∧ Below w1.heap.size w1 w')
    (k1 : ∀ w1 : World, Below w.heap.size w w1 → Calls Try.prog 112 #[.float .f32 a1] w1 fun e w' => e = .returned (.int .u8 y1) ∧ Below w1.heap.size w1 w')
    (k2 : ∀ w1 : World, Below w.heap.size w w1 → Calls Try.prog 112 #[.float .f32 a2] w1 fun e w' => e = .returned (.int .u8 y2) ∧ Below w1.heap.size w1 w')
    : Calls Try.prog 111 #[.agg #[.float .f32 a0, .float .f32 a1, .float .f32 a2], .func (.func 112) #[] #[]] w fun e w' =>
      e = .returned (.agg #[.int .u8 y0, .int .u8 y1, .int .u8 y2]) ∧ Below w.heap.size w w' := by
  have K0 : Hid (∀ w1 : World, Below w.heap.size w w1 → Calls Try.prog 112 #[.float .f32 a0] w1 fun e w' => e = .returned (.int .u8 y0) ∧ Below w1.heap.size w1 w') := k0
  have K1 : Hid (∀ w1 : World, Below w.heap.size w w1 → Calls Try.prog 112 #[.float .f32 a1] w1 fun e w' => e = .returned (.int .u8 y1) ∧ Below w1.heap.size w1 w') := k1
  have K2 : Hid (∀ w1 : World, Below w.heap.size w w1 → Calls Try.prog 112 #[.float .f32 a2] w1 fun e w' => e = .returned (.int .u8 y2) ∧ Below w1.heap.size w1 w') := k2
  clear k0 k1 k2
  have x0 : ∀ w : World, (Instr.index 104 (.agg #[.float .f32 a0, .float .f32 a1, .float .f32 a2]) (.int .i64 0)).run Try.prog w = .ok (.float .f32 a0) w := fun _ => by kernel_rfl
  have x1 : ∀ w : World, (Instr.index 104 (.agg #[.float .f32 a0, .float .f32 a1, .float .f32 a2]) (.int .i64 1)).run Try.prog w = .ok (.float .f32 a1) w := fun _ => by kernel_rfl
  have x2 : ∀ w : World, (Instr.index 104 (.agg #[.float .f32 a0, .float .f32 a1, .float .f32 a2]) (.int .i64 2)).run Try.prog w = .ok (.float .f32 a2) w := fun _ => by kernel_rfl
  go_enter Try.func111, Try.ntmps111
  go_wp2_with fail
  go_loopw [9] (fun i wr => ∃ k : Int, (k = 0 ∨ k = 1 ∨ k = 2 ∨ k = 3) ∧ i = .int .i64 k ∧ Blk wr (w.heap.size + 2) (row3 (.int .u8 y0) (.int .u8 y1) (.int .u8 y2) (.int .u8 0) k) 156 ∧ Blk wr (w.heap.size + 1) #[.int .u8 0, .int .u8 0, .int .u8 0] 156 ∧ Below w.heap.size w wr)
    (fun i _ => 3 - (intOf i).toNat)
  case atStart => exact ⟨0, Or.inl rfl, rfl, Blk.newAt (by simp), (Blk.newAt (by simp)).alloc, by (repeat' (first | (with_reducible exact Below.refl _ _) | (with_reducible assumption) | (with_reducible refine Below.alloc ?_ ?_ _) | (with_reducible refine Below.drew ?_) | (with_reducible refine Below.setCell ?_ ?_ _) | (with_reducible refine Below.trans ?_ (Below.mono (by assumption) ?_)) | (with_reducible exact Nat.le_refl _) | omega | (simp only [World.size_alloc, World.size_setCell, World.size_drew]; omega) | (simp; omega) | (simp; done)))⟩
  case round =>
    obtain ⟨k, hk, rfl, hB2, hB1, hbel⟩ := hrel
    have l2 := hB2.lt
    have l1 := hB1.lt
    have c20 := hB2.cell 0
    have c21 := hB2.cell 1
    have c22 := hB2.cell 2
    have f20 := hB2.free 0
    have f21 := hB2.free 1
    have f22 := hB2.free 2
    have c10 := hB1.cell 0
    have c11 := hB1.cell 1
    have c12 := hB1.cell 2
    have f10 := hB1.free 0
    have f11 := hB1.free 1
    have f12 := hB1.free 2
    have H2 : Hid (Blk wr (w.heap.size + 2) (row3 (.int .u8 y0) (.int .u8 y1) (.int .u8 y2) (.int .u8 0) k) 156) := hB2
    have H1 : Hid (Blk wr (w.heap.size + 1) #[.int .u8 0, .int .u8 0, .int .u8 0] 156) := hB1
    clear hB2 hB1
    rcases hk with rfl | rfl | rfl | rfl
    all_goals simp [row3] at c20 c21 c22 c10 c11 c12
    · go_wp2_with (first | simp only [x0] | (go_at_call 112; refine (K0.out _ (by (repeat' (first | (with_reducible exact Below.refl _ _) | (with_reducible assumption) | (with_reducible refine Below.alloc ?_ ?_ _) | (with_reducible refine Below.drew ?_) | (with_reducible refine Below.setCell ?_ ?_ _) | (with_reducible refine Below.trans ?_ (Below.mono (by assumption) ?_)) | (with_reducible exact Nat.le_refl _) | omega | (simp only [World.size_alloc, World.size_setCell, World.size_drew]; omega) | (simp; omega) | (simp; done))))).mono ?_; rintro e w1 ⟨rfl, hb⟩; obtain ⟨hc, hf⟩ := bcell hb; have HL := keepL (by (repeat (first | (with_reducible assumption) | (with_reducible apply AllLt.alloc) | (with_reducible apply AllLt.setCell) | (with_reducible apply AllLt.drew) | (with_reducible exact AllLt.nil _)))) hb; have hq := HL; simp only [AllLt, and_true, World.size_alloc, World.size_setCell, World.size_drew] at hq; have hbs := hb.size; try simp only [World.size_alloc, World.size_setCell, World.size_drew] at hbs))
      go_roundw
      case rel => exact ⟨1, by omega, rfl, Blk.setAt (cs := row3 (.int .u8 y0) (.int .u8 y1) (.int .u8 y2) (.int .u8 0) 0) (by omega) (by (repeat (first | (with_reducible exact H2.out) | (with_reducible refine Blk.below ?_ (by assumption)) | (with_reducible refine Blk.alloc ?_) | (with_reducible refine Blk.drew ?_) | (with_reducible refine Blk.other ?_ (by dsimp only; omega))))) rfl, by (repeat (first | (with_reducible exact H1.out) | (with_reducible refine Blk.below ?_ (by assumption)) | (with_reducible refine Blk.alloc ?_) | (with_reducible refine Blk.drew ?_) | (with_reducible refine Blk.other ?_ (by dsimp only; omega)))), by (repeat' (first | (with_reducible exact Below.refl _ _) | (with_reducible assumption) | (with_reducible refine Below.alloc ?_ ?_ _) | (with_reducible refine Below.drew ?_) | (with_reducible refine Below.setCell ?_ ?_ _) | (with_reducible refine Below.trans ?_ (Below.mono (by assumption) ?_)) | (with_reducible exact Nat.le_refl _) | omega | (simp only [World.size_alloc, World.size_setCell, World.size_drew]; omega) | (simp; omega) | (simp; done)))⟩
      case measure => simp [intOf]
    · go_wp2_with (first | simp only [x1] | (go_at_call 112; refine (K1.out _ (by (repeat' (first | (with_reducible exact Below.refl _ _) | (with_reducible assumption) | (with_reducible refine Below.alloc ?_ ?_ _) | (with_reducible refine Below.drew ?_) | (with_reducible refine Below.setCell ?_ ?_ _) | (with_reducible refine Below.trans ?_ (Below.mono (by assumption) ?_)) | (with_reducible exact Nat.le_refl _) | omega | (simp only [World.size_alloc, World.size_setCell, World.size_drew]; omega) | (simp; omega) | (simp; done))))).mono ?_; rintro e w1 ⟨rfl, hb⟩; obtain ⟨hc, hf⟩ := bcell hb; have HL := keepL (by (repeat (first | (with_reducible assumption) | (with_reducible apply AllLt.alloc) | (with_reducible apply AllLt.setCell) | (with_reducible apply AllLt.drew) | (with_reducible exact AllLt.nil _)))) hb; have hq := HL; simp only [AllLt, and_true, World.size_alloc, World.size_setCell, World.size_drew] at hq; have hbs := hb.size; try simp only [World.size_alloc, World.size_setCell, World.size_drew] at hbs))
      go_roundw
      case rel => exact ⟨2, by omega, rfl, Blk.setAt (cs := row3 (.int .u8 y0) (.int .u8 y1) (.int .u8 y2) (.int .u8 0) 1) (by omega) (by (repeat (first | (with_reducible exact H2.out) | (with_reducible refine Blk.below ?_ (by assumption)) | (with_reducible refine Blk.alloc ?_) | (with_reducible refine Blk.drew ?_) | (with_reducible refine Blk.other ?_ (by dsimp only; omega))))) rfl, by (repeat (first | (with_reducible exact H1.out) | (with_reducible refine Blk.below ?_ (by assumption)) | (with_reducible refine Blk.alloc ?_) | (with_reducible refine Blk.drew ?_) | (with_reducible refine Blk.other ?_ (by dsimp only; omega)))), by (repeat' (first | (with_reducible exact Below.refl _ _) | (with_reducible assumption) | (with_reducible refine Below.alloc ?_ ?_ _) | (with_reducible refine Below.drew ?_) | (with_reducible refine Below.setCell ?_ ?_ _) | (with_reducible refine Below.trans ?_ (Below.mono (by assumption) ?_)) | (with_reducible exact Nat.le_refl _) | omega | (simp only [World.size_alloc, World.size_setCell, World.size_drew]; omega) | (simp; omega) | (simp; done)))⟩
      case measure => simp [intOf]
    · go_wp2_with (first | simp only [x2] | (go_at_call 112; refine (K2.out _ (by (repeat' (first | (with_reducible exact Below.refl _ _) | (with_reducible assumption) | (with_reducible refine Below.alloc ?_ ?_ _) | (with_reducible refine Below.drew ?_) | (with_reducible refine Below.setCell ?_ ?_ _) | (with_reducible refine Below.trans ?_ (Below.mono (by assumption) ?_)) | (with_reducible exact Nat.le_refl _) | omega | (simp only [World.size_alloc, World.size_setCell, World.size_drew]; omega) | (simp; omega) | (simp; done))))).mono ?_; rintro e w1 ⟨rfl, hb⟩; obtain ⟨hc, hf⟩ := bcell hb; have HL := keepL (by (repeat (first | (with_reducible assumption) | (with_reducible apply AllLt.alloc) | (with_reducible apply AllLt.setCell) | (with_reducible apply AllLt.drew) | (with_reducible exact AllLt.nil _)))) hb; have hq := HL; simp only [AllLt, and_true, World.size_alloc, World.size_setCell, World.size_drew] at hq; have hbs := hb.size; try simp only [World.size_alloc, World.size_setCell, World.size_drew] at hbs))
      go_roundw
      case rel => exact ⟨3, by omega, rfl, Blk.setAt (cs := row3 (.int .u8 y0) (.int .u8 y1) (.int .u8 y2) (.int .u8 0) 2) (by omega) (by (repeat (first | (with_reducible exact H2.out) | (with_reducible refine Blk.below ?_ (by assumption)) | (with_reducible refine Blk.alloc ?_) | (with_reducible refine Blk.drew ?_) | (with_reducible refine Blk.other ?_ (by dsimp only; omega))))) rfl, by (repeat (first | (with_reducible exact H1.out) | (with_reducible refine Blk.below ?_ (by assumption)) | (with_reducible refine Blk.alloc ?_) | (with_reducible refine Blk.drew ?_) | (with_reducible refine Blk.other ?_ (by dsimp only; omega)))), by (repeat' (first | (with_reducible exact Below.refl _ _) | (with_reducible assumption) | (with_reducible refine Below.alloc ?_ ?_ _) | (with_reducible refine Below.drew ?_) | (with_reducible refine Below.setCell ?_ ?_ _) | (with_reducible refine Below.trans ?_ (Below.mono (by assumption) ?_)) | (with_reducible exact Nat.le_refl _) | omega | (simp only [World.size_alloc, World.size_setCell, World.size_drew]; omega) | (simp; omega) | (simp; done)))⟩
      case measure => simp [intOf]
    · have d0 := (H1.out.set (i := 0) (v := .int .u8 y0)).cell 0
      have d1 := ((H1.out.set (i := 0) (v := .int .u8 y0)).set (i := 1) (v := .int .u8 y1)).cell 1
      have d2 := (((H1.out.set (i := 0) (v := .int .u8 y0)).set (i := 1) (v := .int .u8 y1)).set (i := 2) (v := .int .u8 y2)).cell 2
      simp only [List.setIfInBounds_toArray, List.set_cons_zero, List.set_cons_succ, List.getElem?_toArray, List.getElem?_cons_zero, List.getElem?_cons_succ] at d0 d1 d2
      go_wp2
      exact bodyPost_ret (v := .agg #[.int .u8 y0, .int .u8 y1, .int .u8 y2]) (by simp [results, Try.results111, go_sem, d0, d1, d2]) rfl ⟨rfl, by (repeat' (first | (with_reducible exact Below.refl _ _) | (with_reducible assumption) | (with_reducible refine Below.alloc ?_ ?_ _) | (with_reducible refine Below.drew ?_) | (with_reducible refine Below.setCell ?_ ?_ _) | (with_reducible refine Below.trans ?_ (Below.mono (by assumption) ?_)) | (with_reducible exact Nat.le_refl _) | omega | (simp only [World.size_alloc, World.size_setCell, World.size_drew]; omega) | (simp; omega) | (simp; done)))⟩
end Go.Proofs.Ytfdgijmmgllmgaa
namespace Go.Proofs.Ytfdgijmmgllmgaa
open Ieee
theorem cut_down (neg : Bool) (n drop : Nat) : Toward.cut .zero neg n drop = n / 2 ^ drop := by
  unfold Toward.cut
  simp only [Nat.one_shiftLeft]
  by_cases h : drop ≤ n.log2 + 2
  · rw [Nat.min_eq_left h]; simp
  · rw [Nat.min_eq_right (by omega)]
    have h1 : n < 2 ^ (n.log2 + 1) := Nat.lt_log2_self
    have h2 : 2 ^ (n.log2 + 2) = 2 * 2 ^ (n.log2 + 1) := by rw [Nat.pow_succ, Nat.mul_comm]
    have h3 : 2 ^ (n.log2 + 2) ≤ 2 ^ drop := Nat.pow_le_pow_right (by omega) (by omega)
    have e1 : n / 2 ^ (n.log2 + 2) = 0 := Nat.div_eq_of_lt (by omega)
    have e2 : n / 2 ^ drop = 0 := Nat.div_eq_of_lt (by omega)
    rw [e1, e2]; rfl
def wholeOf (r : Nat) : Nat := magOf F32 (rungOf F32 r) / 2 ^ 149
theorem whole_div (s u k : Nat) : (s <<< ((-(k : Int) + (u : Nat)).toNat)) / 2 ^ ((-(-(k : Int) + (u : Nat))).toNat) = s * 2 ^ u / 2 ^ k := by
  rw [Nat.shiftLeft_eq]
  rcases Nat.le_total k u with h | h
  · have e1 : (-(k : Int) + (u : Nat)).toNat = u - k := by omega
    have e2 : (-(-(k : Int) + (u : Nat))).toNat = 0 := by omega
    have e3 : 2 ^ u = 2 ^ (u - k) * 2 ^ k := by rw [← Nat.pow_add, Nat.sub_add_cancel h]
    rw [e1, e2, e3, ← Nat.mul_assoc, Nat.mul_div_cancel _ (Nat.two_pow_pos k), Nat.pow_zero, Nat.div_one]
  · have e1 : (-(k : Int) + (u : Nat)).toNat = 0 := by omega
    have e2 : (-(-(k : Int) + (u : Nat))).toNat = k - u := by omega
    have e3 : 2 ^ k = 2 ^ (k - u) * 2 ^ u := by rw [← Nat.pow_add, Nat.sub_add_cancel h]
    rw [e1, e2, e3, Nat.mul_div_mul_right _ _ (Nat.two_pow_pos u), Nat.pow_zero, Nat.mul_one]
theorem toInt_fin {r : Nat} (h : Fin32 r) (hn : negOf F32 r = true → rungOf F32 r = 0) (hb : wholeOf r ≤ 16) : floatToIntVal .f32 r .i64 = some (wholeOf r : Int) := by
  have e : (FloatKind.f32.decode r).toInt .zero = some (wholeOf r : Int) := by
    show (F32.read r).toInt .zero = _
    rw [read_fin F32 h]
    simp only [Datum.toInt, Datum.integral]
    rw [cut_down, F32_lp, whole_div]
    show some (signed _ (wholeOf r) 0) = _
    congr 1
    cases hs : negOf F32 r
    · simp [signed]
    · have : wholeOf r = 0 := by unfold wholeOf; rw [hn hs, magOf_zero, Nat.zero_div]
      rw [this]; simp [signed]
  unfold floatToIntVal
  rw [e]
  simp only
  rw [if_pos]
  constructor
  · have : IntKind.i64.min = -9223372036854775808 := by decide
    omega
  · have : IntKind.i64.max = 9223372036854775807 := by decide
    omega
theorem mag_16 : magOf F32 1098907648 = 16 * 2 ^ 149 := by decide +kernel
def by16 (x : Nat) : Nat := roundMul F32 149 (negOf F32 x) (16 * 2 ^ 149 * pm x)
theorem mul16 {x : Nat} (h : Part x) : F32.mul 1098907648 x = some (by16 x) ∧ F32.mul x 1098907648 = some (by16 x) ∧ Fin32 (by16 x) ∧ (negOf F32 (by16 x) = true → rungOf F32 (by16 x) = 0) ∧ wholeOf (by16 x) ≤ 16 := by
  have f16 : Fin32 1098907648 := fin_of_lt (by omega)
  have r16 : rungOf F32 1098907648 = 1098907648 := rung_of_lt (by omega)
  have n16 : negOf F32 1098907648 = false := neg_of_lt (by omega)
  have e1 := mul_fin F32 (q := 149) F32_lp f16 h.fin
  have e2 := mul_fin F32 (q := 149) F32_lp h.fin f16
  rw [r16, n16, mag_16] at e1 e2
  have hN : 16 * 2 ^ 149 * pm x ≤ magOf F32 1098907648 * 2 ^ 149 := by rw [mag_16]; exact Nat.mul_le_mul_left _ h.pm_le
  obtain ⟨e3, l3⟩ := roundMul_eq 149 (negOf F32 x) (16 * 2 ^ 149 * pm x) (R := 1098907648) (by omega) hN
  have eb : by16 x = F32.word (negOf F32 x) (rn F32 (16 * 2 ^ 149 * pm x) 149) := e3
  have hr : rungOf F32 (by16 x) = rn F32 (16 * 2 ^ 149 * pm x) 149 := by rw [eb]; exact rungOf_word F32 _ (by rw [F32_sw]; omega)
  refine ⟨?_, ?_, ?_, ?_, ?_⟩
  · rw [e1]; simp only [Bool.false_xor]; rfl
  · rw [e2, Nat.mul_comm]; simp only [Bool.xor_false]; rfl
  · rw [eb]; exact fin_word _ (by omega)
  · intro hn
    have h1 : negOf F32 (by16 x) = negOf F32 x := by rw [eb]; exact negOf_word F32 _ (by rw [F32_sw]; omega)
    rw [h1] at hn
    have h2 : pm x = 0 := by unfold pm; rw [h.neg hn, magOf_zero]
    rw [hr, h2, Nat.mul_zero, rn_zero]
  · unfold wholeOf
    rw [hr]
    have h1 := magOf_le F32 l3
    rw [mag_16] at h1
    exact Nat.div_le_of_le_mul (Nat.le_trans h1 (Nat.le_of_eq (Nat.mul_comm _ _)))
def stepN (x : Nat) : Nat := min (wholeOf (by16 x)) 15
end Go.Proofs.Ytfdgijmmgllmgaa
namespace Go.Proofs.Ytfdgijmmgllmgaa
open Go.ChangeShapes Go.WideShapes Go.ChangeAt Go.RowKit Go.Joins
set_option linter.unusedSimpArgs false
set_option linter.unusedVariables false
set_option maxRecDepth 100000
attribute [local go_sem] store_f
open Ieee
def dg (n : Nat) : UInt8 := if n < 10 then UInt8.ofNat (48 + n) else UInt8.ofNat (87 + n)
def dig3 (a b c : Nat) : ByteArray := ⟨#[dg a, dg b, dg c]⟩
theorem up16 {q : Nat} (h : q ≤ 16) : q = 0 ∨ q = 1 ∨ q = 2 ∨ q = 3 ∨ q = 4 ∨ q = 5 ∨ q = 6 ∨ q = 7 ∨ q = 8 ∨ q = 9 ∨ q = 10 ∨ q = 11 ∨ q = 12 ∨ q = 13 ∨ q = 14 ∨ q = 15 ∨ q = 16 := by omega
theorem index_digit (n : Nat) (h : n ≤ 15) (w : World) :
    (Instr.index 9 (.string ⟨#[48, 49, 50, 51, 52, 53, 54, 55, 56, 57, 97, 98, 99, 100, 101, 102]⟩) (.int .i64 n)).run Try.prog w = .ok (.int .u8 ((dg n).toNat : Int)) w := by
  rcases up16 (Nat.le_succ_of_le h) with rfl | rfl | rfl | rfl | rfl | rfl | rfl | rfl | rfl | rfl | rfl | rfl | rfl | rfl | rfl | rfl | rfl
  all_goals first | (exfalso; omega) | kernel_rfl
theorem digitOfPart_of {x r q : Nat} (hq : q ≤ 16) (hm : FloatKind.f32.format.mul 1098907648 x = some r) (ht : floatToIntVal .f32 r .i64 = some (q : Int)) (w : World) :
    Calls Try.prog 112 #[.float .f32 x] w fun e w' => e = .returned (.int .u8 ((dg (min q 15)).toNat : Int)) ∧ w' = w := by
  have hop := fun t w => run_float_arith (P := Try.prog) w .mul t .f32 1098907648 x r hm
  have hcv := fun w => run_convert_float_int (P := Try.prog) w 30 3 .f32 .i64 r q (by rw [Try.underlying30]; rfl) Try.underlying3 ht
  clear hm ht
  by_cases h15 : q ≤ 15
  · have e : min q 15 = q := by omega
    rw [e]
    have hix := fun w => index_digit q h15 w
    have hlt : ¬ (15 : Int) < (q : Int) := by omega
    have hmn : min (q : Int) 15 = (q : Int) := by omega
    go_enter Try.func112, Try.ntmps112
    go_wp2_with (first | simp only [hop] | simp only [hcv] | simp only [hix])
    all_goals (go_ret; exact ⟨rfl, rfl⟩)
  · obtain rfl : q = 16 := by omega
    go_enter Try.func112, Try.ntmps112
    go_wp2_with (first | simp only [hop] | simp only [hcv])
    all_goals (go_ret; exact ⟨by first | rfl | decide, rfl⟩)
theorem digitOfPart_i {x : Nat} (h : Part x) (w : World) :
    Calls Try.prog 112 #[.float .f32 x] w fun e w' => e = .returned (.int .u8 ((dg (stepN x)).toNat : Int)) ∧ Below w.heap.size w w' := by
  obtain ⟨e1, _, hf, hn, hb⟩ := mul16 h
  refine (digitOfPart_of hb e1 (toInt_fin hf hn hb) w).mono ?_
  rintro e w1 ⟨rfl, rfl⟩
  exact ⟨rfl, Below.refl _ _⟩
theorem three_back (a b c : UInt8) (w1 : World) :
    (convert 22 9 (.slice (some ⟨w1.heap.size, 0, Option.none⟩) 3 3)).run Try.prog (w1.alloc (.cells #[.int .u8 a.toNat, .int .u8 b.toNat, .int .u8 c.toNat] 156)) = .ok (.string ⟨#[a, b, c]⟩) (w1.alloc (.cells #[.int .u8 a.toNat, .int .u8 b.toNat, .int .u8 c.toNat] 156)) := by
  exact run_convert_bytes_back (P := Try.prog) (w1.alloc (.cells #[.int .u8 a.toNat, .int .u8 b.toNat, .int .u8 c.toNat] 156)) 22 9 5 ⟨w1.heap.size, 0, Option.none⟩ 3 [a, b, c] Try.underlying22 Try.underlying5 Try.underlying9 (by
    intro j hj
    have hj3 : j < 3 := by simpa using hj
    rcases (by omega : j = 0 ∨ j = 1 ∨ j = 2) with rfl | rfl | rfl
    all_goals simp [Addr.add])
end Go.Proofs.Ytfdgijmmgllmgaa
namespace Go.Proofs.Ytfdgijmmgllmgaa
open Go.ChangeShapes Go.WideShapes Go.ChangeAt Go.RowKit Go.Joins
set_option linter.unusedSimpArgs false
set_option linter.unusedVariables false
set_option maxRecDepth 100000
attribute [local go_sem] store_f
open Ieee
theorem format_i_yes (a b c : Nat) (ha : Part a) (hb : Part b) (hc : Part c) (w : World) :
    Calls Try.prog 74 #[colV a b c] w fun e w' => e = .returned (.string (dig3 (stepN a) (stepN b) (stepN c))) ∧ Below w.heap.size w w' := by
  have K : Hid (∀ w : World, Calls Try.prog 63 #[colV a b c] w fun e w' => e = .returned (.bool true) ∧ Below w.heap.size w w') := fun w => parts_colB ha hb hc ▸ isColour_i a b c w
  have E : Hid (∀ w : World, Calls Try.prog 111 #[.agg #[.float .f32 a, .float .f32 b, .float .f32 c], .func (.func 112) #[] #[]] w fun e w' =>
      e = .returned (.agg #[.int .u8 ((dg (stepN a)).toNat : Int), .int .u8 ((dg (stepN b)).toNat : Int), .int .u8 ((dg (stepN c)).toNat : Int)]) ∧ Below w.heap.size w w') := fun w => eachDigit_i _ _ _ _ _ _ w (fun w1 _ => digitOfPart_i ha w1) (fun w1 _ => digitOfPart_i hb w1) (fun w1 _ => digitOfPart_i hc w1)
  clear ha hb hc
  unfold dig3
  generalize dg (stepN a) = x at E ⊢
  generalize dg (stepN b) = y at E ⊢
  generalize dg (stepN c) = z at E ⊢
  have P : Hid (∀ w : World, Calls Try.prog 97 #[colV a b c] w fun e w' => e = .returned (.agg #[.float .f32 a, .float .f32 b, .float .f32 c]) ∧ Below w.heap.size w w') := fun w => partsOf_i a b c w
  have k3 := fun (w1 : World) => three_back x y z w1
  unfold colV at K P ⊢
  go_enter Try.func74, Try.ntmps74
  go_wp2_with (first | simp only [k3] | (go_at_call 63; refine (K.out _).mono ?_; rintro e w1 ⟨rfl, hb⟩; obtain ⟨hc, hf⟩ := bcell hb; have HL := keepL (by (repeat (first | (with_reducible assumption) | (with_reducible apply AllLt.alloc) | (with_reducible apply AllLt.setCell) | (with_reducible apply AllLt.drew) | (with_reducible exact AllLt.nil _)))) hb; have hq := HL; simp only [AllLt, and_true, World.size_alloc, World.size_setCell, World.size_drew] at hq; have hbs := hb.size; try simp only [World.size_alloc, World.size_setCell, World.size_drew] at hbs) | (go_at_call 97; refine (P.out _).mono ?_; rintro e w2 ⟨rfl, hb⟩; obtain ⟨hc, hf⟩ := bcell hb; have HL := keepL (by (repeat (first | (with_reducible assumption) | (with_reducible apply AllLt.alloc) | (with_reducible apply AllLt.setCell) | (with_reducible apply AllLt.drew) | (with_reducible exact AllLt.nil _)))) hb; have hq := HL; simp only [AllLt, and_true, World.size_alloc, World.size_setCell, World.size_drew] at hq; have hbs := hb.size; try simp only [World.size_alloc, World.size_setCell, World.size_drew] at hbs) | (go_at_call 111; refine (E.out _).mono ?_; rintro e w3 ⟨rfl, hb⟩; obtain ⟨hc, hf⟩ := bcell hb; have HL := keepL (by (repeat (first | (with_reducible assumption) | (with_reducible apply AllLt.alloc) | (with_reducible apply AllLt.setCell) | (with_reducible apply AllLt.drew) | (with_reducible exact AllLt.nil _)))) hb; have hq := HL; simp only [AllLt, and_true, World.size_alloc, World.size_setCell, World.size_drew] at hq; have hbs := hb.size; try simp only [World.size_alloc, World.size_setCell, World.size_drew] at hbs))
  all_goals (go_returns; exact ⟨rfl, by (repeat' (first | (with_reducible exact Below.refl _ _) | (with_reducible assumption) | (with_reducible refine Below.alloc ?_ ?_ _) | (with_reducible refine Below.drew ?_) | (with_reducible refine Below.setCell ?_ ?_ _) | (with_reducible refine Below.trans ?_ (Below.mono (by assumption) ?_)) | (with_reducible exact Nat.le_refl _) | omega | (simp only [World.size_alloc, World.size_setCell, World.size_drew]; omega) | (simp; omega) | (simp; done)))⟩)
end Go.Proofs.Ytfdgijmmgllmgaa
