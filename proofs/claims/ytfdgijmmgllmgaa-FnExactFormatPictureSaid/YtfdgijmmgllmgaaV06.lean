/-
  Texts So Open Sthree Mb Mc Sp Sq Sr Ss, joined.
-/
import Derived.Test.YtfdgijmmgllmgaaV05
import Derived.Test.YtfdgijmmgllmgaaV01
import Derived.Maps.AppendAt
import Derived.Test.YtfdgijmmgllmgaaV03
import Derived.Deep.DeepCutAuto
import Derived.Deep.RegionHeld3
import Derived.StillTactics
import Derived.Test.YtfdgijmmgllmgaaV04
import Derived.Deep.QuietTactic
import Derived.BigQuiet
import Derived.WalkLawsBesides
namespace Go.Proofs.Ytfdgijmmgllmgaa
open Go.ChangeShapes Go.WideShapes Go.ChangeAt Go.RowKit Go.Joins
set_option linter.unusedSimpArgs false
set_option linter.unusedVariables false
set_option maxRecDepth 100000
attribute [local go_sem] store_f
open Ieee
theorem rowOf_len {l : List Lit} {m x : Nat} (hl : l.length = m * m) (hx : x < m) : (rowOf l m x).length = m := by
  have h : x * m + m ≤ m * m := by rw [← Nat.succ_mul]; exact Nat.mul_le_mul_right _ hx
  simp [rowOf]; omega
theorem rowOf_get {l : List Lit} {m x k : Nat} (hk : k < m) : (rowOf l m x).getD k default = l.getD (x * m + k) default := by
  unfold rowOf
  rw [List.getD_eq_getElem?_getD, List.getD_eq_getElem?_getD, List.getElem?_take_of_lt hk, List.getElem?_drop]
theorem join3 (xs : List ByteArray) (h : ∀ x ∈ xs, x.data.toList.length = 3) : (Lib.join (xs.map (·.data.toList)) [32]).length ≤ 4 * xs.length := by
  cases xs with
  | nil => simp [Lib.join, List.intercalate]
  | cons y r =>
    rw [List.map_cons, Lib.join_cons, List.length_append, h y (by simp)]
    have h2 : ∀ (r : List ByteArray), (∀ x ∈ r, x.data.toList.length = 3) → (Lib.joinTail [32] (r.map (·.data.toList))).length = 4 * r.length := by
      intro r hr
      induction r with
      | nil => simp [Lib.joinTail]
      | cons z t ih =>
        have := ih (fun x hx => hr x (by simp [hx]))
        have hz := hr z (by simp)
        simp [Lib.joinTail] at this ⊢
        simp at hz
        omega
    rw [h2 r (fun x hx => h x (by simp [hx]))]
    simp; omega
theorem txt_len (c : Lit) : (txt c).data.toList.length = 3 := by simp [txt, dig3]
theorem rowRun {l : List Lit} {m x b o : Nat} {W : World} (hl : l.length = m * m) (hx : x < m) (h : LitRow W b o l) (hb : b < W.heap.size) : LitRun W b (o + x * m * 3) (rowOf l m x) := by
  have hm : x * m + m ≤ m * m := by rw [← Nat.succ_mul]; exact Nat.mul_le_mul_right _ hx
  have e : ∀ k, o + x * m * 3 + k * 3 = o + (x * m + k) * 3 := fun k => by omega
  refine ⟨hb, fun k hk => ?_, fun k hk => ?_, fun k hk => ?_⟩ <;> rw [rowOf_len hl hx] at hk <;> rw [rowOf_get hk, e k]
  · exact (h (x * m + k) (by omega)).1
  · exact (h (x * m + k) (by omega)).2.1
  · exact (h (x * m + k) (by omega)).2.2
theorem fmtRowAt {l : List Lit} {m x b o : Nat} (h1 : 1 ≤ m) (h8 : m ≤ 8) (hl : l.length = m * m) (hx : x < m) (hf : ∀ k, k < l.length → FmtM (l.getD k default) (txt (l.getD k default))) (W : World) (h : LitRow W b o l) (hb : b < W.heap.size) :
    Calls Try.prog 36 #[.slice (some ⟨b, o + x * m * 3, Option.none⟩) m m] W fun e W' => e = .returned (.string (lineAt l m x)) ∧ Below W.heap.size W W' := by
  have hm : x * m + m ≤ m * m := by rw [← Nat.succ_mul]; exact Nat.mul_le_mul_right _ hx
  have hn := rowOf_len hl hx
  have hs : Shorts (fun k => txt ((rowOf l m x).getD k default)) (rowOf l m x).length := ⟨by omega, by
    have h3 := join3 ((List.range (rowOf l m x).length).map fun k => txt ((rowOf l m x).getD k default)) (fun y hy => by
      obtain ⟨k, _, rfl⟩ := List.mem_map.1 hy
      exact txt_len _)
    simp only [List.length_map, List.length_range] at h3
    omega⟩
  have h4 := fmtRow (l := rowOf l m x) (f := fun k => txt ((rowOf l m x).getD k default)) (by omega) hs (fun k hk => by
    rw [hn] at hk
    rw [rowOf_get hk]
    exact hf _ (by omega)) b (o + x * m * 3) m W (rowRun hl hx h hb)
  rw [hn] at h4
  exact h4
end Go.Proofs.Ytfdgijmmgllmgaa
namespace Go.Proofs.Ytfdgijmmgllmgaa
open Go.ChangeShapes Go.WideShapes Go.ChangeAt Go.RowKit Go.Joins
section
variable {H : Type} {enc : TypeId × Value → H} {W : World} {base : Nat} {spare : Nat → Bool} {held : Bool} {v : Value} {d : DataW H} {p : List MemPlace}
theorem wf_i64 {n : Int} (h : (Lit.int .i64 n).wf = true) : -9223372036854775808 ≤ n ∧ n ≤ 9223372036854775807 := bounds_i64 h
end
end Go.Proofs.Ytfdgijmmgllmgaa
namespace Go.Proofs.Ytfdgijmmgllmgaa
open Go.ChangeShapes Go.WideShapes Go.ChangeAt Go.RowKit Go.Joins 
set_option linter.unusedSimpArgs false
set_option linter.unusedVariables false
def lieB (x lo hi : Int) : Bool := decide (lo ≤ x) && decide (x ≤ hi)
theorem lieB_yes {x lo hi : Int} (h : lo ≤ x) (h' : x ≤ hi) : lieB x lo hi = true := by simp [lieB, h, h']
theorem lieB_no {x lo hi : Int} (h : ¬ (lo ≤ x ∧ x ≤ hi)) : lieB x lo hi = false := by
  simp [lieB]
  omega
theorem l1In_s (x lo hi : Int) (w : World) :
    Calls Try.prog 75 #[.int .i64 x, .int .i64 lo, .int .i64 hi] w fun e w' => e = .returned (.bool (lieB x lo hi)) ∧ Below w.heap.size w w' := by
  by_cases h : lo ≤ x
  · by_cases h' : x ≤ hi
    · rw [lieB_yes h h']
      go_enter Try.func75, Try.ntmps75
      go_wp2
      go_returns; exact ⟨rfl, by (repeat' (first | (with_reducible exact Below.refl _ _) | (with_reducible assumption) | (with_reducible refine Below.alloc ?_ ?_ _) | (with_reducible refine Below.drew ?_) | (with_reducible refine Below.setCell ?_ ?_ _) | (with_reducible refine Below.trans ?_ (Below.mono (by assumption) ?_)) | (with_reducible exact Nat.le_refl _) | omega | (simp only [World.size_alloc, World.size_setCell, World.size_drew]; omega) | (simp; omega) | (simp; done)))⟩
    · rw [lieB_no (fun q => h' q.2)]
      go_enter Try.func75, Try.ntmps75
      go_wp2
      go_returns; exact ⟨rfl, by (repeat' (first | (with_reducible exact Below.refl _ _) | (with_reducible assumption) | (with_reducible refine Below.alloc ?_ ?_ _) | (with_reducible refine Below.drew ?_) | (with_reducible refine Below.setCell ?_ ?_ _) | (with_reducible refine Below.trans ?_ (Below.mono (by assumption) ?_)) | (with_reducible exact Nat.le_refl _) | omega | (simp only [World.size_alloc, World.size_setCell, World.size_drew]; omega) | (simp; omega) | (simp; done)))⟩
  · rw [lieB_no (fun q => h q.1)]
    go_enter Try.func75, Try.ntmps75
    go_wp2
    go_returns; exact ⟨rfl, by (repeat' (first | (with_reducible exact Below.refl _ _) | (with_reducible assumption) | (with_reducible refine Below.alloc ?_ ?_ _) | (with_reducible refine Below.drew ?_) | (with_reducible refine Below.setCell ?_ ?_ _) | (with_reducible refine Below.trans ?_ (Below.mono (by assumption) ?_)) | (with_reducible exact Nat.le_refl _) | omega | (simp only [World.size_alloc, World.size_setCell, World.size_drew]; omega) | (simp; omega) | (simp; done)))⟩
end Go.Proofs.Ytfdgijmmgllmgaa
namespace Go.Proofs.Ytfdgijmmgllmgaa
open Go.ChangeShapes Go.WideShapes Go.ChangeAt Go.RowKit Go.Joins
set_option linter.unusedSimpArgs false
set_option linter.unusedVariables false
set_option maxRecDepth 100000
attribute [local go_sem] store_f
open Ieee
attribute [local go_sem] store_c
structure LieM (x lo hi : Int) (b : Bool) : Prop where
  call : ∀ w : World, Calls Try.prog 75 #[.int .i64 x, .int .i64 lo, .int .i64 hi] w fun e w' => e = .returned (.bool b) ∧ Below w.heap.size w w'
theorem lieM_yes {x lo hi : Int} (h : lo ≤ x) (h' : x ≤ hi) : LieM x lo hi true := ⟨fun w => by
  have H := l1In_s x lo hi w
  rwa [lieB_yes h h'] at H⟩
theorem lieM_no {x lo hi : Int} (h : ¬ (lo ≤ x ∧ x ≤ hi)) : LieM x lo hi false := ⟨fun w => by
  have H := l1In_s x lo hi w
  rwa [lieB_no h] at H⟩
end Go.Proofs.Ytfdgijmmgllmgaa
namespace Go.Proofs.Ytfdgijmmgllmgaa
open Go.ChangeShapes Go.WideShapes Go.ChangeAt Go.RowKit Go.Joins
set_option linter.unusedSimpArgs false
set_option linter.unusedVariables false
set_option maxRecDepth 100000
attribute [local go_sem] store_f
open Ieee
structure Lit.W (c : Lit) : Prop where
  r : c.r < 4294967296
  g : c.g < 4294967296
  b : c.b < 4294967296
structure PicS (n : Int) (a : Option Addr) (cap : Nat) (l : List Lit) (p : Bool) : Prop where
  call : ∀ w : World, LitsAt w a l → Calls Try.prog 38 #[.agg #[.int .i64 n, .slice a l.length cap]] w fun e w' => e = .returned (.bool p) ∧ Below w.heap.size w w'
structure ColS (c : Lit) (p : Bool) : Prop where
  call : ∀ w : World, Calls Try.prog 76 #[.agg #[.float .f32 c.r, .float .f32 c.g, .float .f32 c.b]] w fun e w' => e = .returned (.bool p) ∧ Below w.heap.size w w'
theorem colS_of {c : Lit} (h : c.W) : ColS c c.isB := ⟨fun w => isColour_s c.r c.g c.b h.r h.g h.b w⟩
set_option maxHeartbeats 4000000 in
theorem picS_size {n : Int} {a : Option Addr} {cap : Nat} {l : List Lit} (h : sizeB n = false) : PicS n a cap l false := ⟨fun w hrow => by
  have S : LieM n 1 8 false := lieM_no (by unfold sizeB at h; simp at h; omega)
  clear hrow h
  go_enter Try.func38, Try.ntmps38
  go_wp2_with ((go_at_call 75; refine (S.call _).mono ?_; rintro e w1 ⟨rfl, hb⟩; obtain ⟨hc, hf⟩ := bcell hb; have HL := keepL (by (repeat (first | (with_reducible assumption) | (with_reducible apply AllLt.alloc) | (with_reducible apply AllLt.setCell) | (with_reducible apply AllLt.drew) | (with_reducible exact AllLt.nil _)))) hb; have hq := HL; simp only [AllLt, and_true, World.size_alloc, World.size_setCell, World.size_drew] at hq; have hbs := hb.size; try simp only [World.size_alloc, World.size_setCell, World.size_drew] at hbs))
  go_ret
  exact ⟨rfl, by (repeat' (first | (with_reducible exact Below.refl _ _) | (with_reducible assumption) | (with_reducible refine Below.alloc ?_ ?_ _) | (with_reducible refine Below.drew ?_) | (with_reducible refine Below.setCell ?_ ?_ _) | (with_reducible refine Below.trans ?_ (Below.mono (by assumption) ?_)) | (with_reducible exact Nat.le_refl _) | omega | (simp only [World.size_alloc, World.size_setCell, World.size_drew]; omega) | (simp; omega) | (simp; done)))⟩⟩
set_option maxHeartbeats 4000000 in
theorem picS_len {n : Int} {a : Option Addr} {cap : Nat} {l : List Lit} (h : sizeB n = true) (hl : (l.length : Int) ≠ n * n) : PicS n a cap l false := ⟨fun w hrow => by
  unfold sizeB at h
  simp at h
  clear hrow
  rcases (by omega : n = 1 ∨ n = 2 ∨ n = 3 ∨ n = 4 ∨ n = 5 ∨ n = 6 ∨ n = 7 ∨ n = 8) with rfl | rfl | rfl | rfl | rfl | rfl | rfl | rfl
  all_goals
    simp only [Int.reduceMul] at hl
    clear h
    go_enter Try.func38, Try.ntmps38
    go_wp2
    go_ret
    exact ⟨rfl, by (repeat' (first | (with_reducible exact Below.refl _ _) | (with_reducible assumption) | (with_reducible refine Below.alloc ?_ ?_ _) | (with_reducible refine Below.drew ?_) | (with_reducible refine Below.setCell ?_ ?_ _) | (with_reducible refine Below.trans ?_ (Below.mono (by assumption) ?_)) | (with_reducible exact Nat.le_refl _) | omega | (simp only [World.size_alloc, World.size_setCell, World.size_drew]; omega) | (simp; omega) | (simp; done)))⟩⟩
theorem picS_all {n : Int} {a : Option Addr} {cap : Nat} {l : List Lit} (hw : ∀ c ∈ l, c.W) (h : sizeB n = true) (hl : (l.length : Int) = n * n) : PicS n a cap l (l.all Lit.isB) := ⟨fun w hrow => by
  unfold sizeB at h
  simp at h
  obtain ⟨N, hN⟩ : ∃ N : Nat, N = l.length := ⟨_, rfl⟩
  have hN2 : N ≤ 64 := by
    have h2 : n * n ≤ 8 * 8 := Int.mul_le_mul (by omega) (by omega) (by omega) (by omega)
    omega
  have HNN : Hid (n * n = (N : Int)) := by show n * n = (N : Int); omega
  have HR : Hid (LitsAt w a l) := hrow
  rw [← hN]
  have HN : Hid (N = l.length) := hN
  have HG : Hid (∀ j, j < N → l.all Lit.isB = true → (l.getD j default).isB = true) := fun j hj hh => by
    have h1 : j < l.length := by omega
    have h2 := List.all_eq_true.1 hh l[j] (List.getElem_mem h1)
    simpa [List.getD, h1] using h2
  have HA : Hid ((∀ j, j < N → (l.getD j default).isB = true) → l.all Lit.isB = true) := fun hh => by
    rw [List.all_eq_true]
    intro c hc
    obtain ⟨j, hj, rfl⟩ := List.mem_iff_getElem.1 hc
    have h2 := hh j (by omega)
    simpa [List.getD, hj] using h2
  have HW : Hid (∀ j, j < N → (l.getD j default).W) := fun j hj => by
    have h1 : j < l.length := by omega
    exact hw _ (by simp [List.getD, h1])
  clear hrow hl hN hw
  generalize l.all Lit.isB = p at HG HA ⊢
  have S : LieM n 1 8 true := lieM_yes (by omega) (by omega)
  obtain ⟨h1, h8⟩ := h
  have hNN := HNN.out
  go_enter Try.func38, Try.ntmps38
  go_wp2_with fail
  have P0 : Hid (Blk (w.alloc (.cells #[.int .i64 n, .slice a N cap] 26)) w.heap.size #[.int .i64 n, .slice a N cap] 26) := Blk.new _ _ _
  refine (S.call _).mono ?_
  rintro e w1 ⟨rfl, hb⟩
  have P1 := P0.out.below hb
  have p0 := Blk.cellAt (i := 0) P1 rfl
  have p1 := Blk.cellAt (i := 1) P1 rfl
  simp only [List.getElem_toArray, List.getElem_cons_zero, List.getElem_cons_succ] at p0 p1
  have HB1 : Hid (Below w.heap.size w w1) := (Below.refl _ _).alloc (Nat.le_refl _) _ |>.trans (hb.mono (by simp))
  clear S hb P0 P1
  go_wp2_with fail
  clear hNN p0 p1
  go_loopw [23] (fun i wr => ∃ j : Nat, j ≤ N ∧ i = .int .i64 j ∧ (∀ i, i < j → (l.getD i default).isB = true) ∧ Below w.heap.size w wr) (fun i _ => N - (intOf i).toNat)
  case atStart => exact ⟨0, by omega, rfl, fun i hi => absurd hi (by omega), HB1.out⟩
  case round =>
    obtain ⟨j, hj, rfl, hall, hbel⟩ := hrel
    have HB : Hid (Below w.heap.size w wr) := hbel
    have HL : Hid (∀ i, i < j → (l.getD i default).isB = true) := hall
    have hbs := hbel.size
    clear hall
    by_cases hlt : j < N
    · have K := colS_of (HW.out j hlt)
      have HGj := HG.out j hlt
      rcases HR.out with hnil | ⟨b, off, rfl, hRR⟩
      · exfalso
        have := HN.out
        rw [hnil] at this
        simp at this
        omega
      have hrow := (LitRow.below hRR hbel) j (by have := HN.out; omega)
      have HS : Hid ((l.getD j default).isB = true → ∀ i, i < j + 1 → (l.getD i default).isB = true) := fun h i hi => by
        rcases (by omega : i < j ∨ i = j) with h1 | rfl
        · exact HL.out i h1
        · exact h
      generalize (l.getD j default).isB = q at K HS HGj
      have HQ : Hid (p = true → q = true) := HGj
      generalize l.getD j default = c at hrow K
      obtain ⟨d0, d1, d2⟩ := hrow
      clear hbel hRR HGj
      cases q
      · have hp : p = false := by
          cases p
          · rfl
          · exact absurd (HQ.out rfl) (by decide)
        subst hp
        go_wp2_with fail
        refine (K.call _).mono ?_
        rintro e w2 ⟨rfl, hb⟩
        have HB2 : Hid (Below w.heap.size w w2) := (HB.out.alloc (by omega) _).trans (hb.mono (by simp; omega))
        clear hb d0 d1 d2
        go_wp2
        go_ret
        exact ⟨rfl, HB2.out⟩
      · go_wp2_with fail
        refine (K.call _).mono ?_
        rintro e w2 ⟨rfl, hb⟩
        have HB2 : Hid (Below w.heap.size w w2) := (HB.out.alloc (by omega) _).trans (hb.mono (by simp; omega))
        clear hb d0 d1 d2
        go_wp2
        go_roundw
        case rel => exact ⟨j + 1, by omega, by go_num, HS.out (by simp), HB2.out⟩
        case measure => simp [intOf]; omega
    · have hjm : j = N := by omega
      subst hjm
      have hp : p = true := HA.out HL.out
      subst hp
      clear hbel
      go_wp2
      go_ret
      exact ⟨rfl, HB.out⟩⟩
theorem picS (n : Int) (a : Option Addr) (cap : Nat) {l : List Lit} (hw : ∀ c ∈ l, c.W) : PicS n a cap l (picB n l) := by
  unfold picB
  cases hs : sizeB n
  · exact picS_size hs
  · by_cases hl : (l.length : Int) = n * n
    · have h := picS_all (a := a) (cap := cap) hw hs hl
      simpa [hl] using h
    · have h := picS_len (a := a) (cap := cap) hs hl
      simpa [hl] using h
end Go.Proofs.Ytfdgijmmgllmgaa
namespace Go.Proofs.Ytfdgijmmgllmgaa
open Go.ChangeShapes Go.WideShapes Go.ChangeAt Go.RowKit Go.Joins
set_option linter.unusedSimpArgs false
set_option linter.unusedVariables false
set_option maxRecDepth 100000
attribute [local go_sem] store_f
open Ieee
structure FmtS (c : Lit) (s : ByteArray) : Prop where
  call : ∀ w : World, Calls Try.prog 39 #[.agg #[.float .f32 c.r, .float .f32 c.g, .float .f32 c.b]] w fun e w' => e = .returned (.string s) ∧ Below w.heap.size w w'
theorem fmtS_of {c : Lit} (h : c.isB = true) (w : c.Wide) : FmtS c (txt c) := by
  obtain ⟨pa, pb, pc⟩ := colB_parts w.r w.g w.b h
  exact ⟨fun W => format_s_yes c.r c.g c.b pa pb pc W⟩
def partS (g : Nat → ByteArray) : Nat → ByteArray
  | 0 => ⟨#[]⟩
  | j + 1 => (if 0 < j then partS g j ++ ⟨#[32]⟩ else partS g j) ++ g j
theorem partS_one (g : Nat → ByteArray) : partS g (0 + 1) = partS g 0 ++ g 0 := rfl
theorem partS_more (g : Nat → ByteArray) {j : Nat} (h : 0 < j) : partS g (j + 1) = partS g j ++ ⟨#[32]⟩ ++ g j := by rw [partS, if_pos h]
theorem partS_size {g : Nat → ByteArray} (h : ∀ k, (g k).size ≤ 3) (j : Nat) : (partS g j).size ≤ 4 * j := by
  induction j with
  | zero => exact Nat.le_refl 0
  | succ j ih =>
    have h1 := h j
    have h2 : (⟨#[32]⟩ : ByteArray).size = 1 := rfl
    rw [partS]
    split
    · rw [ByteArray.size_append, ByteArray.size_append]; omega
    · rw [ByteArray.size_append]; omega
set_option maxHeartbeats 16000000 in
theorem formatPicS {m : Nat} {a : Option Addr} {cap : Nat} {l : List Lit} {f : Nat → ByteArray} (h1 : 1 ≤ m) (h8 : m ≤ 8) (hl : l.length = m * m) (P : PicS m a cap l true) (hs3 : ∀ k, (f k).size ≤ 3)
    (hf : ∀ k, k < l.length → FmtS (l.getD k default) (f k)) (w : World) (hr : LitsAt w a l) :
    Calls Try.prog 13 #[.agg #[.int .i64 m, .slice a l.length cap]] w fun e w' => ∃ v, e = .returned v ∧ w'.ownsRow (w.heap.size + 1) 9 1 v m (texts (fun x => partS (fun j => f (x * m + j)) m) m) ∧ v ≠ .slice Option.none 0 0 ∧ Below w.heap.size w w' := by
  have PH := Lib.hid P.call
  have HR := Lib.hid hr
  have FH := Lib.hid hf
  have HL := Lib.hid hl
  clear hr hf P hl
  obtain ⟨i0, hi, hz0, hz1, hz2⟩ := info_parts infoStr
  go_enter Try.func13, Try.ntmps13
  go_wp2_with fail
  obtain ⟨X, hX⟩ : ∃ X, (w.alloc (.cells #[.int .i64 m, .slice a l.length cap] 26)).alloc (.cells #[] 9) = X := ⟨_, rfl⟩
  rw [hX]
  have M0 : Hid (Blk X w.heap.size #[.int .i64 m, .slice a l.length cap] 26) := by rw [← hX]; exact (Blk.new _ _ _).alloc
  have O0 : Hid (X.ownsRow (w.heap.size + 1) 9 1 (.slice (some ⟨w.heap.size + 1, 0, Option.none⟩) 0 0) 0 []) := by
    rw [← hX]
    have h := World.ownsRow_lit (base := w.heap.size + 1) (e := 9) (size := 1) (w.alloc (.cells #[.int .i64 m, .slice a l.length cap] 26)) #[] 0 (by simp) (by unfold maxLen; omega) (by simp)
    exact Lib.hid (by simpa using h)
  have G0 : Hid (Below w.heap.size w X) := by rw [← hX]; show Below w.heap.size w _; (repeat' (first | (with_reducible exact Below.refl _ _) | (with_reducible assumption) | (with_reducible refine Below.alloc ?_ ?_ _) | (with_reducible refine Below.drew ?_) | (with_reducible refine Below.setCell ?_ ?_ _) | (with_reducible refine Below.trans ?_ (Below.mono (by assumption) ?_)) | (with_reducible exact Nat.le_refl _) | omega | (simp only [World.size_alloc, World.size_setCell, World.size_drew]; omega) | (simp; omega) | (simp; done)))
  clear hX
  refine (PH.out X (LitsAt.below HR.out G0.out)).mono ?_
  rintro e w1 ⟨rfl, hb⟩
  have M1 := Lib.hid (M0.out.below hb)
  have O1 := Lib.hid (ownsBelow hb O0.out)
  have G1 : Hid (Below w.heap.size w w1) := G0.out.trans (hb.mono G0.out.size)
  clear hb M0 O0 G0 PH
  go_wp2_with fail
  go_loopw [3, 4] (fun v i wr => ∃ x : Nat, x ≤ m ∧ i = .int .i64 x ∧ wr.ownsRow (w.heap.size + 1) 9 1 v x (texts (fun x => partS (fun j => f (x * m + j)) m) x) ∧ v ≠ .slice Option.none 0 0 ∧ Blk wr w.heap.size #[.int .i64 m, .slice a l.length cap] 26 ∧ Below w.heap.size w wr)
    (fun _ i _ => m - (Lib.intOf i).toNat)
  case atStart => exact ⟨0, by omega, rfl, O1.out, by simp, M1.out, G1.out⟩
  case round =>
    obtain ⟨x, hx, rfl, hown, hnn, hM, hB⟩ := hrel
    have HN : Hid (u3 ≠ .slice Option.none 0 0) := hnn
    have HO := Lib.hid hown
    clear hnn hown M1 O1 G1
    have m0 := Blk.cellAt (i := 0) hM rfl
    have m1 := Blk.cellAt (i := 1) hM rfl
    simp only [List.getElem_toArray, List.getElem_cons_zero, List.getElem_cons_succ] at m0 m1
    by_cases hlt : x < m
    · go_wp2_with fail
      go_loopw [5, 6] (fun s i wq => ∃ j : Nat, j ≤ m ∧ i = .int .i64 j ∧ s = .string (partS (fun j => f (x * m + j)) j) ∧ Blk wq w.heap.size #[.int .i64 m, .slice a l.length cap] 26 ∧ Below wr.heap.size wr wq)
        (fun _ i _ => m - (Lib.intOf i).toNat)
      case atStart => exact ⟨0, by omega, rfl, rfl, hM, by (repeat' (first | (with_reducible exact Below.refl _ _) | (with_reducible assumption) | (with_reducible refine Below.alloc ?_ ?_ _) | (with_reducible refine Below.drew ?_) | (with_reducible refine Below.setCell ?_ ?_ _) | (with_reducible refine Below.trans ?_ (Below.mono (by assumption) ?_)) | (with_reducible exact Nat.le_refl _) | omega | (simp only [World.size_alloc, World.size_setCell, World.size_drew]; omega) | (simp; omega) | (simp; done)))⟩
      case round =>
        obtain ⟨j, hj, rfl, rfl, hM2, hB2⟩ := hrel
        have HB2 := Lib.hid hB2
        have n0 := Blk.cellAt (i := 0) hM2 rfl
        have n1 := Blk.cellAt (i := 1) hM2 rfl
        simp only [List.getElem_toArray, List.getElem_cons_zero, List.getElem_cons_succ] at n0 n1
        have HM2 := Lib.hid hM2
        clear m0 m1 hM2 hB2
        by_cases hjm : j < m
        · have hp : x * m + m ≤ l.length := by rw [HL.out, ← Nat.succ_mul]; exact Nat.mul_le_mul_right _ hlt
          have h64 : l.length ≤ 64 := by rw [HL.out]; exact Nat.mul_le_mul h8 h8
          have hF := FH.out (x * m + j) (by omega)
          have hR := LitsAt.below HR.out (hB.trans (HB2.out.mono hB.size))
          rcases hR with e | ⟨b, off, rfl, hR⟩
          · rw [e] at hp; simp at hp; omega
          obtain ⟨k0, k1, k2⟩ := hR (x * m + j) (by omega)
          have hmul : (x : Int) * (m : Int) = ((x * m : Nat) : Int) := by simp
          generalize hq : l.getD (x * m + j) default = c at hF k0 k1 k2
          generalize hz : x * m = z at hmul hp k0 k1 k2
          obtain ⟨cr, cg, cb⟩ := c
          simp only [] at k0 k1 k2 hF
          have HF := Lib.hid hF.call
          clear hF hR
          have hPs := partS_size (g := fun j => f (z + j)) (fun k => hs3 (z + k)) j
          have hFs := hs3 (z + j)
          have hj8 : 4 * j ≤ 32 := by omega
          rcases Nat.eq_zero_or_pos j with rfl | hj0
          · simp only [Nat.add_zero] at k0 k1 k2 HF hFs
            go_wp2_with (simp only [hmul])
            refine (HF.out _).mono ?_
            rintro e w4 ⟨rfl, hb4⟩
            have M4 := Lib.hid (HM2.out.below hb4)
            have HB4 := Lib.hid (HB2.out.trans (hb4.mono HB2.out.size))
            clear hb4 k0 k1 k2 n0 n1 HM2 HB2
            go_wp2
            go_roundw
            case rel => exact ⟨0 + 1, by omega, by go_num, by rw [partS_one]; rfl, M4.out, HB4.out⟩
            case measure => simp [Lib.intOf]; omega
          · have hjd : decide ((j : Int) > 0) = true := decide_eq_true (by omega)
            go_wp2_with (simp only [hmul])
            refine (HF.out _).mono ?_
            rintro e w4 ⟨rfl, hb4⟩
            have M4 := Lib.hid (HM2.out.below hb4)
            have HB4 := Lib.hid (HB2.out.trans (hb4.mono HB2.out.size))
            clear hb4 k0 k1 k2 n0 n1 HM2 HB2
            go_wp2
            go_roundw
            case rel => exact ⟨j + 1, by omega, by go_num, by rw [partS_more _ hj0], M4.out, HB4.out⟩
            case measure => simp [Lib.intOf]; omega
        · have hjm' : j = m := by omega
          have hO2 : wr.ownsRow (w.heap.size + 1) 9 1 u3 x (texts (fun x => partS (fun j => f (x * m + j)) m) x) := ownsBelow HB2.out HO.out
          have hB3 : Below w.heap.size w wr := hB.trans (HB2.out.mono hB.size)
          have hM3 := HM2.out
          have hsz := hB3.size
          have hlw := hM3.lt
          generalize hS : partS (fun j => f (x * m + j)) j = S
          have HT := Lib.hid (show partS (fun j => f (x * m + j)) m = S from (congrArg (partS (fun j => f (x * m + j))) hjm'.symm).trans hS)
          clear hS
          go_wp2_with (at_builtin; go_loud (refine wpList_append_own_at _ rfl _ _ 34 rfl (w.heap.size + 1) 9 i0 (.string ⟨#[]⟩) 1 16 Try.underlying34 hi hz0 hz1 hz2 rfl (by decide) _ x (texts (fun x => partS (fun j => f (x * m + j)) m) x) rfl ?hown ⟨wr.heap.size, 0, Option.none⟩ 1 1 [.string S] rfl rfl ?c1 ?c2 ?c3 ?c4 ?c5 ?_))
          case hown => (change World.ownsRow _ _ _ _ u3 _ _; exact hO2.alloc _)
          case c1 =>
            intro j u hj
            rcases j with _ | j <;> simp at hj
            subst hj
            simp [Addr.add]
          case c2 =>
            intro u hu
            simp at hu
            subst hu
            rfl
          case c3 => (unfold maxLen; omega)
          case c4 => omega
          case c5 => (simp only [World.size_alloc]; omega)
          intro v' w5 hown' hgrow hvn hat
          have HV : Hid (v' ≠ .slice Option.none 0 0) := hvn
          have hb5 : Below w.heap.size w w5 := Below.grown (hB3.alloc hsz _) hgrow (by simp only [World.size_alloc]; omega) (fun q hq => by have := (hO2.lt q hq).1; omega)
          have hM5 : Blk w5 w.heap.size #[.int .i64 m, .slice a l.length cap] 26 := (hgrow.block _ (Blk.lt (hM3.alloc (o := .cells #[.string S] 9))) (fun e => by have := (hO2.lt _ e.symm).1; omega)).trans hM3.alloc
          clear hgrow hvn hat HN hO2 HO
          go_wp2
          go_roundw
          case rel => exact ⟨x + 1, by omega, by go_num, by rw [texts_succ]; simp only [HT.out]; exact hown', HV.out, hM5, hb5⟩
          case measure => simp [Lib.intOf]; omega
    · have hxm : x = m := by omega
      subst hxm
      go_wp2
      go_ret
      exact ⟨_, rfl, HO.out, HN.out, hB⟩
end Go.Proofs.Ytfdgijmmgllmgaa
namespace Go.Proofs.Ytfdgijmmgllmgaa
open Go.ChangeShapes Go.WideShapes Go.ChangeAt Go.RowKit Go.Joins
set_option linter.unusedSimpArgs false
set_option linter.unusedVariables false
set_option maxRecDepth 100000
attribute [local go_sem] store_f
open Ieee
theorem joinTail_snoc (sep : List UInt8) (r : List (List UInt8)) (y : List UInt8) : Lib.joinTail sep (r ++ [y]) = Lib.joinTail sep r ++ sep ++ y := by
  simp [Lib.joinTail]
theorem join_snoc (sep : List UInt8) (r : List (List UInt8)) (y : List UInt8) (h : r ≠ []) : Lib.join (r ++ [y]) sep = Lib.join r sep ++ sep ++ y := by
  cases r with
  | nil => exact absurd rfl h
  | cons x t => rw [List.cons_append, Lib.join_cons, Lib.join_cons, joinTail_snoc]; simp
theorem part_line (g : Nat → ByteArray) (n : Nat) : (partS g n).data.toList = Lib.join (((List.range n).map g).map (·.data.toList)) [32] := by
  induction n with
  | zero => simp [partS, Lib.join, List.intercalate]
  | succ n ih =>
    rw [List.range_succ, List.map_append, List.map_append]
    rcases Nat.eq_zero_or_pos n with rfl | h
    · simp [partS, Lib.join, List.intercalate]
    · rw [partS_more g h]
      simp only [List.map_cons, List.map_nil]
      rw [join_snoc _ _ _ (by simp; omega), ← ih]
      simp [ByteArray.data_append]
theorem part_line_eq (g : Nat → ByteArray) (n : Nat) : partS g n = lineOf g n := by
  apply ByteArray.ext
  unfold lineOf
  rw [← part_line]
theorem line_same {l : List Lit} {m x : Nat} : lineAt l m x = partS (fun j => txt (l.getD (x * m + j) default)) m := by
  unfold lineAt
  rw [part_line_eq]
  unfold lineOf
  congr 3
  rw [List.map_map, List.map_map]
  apply List.map_congr_left
  intro k hk
  simp only [List.mem_range] at hk
  simp only [Function.comp_apply]
  rw [rowOf_get hk]
structure NoLines (F : FuncId) (n : Int) (a : Option Addr) (cap : Nat) (l : List Lit) : Prop where
  call : ∀ w : World, LitsAt w a l → Calls Try.prog F #[.agg #[.int .i64 n, .slice a l.length cap]] w fun e w' => ∃ g, e = .returned (.slice (some ⟨g, 0, Option.none⟩) 0 0) ∧ w.heap.size < g ∧ g < w'.heap.size ∧ Below w.heap.size w w'
theorem noLinesS {n : Int} {a : Option Addr} {cap : Nat} {l : List Lit} (P : PicS n a cap l false) : NoLines 13 n a cap l := ⟨fun w hr => by
  have PH := Lib.hid P.call
  have HR := Lib.hid hr
  clear hr P
  go_enter Try.func13, Try.ntmps13
  go_wp2_with fail
  obtain ⟨X, hX⟩ : ∃ X, (w.alloc (.cells #[.int .i64 n, .slice a l.length cap] 26)).alloc (.cells #[] 9) = X := ⟨_, rfl⟩
  rw [hX]
  have G0 : Hid (Below w.heap.size w X) := by rw [← hX]; show Below w.heap.size w _; (repeat' (first | (with_reducible exact Below.refl _ _) | (with_reducible assumption) | (with_reducible refine Below.alloc ?_ ?_ _) | (with_reducible refine Below.drew ?_) | (with_reducible refine Below.setCell ?_ ?_ _) | (with_reducible refine Below.trans ?_ (Below.mono (by assumption) ?_)) | (with_reducible exact Nat.le_refl _) | omega | (simp only [World.size_alloc, World.size_setCell, World.size_drew]; omega) | (simp; omega) | (simp; done)))
  have hs : w.heap.size + 2 ≤ X.heap.size := by rw [← hX]; simp
  clear hX
  refine (PH.out X (LitsAt.below HR.out G0.out)).mono ?_
  rintro e w1 ⟨rfl, hb⟩
  have hs1 := hb.size
  have G1 : Hid (Below w.heap.size w w1) := G0.out.trans (hb.mono G0.out.size)
  clear hb G0 PH HR
  go_wp2
  go_ret
  exact ⟨_, rfl, by omega, by omega, G1.out⟩⟩
theorem noLinesI {n : Int} {a : Option Addr} {cap : Nat} {l : List Lit} (P : PicIs n a cap l false) : NoLines 11 n a cap l := ⟨fun w hr => by
  have PH := Lib.hid P.call
  have HR := Lib.hid hr
  clear hr P
  go_enter Try.func11, Try.ntmps11
  go_wp2_with fail
  obtain ⟨X, hX⟩ : ∃ X, ((w.alloc (.cells #[.int .i64 n, .slice a l.length cap] 26)).alloc (.cells #[] 9)).alloc (.cells #[.slice (some ⟨w.heap.size + 1, 0, Option.none⟩) 0 0] 34) = X := ⟨_, rfl⟩
  rw [hX]
  have N0 : Hid (Blk X (w.heap.size + 1 + 1) #[.slice (some ⟨w.heap.size + 1, 0, Option.none⟩) 0 0] 34) := by rw [← hX]; exact Blk.newAt (by simp)
  have G0 : Hid (Below w.heap.size w X) := by rw [← hX]; show Below w.heap.size w _; (repeat' (first | (with_reducible exact Below.refl _ _) | (with_reducible assumption) | (with_reducible refine Below.alloc ?_ ?_ _) | (with_reducible refine Below.drew ?_) | (with_reducible refine Below.setCell ?_ ?_ _) | (with_reducible refine Below.trans ?_ (Below.mono (by assumption) ?_)) | (with_reducible exact Nat.le_refl _) | omega | (simp only [World.size_alloc, World.size_setCell, World.size_drew]; omega) | (simp; omega) | (simp; done)))
  have hs : w.heap.size + 3 ≤ X.heap.size := by rw [← hX]; simp
  clear hX
  refine (PH.out X (LitsAt.below HR.out G0.out)).mono ?_
  rintro e w1 ⟨rfl, hb⟩
  have hs1 := hb.size
  have N1 := N0.out.below hb
  have n0 := Blk.cellAt (i := 0) N1 rfl
  simp only [List.getElem_toArray, List.getElem_cons_zero] at n0
  have G1 : Hid (Below w.heap.size w w1) := G0.out.trans (hb.mono G0.out.size)
  clear hb G0 PH HR N0 N1
  go_wp2
  go_ret
  exact ⟨_, rfl, by omega, by omega, G1.out⟩⟩
end Go.Proofs.Ytfdgijmmgllmgaa
namespace Go.Proofs.Ytfdgijmmgllmgaa
open Go.ChangeShapes Go.WideShapes Go.ChangeAt Go.RowKit Go.Joins
set_option linter.unusedSimpArgs false
set_option linter.unusedVariables false
set_option maxRecDepth 100000
attribute [local go_sem] store_f
open Ieee
theorem StrsAt.below {W W' : World} {g n B : Nat} {f : Nat → ByteArray} (h : StrsAt W g n f) (hb : Below B W W') (hB : g < B) : StrsAt W' g n f :=
  ⟨Nat.lt_of_lt_of_le h.1 hb.size, fun k hk => (hb.cell (p := ⟨g, k, Option.none⟩) hB).trans (h.2 k hk)⟩
set_option maxHeartbeats 4000000 in
theorem eqStrs {n g h c d : Nat} {f : Nat → ByteArray} (hn : n ≤ 64) (w : World) (h1 : StrsAt w g n f) (h2 : StrsAt w h n f) :
    Calls Try.prog 15 #[.slice (some ⟨g, 0, Option.none⟩) n c, .slice (some ⟨h, 0, Option.none⟩) n d] w fun e w' => e = .returned (.bool true) ∧ Below w.heap.size w w' := by
  have HA := Lib.hid h1
  have HB := Lib.hid h2
  clear h1 h2
  go_enter Try.func15, Try.ntmps15
  go_wp2
  go_loopw [5] (fun i wr => ∃ k : Nat, k ≤ n ∧ i = .int .i64 k ∧ Below w.heap.size w wr) (fun i _ => n - (Lib.intOf i).toNat)
  case atStart => exact ⟨0, by omega, rfl, Below.refl _ _⟩
  case round =>
    obtain ⟨k, hk, rfl, hbel⟩ := hrel
    by_cases hlt : k < n
    · have hA := (HA.out.below hbel HA.out.1).2 k hlt
      have hB := (HB.out.below hbel HB.out.1).2 k hlt
      generalize f k = x at hA hB
      go_wp2_with fail
      go_quiet (fail)
      go_wp2
      have hd := hbel.size
      go_roundw
      case rel => exact ⟨k + 1, by omega, by go_num, hbel.trans (below_draws _ _ _)⟩
      case measure => simp [Lib.intOf]; omega
    · have hkn : k = n := by omega
      subst hkn
      go_wp2
      go_returns; exact ⟨rfl, by (repeat' (first | (with_reducible exact Below.refl _ _) | (with_reducible assumption) | (with_reducible refine Below.alloc ?_ ?_ _) | (with_reducible refine Below.drew ?_) | (with_reducible refine Below.setCell ?_ ?_ _) | (with_reducible refine Below.trans ?_ (Below.mono (by assumption) ?_)) | (with_reducible exact Nat.le_refl _) | omega | (simp only [World.size_alloc, World.size_setCell, World.size_drew]; omega) | (simp; omega) | (simp; done)))⟩
structure MarkT (k : Nat) (s : ByteArray) : Prop where
  call : ∀ w : World, Calls Try.prog 43 #[.int .i64 k] w fun e w' => e = .returned (.string s) ∧ Below w.heap.size w w'
set_option maxHeartbeats 8000000 in
theorem heldStrs {n g c : Nat} {f : Nat → ByteArray} (hn : n ≤ 64) (M : ∀ k, k < n → MarkT (1 + k) (f k)) (w : World) (h1 : StrsAt w g n f) :
    Calls Try.prog 19 #[.slice (some ⟨g, 0, Option.none⟩) n c, .int .i64 1] w fun e w' => e = .returned (.int .i64 (1 + (n : Int))) ∧ Below w.heap.size w w' := by
  have HA := Lib.hid h1
  have HM := Lib.hid M
  clear h1 M
  go_enter Try.func19, Try.ntmps19
  go_wp2
  go_loopw [1, 5] (fun q i wr => ∃ k : Nat, k ≤ n ∧ i = .int .i64 k ∧ q = .int .i64 ((1 + k : Nat) : Int) ∧ Below w.heap.size w wr) (fun _ i _ => n - (Lib.intOf i).toNat)
  case atStart => exact ⟨0, by omega, rfl, rfl, Below.refl _ _⟩
  case round =>
    obtain ⟨k, hk, rfl, rfl, hbel⟩ := hrel
    by_cases hlt : k < n
    · have hgr := HA.out.below hbel HA.out.1
      have hA := hgr.2 k hlt
      have hgl := hgr.1
      have T := HM.out k hlt
      clear hgr
      generalize f k = x at hA T
      have HT := Lib.hid T.call
      clear T
      have hd := hbel.size
      generalize hz : 1 + k = z at HT
      go_wp2_with fail
      go_cut [18] (fun v wx => v = .bool false ∧ Below w.heap.size w wx)
      case first =>
        go_region_with (go_at_call 43; (with_reducible refine (HT.out _).mono ?_); rintro e w4 ⟨rfl, hb4⟩; have hA4 : w4.cell? ⟨g, k, Option.none⟩ = some (.string x) := (hb4.cell (p := ⟨g, k, Option.none⟩) hgl).trans hA; have HG : Hid (Below w.heap.size w w4) := hbel.drew.trans (hb4.mono hd); clear hb4)
        all_goals
          go_wp2_with fail
          go_meet
          exact ⟨by first | rfl | simp, by first | exact HG.out | exact HG.out.drew⟩
      case rest =>
        obtain ⟨rfl, hb⟩ := hcut
        clear hA hgl hbel HT
        go_wp2
        go_roundw
        case rel => exact ⟨k + 1, by omega, by go_num, by rw [← hz]; first | (go_num; done) | (simp; omega), hb⟩
        case measure => simp [Lib.intOf]; omega
    · have hkn : k = n := by omega
      subst hkn
      go_wp2
      go_ret
      exact ⟨by simp, hbel⟩
end Go.Proofs.Ytfdgijmmgllmgaa
namespace Go.Proofs.Ytfdgijmmgllmgaa
open Go.ChangeShapes Go.WideShapes Go.ChangeAt Go.RowKit Go.Joins
set_option linter.unusedSimpArgs false
set_option linter.unusedVariables false
set_option maxRecDepth 100000
attribute [local go_sem] store_f
open Ieee
theorem one_back (a : UInt8) (w1 : World) :
    (convert 22 9 (.slice (some ⟨w1.heap.size, 0, Option.none⟩) 1 1)).run Try.prog (w1.alloc (.cells #[.int .u8 a.toNat] 5)) = .ok (.string ⟨#[a]⟩) (w1.alloc (.cells #[.int .u8 a.toNat] 5)) := by
  exact run_convert_bytes_back (P := Try.prog) (w1.alloc (.cells #[.int .u8 a.toNat] 5)) 22 9 5 ⟨w1.heap.size, 0, Option.none⟩ 1 [a] Try.underlying22 Try.underlying5 Try.underlying9 (by
    intro j hj
    have hj0 : j = 0 := by simpa using hj
    subst hj0
    simp [Addr.add])
def markS (k : Nat) : ByteArray := ⟨#[109, UInt8.ofNat (48 + k)]⟩
set_option maxHeartbeats 8000000 in
theorem markT {k : Nat} (h1 : 1 ≤ k) (h8 : k ≤ 8) : MarkT k (markS k) := ⟨fun w => by
  have hb : ∀ w1 : World, (convert 22 9 (.slice (some ⟨w1.heap.size, 0, Option.none⟩) 1 1)).run Try.prog (w1.alloc (.cells #[.int .u8 ((48 + k : Nat) : Int)] 5)) = .ok (.string ⟨#[UInt8.ofNat (48 + k)]⟩) (w1.alloc (.cells #[.int .u8 ((48 + k : Nat) : Int)] 5)) := fun w1 => by
    have h := one_back (UInt8.ofNat (48 + k)) w1
    have e : (UInt8.ofNat (48 + k)).toNat = 48 + k := by simp; omega
    rwa [e] at h
  rcases (by omega : k = 1 ∨ k = 2 ∨ k = 3 ∨ k = 4 ∨ k = 5 ∨ k = 6 ∨ k = 7 ∨ k = 8) with rfl | rfl | rfl | rfl | rfl | rfl | rfl | rfl
  · simp only [Nat.reduceAdd, Int.cast_ofNat_Int, Int.ofNat_eq_natCast] at hb
    go_enter Try.func43, Try.ntmps43
    go_wp2
    go_loopw [0, 3] (fun q s wr => ((q = .int .i64 1 ∧ s = .string ⟨#[]⟩) ∨ (q = .int .i64 0 ∧ s = .string ⟨#[UInt8.ofNat 49]⟩)) ∧ Below w.heap.size w wr) (fun q _ _ => (Lib.intOf q).toNat)
    case atStart => exact ⟨.inl ⟨rfl, rfl⟩, Below.refl _ _⟩
    case round =>
      obtain ⟨⟨rfl, rfl⟩ | ⟨rfl, rfl⟩, hbel⟩ := hrel
      · go_wp2_with (simp only [hb])
        exact ⟨⟨.inr ⟨rfl, rfl⟩, hbel.alloc hbel.size _⟩, by decide⟩
      · go_wp2
        go_ret
        exact ⟨by first | rfl | decide, hbel⟩
  · simp only [Nat.reduceAdd, Int.cast_ofNat_Int, Int.ofNat_eq_natCast] at hb
    go_enter Try.func43, Try.ntmps43
    go_wp2
    go_loopw [0, 3] (fun q s wr => ((q = .int .i64 2 ∧ s = .string ⟨#[]⟩) ∨ (q = .int .i64 0 ∧ s = .string ⟨#[UInt8.ofNat 50]⟩)) ∧ Below w.heap.size w wr) (fun q _ _ => (Lib.intOf q).toNat)
    case atStart => exact ⟨.inl ⟨rfl, rfl⟩, Below.refl _ _⟩
    case round =>
      obtain ⟨⟨rfl, rfl⟩ | ⟨rfl, rfl⟩, hbel⟩ := hrel
      · go_wp2_with (simp only [hb])
        exact ⟨⟨.inr ⟨rfl, rfl⟩, hbel.alloc hbel.size _⟩, by decide⟩
      · go_wp2
        go_ret
        exact ⟨by first | rfl | decide, hbel⟩
  · simp only [Nat.reduceAdd, Int.cast_ofNat_Int, Int.ofNat_eq_natCast] at hb
    go_enter Try.func43, Try.ntmps43
    go_wp2
    go_loopw [0, 3] (fun q s wr => ((q = .int .i64 3 ∧ s = .string ⟨#[]⟩) ∨ (q = .int .i64 0 ∧ s = .string ⟨#[UInt8.ofNat 51]⟩)) ∧ Below w.heap.size w wr) (fun q _ _ => (Lib.intOf q).toNat)
    case atStart => exact ⟨.inl ⟨rfl, rfl⟩, Below.refl _ _⟩
    case round =>
      obtain ⟨⟨rfl, rfl⟩ | ⟨rfl, rfl⟩, hbel⟩ := hrel
      · go_wp2_with (simp only [hb])
        exact ⟨⟨.inr ⟨rfl, rfl⟩, hbel.alloc hbel.size _⟩, by decide⟩
      · go_wp2
        go_ret
        exact ⟨by first | rfl | decide, hbel⟩
  · simp only [Nat.reduceAdd, Int.cast_ofNat_Int, Int.ofNat_eq_natCast] at hb
    go_enter Try.func43, Try.ntmps43
    go_wp2
    go_loopw [0, 3] (fun q s wr => ((q = .int .i64 4 ∧ s = .string ⟨#[]⟩) ∨ (q = .int .i64 0 ∧ s = .string ⟨#[UInt8.ofNat 52]⟩)) ∧ Below w.heap.size w wr) (fun q _ _ => (Lib.intOf q).toNat)
    case atStart => exact ⟨.inl ⟨rfl, rfl⟩, Below.refl _ _⟩
    case round =>
      obtain ⟨⟨rfl, rfl⟩ | ⟨rfl, rfl⟩, hbel⟩ := hrel
      · go_wp2_with (simp only [hb])
        exact ⟨⟨.inr ⟨rfl, rfl⟩, hbel.alloc hbel.size _⟩, by decide⟩
      · go_wp2
        go_ret
        exact ⟨by first | rfl | decide, hbel⟩
  · simp only [Nat.reduceAdd, Int.cast_ofNat_Int, Int.ofNat_eq_natCast] at hb
    go_enter Try.func43, Try.ntmps43
    go_wp2
    go_loopw [0, 3] (fun q s wr => ((q = .int .i64 5 ∧ s = .string ⟨#[]⟩) ∨ (q = .int .i64 0 ∧ s = .string ⟨#[UInt8.ofNat 53]⟩)) ∧ Below w.heap.size w wr) (fun q _ _ => (Lib.intOf q).toNat)
    case atStart => exact ⟨.inl ⟨rfl, rfl⟩, Below.refl _ _⟩
    case round =>
      obtain ⟨⟨rfl, rfl⟩ | ⟨rfl, rfl⟩, hbel⟩ := hrel
      · go_wp2_with (simp only [hb])
        exact ⟨⟨.inr ⟨rfl, rfl⟩, hbel.alloc hbel.size _⟩, by decide⟩
      · go_wp2
        go_ret
        exact ⟨by first | rfl | decide, hbel⟩
  · simp only [Nat.reduceAdd, Int.cast_ofNat_Int, Int.ofNat_eq_natCast] at hb
    go_enter Try.func43, Try.ntmps43
    go_wp2
    go_loopw [0, 3] (fun q s wr => ((q = .int .i64 6 ∧ s = .string ⟨#[]⟩) ∨ (q = .int .i64 0 ∧ s = .string ⟨#[UInt8.ofNat 54]⟩)) ∧ Below w.heap.size w wr) (fun q _ _ => (Lib.intOf q).toNat)
    case atStart => exact ⟨.inl ⟨rfl, rfl⟩, Below.refl _ _⟩
    case round =>
      obtain ⟨⟨rfl, rfl⟩ | ⟨rfl, rfl⟩, hbel⟩ := hrel
      · go_wp2_with (simp only [hb])
        exact ⟨⟨.inr ⟨rfl, rfl⟩, hbel.alloc hbel.size _⟩, by decide⟩
      · go_wp2
        go_ret
        exact ⟨by first | rfl | decide, hbel⟩
  · simp only [Nat.reduceAdd, Int.cast_ofNat_Int, Int.ofNat_eq_natCast] at hb
    go_enter Try.func43, Try.ntmps43
    go_wp2
    go_loopw [0, 3] (fun q s wr => ((q = .int .i64 7 ∧ s = .string ⟨#[]⟩) ∨ (q = .int .i64 0 ∧ s = .string ⟨#[UInt8.ofNat 55]⟩)) ∧ Below w.heap.size w wr) (fun q _ _ => (Lib.intOf q).toNat)
    case atStart => exact ⟨.inl ⟨rfl, rfl⟩, Below.refl _ _⟩
    case round =>
      obtain ⟨⟨rfl, rfl⟩ | ⟨rfl, rfl⟩, hbel⟩ := hrel
      · go_wp2_with (simp only [hb])
        exact ⟨⟨.inr ⟨rfl, rfl⟩, hbel.alloc hbel.size _⟩, by decide⟩
      · go_wp2
        go_ret
        exact ⟨by first | rfl | decide, hbel⟩
  · simp only [Nat.reduceAdd, Int.cast_ofNat_Int, Int.ofNat_eq_natCast] at hb
    go_enter Try.func43, Try.ntmps43
    go_wp2
    go_loopw [0, 3] (fun q s wr => ((q = .int .i64 8 ∧ s = .string ⟨#[]⟩) ∨ (q = .int .i64 0 ∧ s = .string ⟨#[UInt8.ofNat 56]⟩)) ∧ Below w.heap.size w wr) (fun q _ _ => (Lib.intOf q).toNat)
    case atStart => exact ⟨.inl ⟨rfl, rfl⟩, Below.refl _ _⟩
    case round =>
      obtain ⟨⟨rfl, rfl⟩ | ⟨rfl, rfl⟩, hbel⟩ := hrel
      · go_wp2_with (simp only [hb])
        exact ⟨⟨.inr ⟨rfl, rfl⟩, hbel.alloc hbel.size _⟩, by decide⟩
      · go_wp2
        go_ret
        exact ⟨by first | rfl | decide, hbel⟩⟩
end Go.Proofs.Ytfdgijmmgllmgaa
