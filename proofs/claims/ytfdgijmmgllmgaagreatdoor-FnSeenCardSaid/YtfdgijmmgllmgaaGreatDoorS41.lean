/-
  Texts Dfb Sks Skb Tone Ska Skc Skd, joined.
-/
import Derived.Test.YtfdgijmmgllmgaaGreatDoorS40
import Derived.Test.YtfdgijmmgllmgaaGreatDoorS38
import Derived.Test.YtfdgijmmgllmgaaGreatDoorS39
import Derived.Test.YtfdgijmmgllmgaaGreatDoorS07
import Derived.Test.YtfdgijmmgllmgaaGreatDoorS08
import Derived.Test.YtfdgijmmgllmgaaGreatDoorS01
import Derived.Test.YtfdgijmmgllmgaaGreatDoorS05
import Derived.Laws.IdiomStrings
import Derived.Test.YtfdgijmmgllmgaaGreatDoorS34
import Derived.Test.YtfdgijmmgllmgaaGreatDoorS25
namespace Go.Proofs.YtfdgijmmgllmgaaGreatDoor
open Go.ChangeShapes Go.WideShapes Go.ChangeAt Go.RowKit Go.Joins
set_option linter.unusedSimpArgs false
set_option linter.unusedVariables false
set_option maxRecDepth 100000
attribute [local go_sem] store_f
open Ieee
theorem join3_eq (xs : List ByteArray) (h : ∀ x ∈ xs, x.data.toList.length = 3) (h0 : 1 ≤ xs.length) : (Lib.join (xs.map (·.data.toList)) [32]).length = 4 * xs.length - 1 := by
  cases xs with
  | nil => simp at h0
  | cons y r =>
    rw [List.map_cons, Lib.join_cons, List.length_append, h y (by simp)]
    have h2 : ∀ (r : List ByteArray), (∀ x ∈ r, x.data.toList.length = 3) → (Lib.joinTail [32] (r.map (·.data.toList))).length = 4 * r.length := by
      intro r hr
      induction r with
      | nil => simp [Lib.joinTail]
      | cons z t ih =>
        have := ih (fun x hx => hr x (by simp [hx]))
        have hz := hr z (by simp)
        simp [Lib.joinTail] at this ⊢
        simp at hz
        omega
    rw [h2 r (fun x hx => h x (by simp [hx]))]
    simp; omega
theorem line_size {l : List Lit} {m x : Nat} (h1 : 1 ≤ m) : (lineAt l m x).size = 4 * m - 1 := by
  have h := join3_eq ((List.range m).map fun k => txt ((rowCells l m x).getD k default)) (fun y hy => by
    obtain ⟨k, _, rfl⟩ := List.mem_map.1 hy
    exact txt_len _) (by simpa using h1)
  simp only [List.length_map, List.length_range] at h
  unfold lineAt lineOf
  rw [← h]
  show (List.toArray _).size = _
  simp
structure LinesM (n g0 cap : Nat) (l : List Lit) (f : Nat → ByteArray) : Prop where
  call : ∀ w : World, LitRow w g0 0 l → Calls Tryz.prog 25 #[.agg #[.int .i64 n, .slice (some ⟨g0, 0, Option.none⟩) l.length cap]] w fun e w' => (∃ g c, e = .returned (.slice (some ⟨g, 0, Option.none⟩) n c) ∧ w.heap.size ≤ g ∧ StrsAt w' g n f) ∧ Below w.heap.size w w'
  size : ∀ k, (f k).size = 4 * n - 1
theorem linesM {n g0 cap : Nat} {l : List Lit} (h1 : 1 ≤ n) (h8 : n ≤ 8) (hl : l.length = n * n) (hok : Oks l) (hcap : l.length ≤ cap) : LinesM n g0 cap l (lineAt l n) where
  call := fun w hr => by
    have hp := picB_ok h1 h8 hl hok
    have PI := picIs n (some ⟨g0, 0, Option.none⟩) cap l
    rw [hp] at PI
    have hn1 : 1 ≤ n * n := Nat.mul_le_mul h1 h1
    have hmem : ∀ k, k < l.length → (l.getD k default).Ok := fun k hk => hok _ (getD_memL hk)
    have hb : g0 < w.heap.size := cell_lt (hr 0 (by omega)).1
    refine (formatPic h1 h8 hl hcap PI (fun x hx W h hb => fmtRowAt h1 h8 hl hx (fun k hk => fmt_of (isB_ok (hmem k hk)) ⟨(hmem k hk).w.r, (hmem k hk).w.g, (hmem k hk).w.b⟩) W h hb) w hr hb).mono ?_
    rintro e w' ⟨⟨v, rfl, hown, _⟩, hB⟩
    obtain ⟨g, c, rfl, _, hg, hS⟩ := strs_of hown h1
    exact ⟨⟨g, c, rfl, hg, hS⟩, hB⟩
  size := fun k => line_size h1
end Go.Proofs.YtfdgijmmgllmgaaGreatDoor
namespace Go.Proofs.YtfdgijmmgllmgaaGreatDoor
open Go.ChangeShapes Go.WideShapes Go.ChangeAt Go.RowKit Go.Joins
set_option linter.unusedSimpArgs false
set_option linter.unusedVariables false
set_option maxRecDepth 100000
attribute [local go_sem] store_f
open Ieee
structure FmtSym (p : Int × Bool) (s : ByteArray) : Prop where
  call : ∀ w : World, Calls Tryz.prog 12 #[.agg #[.int .i64 p.1, .bool p.2]] w fun e w' => e = .returned (.string s) ∧ Below w.heap.size w w'
set_option maxHeartbeats 8000000 in
theorem fmtSyms {l : List (Int × Bool)} {f : Nat → ByteArray} (hl : l.length ≤ 64) (hf : ∀ k, k < l.length → FmtSym (l.getD k (0, false)) (f k)) (b cap : Nat) (w : World) (hr : SymRow w b l) (hbw : b < w.heap.size) :
    Calls Tryz.prog 26 #[.slice (some ⟨b, 0, Option.none⟩) l.length cap, .func (.func 12) #[] #[]] w fun e w' => Texts w w' e f l.length := by
  have HR : Hid (SymRow w b l) := hr
  have HF := Lib.hid hf
  clear hr hf
  obtain ⟨i0, hi, hz0, hz1, hz2⟩ := info_parts infoStr
  go_enter Tryz.func26, Tryz.ntmps26
  go_wp2_with fail
  go_loopw [5, 11] (fun v i wr => ∃ k : Nat, k ≤ l.length ∧ i = .int .i64 k ∧ wr.ownsRow w.heap.size 9 1 v k (texts f k) ∧ v ≠ .slice Option.none 0 0 ∧ Below w.heap.size w wr)
    (fun _ i _ => l.length - (Lib.intOf i).toNat)
  case atStart => exact ⟨0, by omega, rfl, World.ownsRow_lit _ #[] 0 (by simp) (by unfold maxLen; omega) rfl, by simp, by (repeat' (first | (with_reducible exact Below.refl _ _) | (with_reducible assumption) | (with_reducible refine Below.alloc ?_ ?_ _) | (with_reducible refine Below.drew ?_) | (with_reducible refine Below.setCell ?_ ?_ _) | (with_reducible refine Below.trans ?_ (Below.mono (by assumption) ?_)) | (with_reducible exact Nat.le_refl _) | omega | (simp only [World.size_alloc, World.size_setCell, World.size_drew]; omega) | (simp; omega) | (simp; done)))⟩
  case round =>
    obtain ⟨k, hk, rfl, hown, hnn, hbel⟩ := hrel
    have HN : Hid (u5 ≠ .slice Option.none 0 0) := hnn
    have hbs := hbel.size
    clear hnn
    by_cases hlt : k < l.length
    · have HA := (HF.out k hlt).call
      obtain ⟨c0, c1⟩ := (SymRow.below HR.out hbel) k hlt
      have hbl := cell_lt c0
      generalize l.getD k (0, false) = c at HA c0 c1
      obtain ⟨ct, cf⟩ := c
      simp only [] at c0 c1 HA
      have HA2 := Lib.hid HA
      clear HA
      go_wp2_with fail
      refine (HA2.out _).mono ?_
      rintro e w2 ⟨rfl, hb2⟩
      have hB2 : Below w.heap.size w w2 := by (repeat' (first | (with_reducible exact Below.refl _ _) | (with_reducible assumption) | (with_reducible refine Below.alloc ?_ ?_ _) | (with_reducible refine Below.drew ?_) | (with_reducible refine Below.setCell ?_ ?_ _) | (with_reducible refine Below.trans ?_ (Below.mono (by assumption) ?_)) | (with_reducible exact Nat.le_refl _) | omega | (simp only [World.size_alloc, World.size_setCell, World.size_drew]; omega) | (simp; omega) | (simp; done)))
      have hs2 := hb2.size
      simp only [World.size_alloc] at hs2
      have hO2 : w2.ownsRow w.heap.size 9 1 u5 k (texts f k) := ownsBelow hb2 (World.ownsRow.alloc hown _)
      clear c0 c1 hb2 HA2
      go_wp2_with (at_builtin; go_loud (refine wpList_append_own_at _ rfl _ _ 53 rfl w.heap.size 9 i0 (.string ⟨#[]⟩) 1 16 Tryz.underlying53 hi hz0 hz1 hz2 rfl (by decide) _ k (texts f k) rfl ?hown ⟨w2.heap.size, 0, Option.none⟩ 1 1 [.string (f k)] rfl rfl ?c1 ?c2 ?c3 ?c4 ?c5 ?_))
      case hown => (change World.ownsRow _ _ _ _ u5 _ _; (repeat (first | (with_reducible assumption) | (with_reducible refine World.ownsRow.alloc ?_ _) | (with_reducible refine World.ownsRow.drew ?_) | (with_reducible refine ownsBelow (by assumption) ?_))))
      case c1 =>
        intro j u hj
        rcases j with _ | j <;> simp at hj
        subst hj
        simp [Addr.add]
      case c2 =>
        intro u hu
        simp at hu
        subst hu
        rfl
      case c3 => (unfold maxLen; omega)
      case c4 => omega
      case c5 => first | omega | (simp only [World.size_alloc, World.size_setCell, World.size_drew]; omega)
      intro v' w3 hown' hgrow hvn hat
      have HV : Hid (v' ≠ .slice Option.none 0 0) := hvn
      have hb3 : Below w.heap.size w w3 := Below.grown (by (repeat' (first | (with_reducible exact Below.refl _ _) | (with_reducible assumption) | (with_reducible refine Below.alloc ?_ ?_ _) | (with_reducible refine Below.drew ?_) | (with_reducible refine Below.setCell ?_ ?_ _) | (with_reducible refine Below.trans ?_ (Below.mono (by assumption) ?_)) | (with_reducible exact Nat.le_refl _) | omega | (simp only [World.size_alloc, World.size_setCell, World.size_drew]; omega) | (simp; omega) | (simp; done)))) hgrow (by first | omega | (simp only [World.size_alloc, World.size_setCell, World.size_drew]; omega)) (fun q hq => (hown.lt q hq).1)
      clear hgrow hvn hat HN hO2 hown
      go_wp2
      go_roundw
      case rel => exact ⟨k + 1, by omega, by go_num, by rw [texts_succ]; exact hown', HV.out, hb3⟩
      case measure => simp [Lib.intOf]; omega
    · have hkl : k = l.length := by omega
      subst hkl
      have HO := Lib.hid hown
      clear hown
      go_wp2
      go_ret
      exact ⟨⟨_, rfl, HO.out, HN.out⟩, hbel⟩
end Go.Proofs.YtfdgijmmgllmgaaGreatDoor
namespace Go.Proofs.YtfdgijmmgllmgaaGreatDoor
open Go.ChangeShapes Go.WideShapes Go.ChangeAt Go.RowKit Go.Joins
set_option linter.unusedSimpArgs false
set_option linter.unusedVariables false
set_option maxRecDepth 100000
attribute [local go_sem] store_f
open Ieee Go.Lib
attribute [local go_sem] store_c
structure FmtB (b : Bw) (s : ByteArray) : Prop where
  call : ∀ w : World, Calls Tryz.prog 29 #[.agg #[.complex .f32 b.a1 b.a2, .complex .f32 b.v1 b.v2]] w fun e w' => e = .returned (.string s) ∧ Below w.heap.size w w'
set_option maxHeartbeats 8000000 in
theorem fmtBeads {l : List Bw} {f : Nat → ByteArray} (hl : l.length ≤ 64) (hf : ∀ k, k < l.length → FmtB (l.getD k default) (f k)) (a : Option Addr) (cap : Nat) (w : World) (hr : BwIn w a l) :
    Calls Tryz.prog 28 #[.slice a l.length cap, .func (.func 29) #[] #[]] w fun e w' => Texts w w' e f l.length := by
  have HR : Hid (BwIn w a l) := hr
  have HF := Lib.hid hf
  clear hr hf
  obtain ⟨i0, hi, hz0, hz1, hz2⟩ := info_parts infoStr
  go_enter Tryz.func28, Tryz.ntmps28
  go_wp2_with fail
  go_loopw [5, 11] (fun v i wr => ∃ k : Nat, k ≤ l.length ∧ i = .int .i64 k ∧ wr.ownsRow w.heap.size 9 1 v k (texts f k) ∧ v ≠ .slice Option.none 0 0 ∧ Below w.heap.size w wr)
    (fun _ i _ => l.length - (Lib.intOf i).toNat)
  case atStart => exact ⟨0, by omega, rfl, World.ownsRow_lit _ #[] 0 (by simp) (by unfold maxLen; omega) rfl, by simp, by (repeat' (first | (with_reducible exact Below.refl _ _) | (with_reducible assumption) | (with_reducible refine Below.alloc ?_ ?_ _) | (with_reducible refine Below.drew ?_) | (with_reducible refine Below.setCell ?_ ?_ _) | (with_reducible refine Below.trans ?_ (Below.mono (by assumption) ?_)) | (with_reducible exact Nat.le_refl _) | omega | (simp only [World.size_alloc, World.size_setCell, World.size_drew]; omega) | (simp; omega) | (simp; done)))⟩
  case round =>
    obtain ⟨k, hk, rfl, hown, hnn, hbel⟩ := hrel
    have HN : Hid (u5 ≠ .slice Option.none 0 0) := hnn
    have hbs := hbel.size
    clear hnn
    by_cases hlt : k < l.length
    · have HA := (HF.out k hlt).call
      rcases HR.out with hnil | ⟨b, rfl, hrb⟩
      · rw [hnil] at hlt
        simp at hlt
      obtain ⟨c0, c1⟩ := (BwRow.below hrb hbel) k hlt
      clear hrb
      have hbl := cell_lt c0
      generalize l.getD k default = c at HA c0 c1
      obtain ⟨x1, x2, y1, y2⟩ := c
      simp only [] at c0 c1 HA
      have HA2 := Lib.hid HA
      clear HA
      go_wp2_with fail
      refine (HA2.out _).mono ?_
      rintro e w2 ⟨rfl, hb2⟩
      have hB2 : Below w.heap.size w w2 := by (repeat' (first | (with_reducible exact Below.refl _ _) | (with_reducible assumption) | (with_reducible refine Below.alloc ?_ ?_ _) | (with_reducible refine Below.drew ?_) | (with_reducible refine Below.setCell ?_ ?_ _) | (with_reducible refine Below.trans ?_ (Below.mono (by assumption) ?_)) | (with_reducible exact Nat.le_refl _) | omega | (simp only [World.size_alloc, World.size_setCell, World.size_drew]; omega) | (simp; omega) | (simp; done)))
      have hs2 := hb2.size
      simp only [World.size_alloc] at hs2
      have hO2 : w2.ownsRow w.heap.size 9 1 u5 k (texts f k) := ownsBelow hb2 (World.ownsRow.alloc hown _)
      clear c0 c1 hb2 HA2
      go_wp2_with (at_builtin; go_loud (refine wpList_append_own_at _ rfl _ _ 53 rfl w.heap.size 9 i0 (.string ⟨#[]⟩) 1 16 Tryz.underlying53 hi hz0 hz1 hz2 rfl (by decide) _ k (texts f k) rfl ?hown ⟨w2.heap.size, 0, Option.none⟩ 1 1 [.string (f k)] rfl rfl ?c1 ?c2 ?c3 ?c4 ?c5 ?_))
      case hown => (change World.ownsRow _ _ _ _ u5 _ _; (repeat (first | (with_reducible assumption) | (with_reducible refine World.ownsRow.alloc ?_ _) | (with_reducible refine World.ownsRow.drew ?_) | (with_reducible refine ownsBelow (by assumption) ?_))))
      case c1 =>
        intro j u hj
        rcases j with _ | j <;> simp at hj
        subst hj
        simp [Addr.add]
      case c2 =>
        intro u hu
        simp at hu
        subst hu
        rfl
      case c3 => (unfold maxLen; omega)
      case c4 => omega
      case c5 => first | omega | (simp only [World.size_alloc, World.size_setCell, World.size_drew]; omega)
      intro v' w3 hown' hgrow hvn hat
      have HV : Hid (v' ≠ .slice Option.none 0 0) := hvn
      have hb3 : Below w.heap.size w w3 := Below.grown (by (repeat' (first | (with_reducible exact Below.refl _ _) | (with_reducible assumption) | (with_reducible refine Below.alloc ?_ ?_ _) | (with_reducible refine Below.drew ?_) | (with_reducible refine Below.setCell ?_ ?_ _) | (with_reducible refine Below.trans ?_ (Below.mono (by assumption) ?_)) | (with_reducible exact Nat.le_refl _) | omega | (simp only [World.size_alloc, World.size_setCell, World.size_drew]; omega) | (simp; omega) | (simp; done)))) hgrow (by first | omega | (simp only [World.size_alloc, World.size_setCell, World.size_drew]; omega)) (fun q hq => (hown.lt q hq).1)
      clear hgrow hvn hat HN hO2 hown
      go_wp2
      go_roundw
      case rel => exact ⟨k + 1, by omega, by go_num, by rw [texts_succ]; exact hown', HV.out, hb3⟩
      case measure => simp [Lib.intOf]; omega
    · have hkl : k = l.length := by omega
      subst hkl
      have HO := Lib.hid hown
      clear hown
      go_wp2
      go_ret
      exact ⟨⟨_, rfl, HO.out, HN.out⟩, hbel⟩
end Go.Proofs.YtfdgijmmgllmgaaGreatDoor
namespace Go.Proofs.YtfdgijmmgllmgaaGreatDoor
open Go.ChangeShapes Go.WideShapes Go.ChangeAt Go.RowKit Go.Joins 
set_option linter.unusedSimpArgs false
set_option linter.unusedVariables false
def digitS (t : Int) : ByteArray := ⟨#[UInt8.ofNat (48 + t.toNat)]⟩
def digitF (t : Int) : ByteArray := ⟨#[UInt8.ofNat (48 + t.toNat), 102]⟩
def textS (t : Int) (f : Bool) : ByteArray := if isSymB t then (if f then digitF t else digitS t) else ⟨#[]⟩
theorem small_any (t : Int) (h1 : 0 ≤ t) (h2 : t < 4) (w : World) : Calls Tryz.prog 129 #[.int .i64 t] w fun e w' => e = .returned (.string (digitS t)) ∧ Below w.heap.size w w' := by
  rcases (by omega : t = 0 ∨ t = 1 ∨ t = 2 ∨ t = 3) with rfl | rfl | rfl | rfl
  all_goals
    go_enter Tryz.func129, Tryz.ntmps129
    go_wp2
    go_returns; exact ⟨rfl, by (repeat' (first | (with_reducible exact Below.refl _ _) | (with_reducible assumption) | (with_reducible refine Below.alloc ?_ ?_ _) | (with_reducible refine Below.drew ?_) | (with_reducible refine Below.setCell ?_ ?_ _) | (with_reducible refine Below.trans ?_ (Below.mono (by assumption) ?_)) | (with_reducible exact Nat.le_refl _) | omega | (simp only [World.size_alloc, World.size_setCell, World.size_drew]; omega) | (simp; omega) | (simp; done)))⟩
theorem formatInt_any (t : Int) (h1 : 0 ≤ t) (h2 : t < 4) (w : World) : Calls Tryz.prog 94 #[.int .i64 t, .int .i64 10] w fun e w' => e = .returned (.string (digitS t)) ∧ Below w.heap.size w w' := by
  go_enter Tryz.func94, Tryz.ntmps94
  go_wp2_with (first | (go_at_call 129; refine (small_any _ (by omega) (by omega) _).mono ?_; rintro e w1 ⟨rfl, hb⟩; obtain ⟨hc, hf⟩ := bcell hb; have HL := keepL (by (repeat (first | (with_reducible assumption) | (with_reducible apply AllLt.alloc) | (with_reducible apply AllLt.setCell) | (with_reducible apply AllLt.drew) | (with_reducible exact AllLt.nil _)))) hb; have hq := HL; simp only [AllLt, and_true, World.size_alloc, World.size_setCell, World.size_drew] at hq; have hbs := hb.size; try simp only [World.size_alloc, World.size_setCell, World.size_drew] at hbs))
  go_returns; exact ⟨rfl, by (repeat' (first | (with_reducible exact Below.refl _ _) | (with_reducible assumption) | (with_reducible refine Below.alloc ?_ ?_ _) | (with_reducible refine Below.drew ?_) | (with_reducible refine Below.setCell ?_ ?_ _) | (with_reducible refine Below.trans ?_ (Below.mono (by assumption) ?_)) | (with_reducible exact Nat.le_refl _) | omega | (simp only [World.size_alloc, World.size_setCell, World.size_drew]; omega) | (simp; omega) | (simp; done)))⟩
theorem itoaIn_any (t : Int) (h1 : 0 ≤ t) (h2 : t < 4) (w : World) : Calls Tryz.prog 64 #[.int .i64 t] w fun e w' => e = .returned (.string (digitS t)) ∧ Below w.heap.size w w' := by
  go_enter Tryz.func64, Tryz.ntmps64
  go_wp2_with (first | (go_at_call 94; refine (formatInt_any _ (by omega) (by omega) _).mono ?_; rintro e w1 ⟨rfl, hb⟩; obtain ⟨hc, hf⟩ := bcell hb; have HL := keepL (by (repeat (first | (with_reducible assumption) | (with_reducible apply AllLt.alloc) | (with_reducible apply AllLt.setCell) | (with_reducible apply AllLt.drew) | (with_reducible exact AllLt.nil _)))) hb; have hq := HL; simp only [AllLt, and_true, World.size_alloc, World.size_setCell, World.size_drew] at hq; have hbs := hb.size; try simp only [World.size_alloc, World.size_setCell, World.size_drew] at hbs))
  go_returns; exact ⟨rfl, by (repeat' (first | (with_reducible exact Below.refl _ _) | (with_reducible assumption) | (with_reducible refine Below.alloc ?_ ?_ _) | (with_reducible refine Below.drew ?_) | (with_reducible refine Below.setCell ?_ ?_ _) | (with_reducible refine Below.trans ?_ (Below.mono (by assumption) ?_)) | (with_reducible exact Nat.le_refl _) | omega | (simp only [World.size_alloc, World.size_setCell, World.size_drew]; omega) | (simp; omega) | (simp; done)))⟩
theorem itoa_any (t : Int) (h1 : 0 ≤ t) (h2 : t < 4) (w : World) : Calls Tryz.prog 31 #[.int .i64 t] w fun e w' => e = .returned (.string (digitS t)) ∧ Below w.heap.size w w' := by
  go_enter Tryz.func31, Tryz.ntmps31
  go_wp2_with (first | (go_at_call 64; refine (itoaIn_any _ (by omega) (by omega) _).mono ?_; rintro e w1 ⟨rfl, hb⟩; obtain ⟨hc, hf⟩ := bcell hb; have HL := keepL (by (repeat (first | (with_reducible assumption) | (with_reducible apply AllLt.alloc) | (with_reducible apply AllLt.setCell) | (with_reducible apply AllLt.drew) | (with_reducible exact AllLt.nil _)))) hb; have hq := HL; simp only [AllLt, and_true, World.size_alloc, World.size_setCell, World.size_drew] at hq; have hbs := hb.size; try simp only [World.size_alloc, World.size_setCell, World.size_drew] at hbs))
  go_returns; exact ⟨rfl, by (repeat' (first | (with_reducible exact Below.refl _ _) | (with_reducible assumption) | (with_reducible refine Below.alloc ?_ ?_ _) | (with_reducible refine Below.drew ?_) | (with_reducible refine Below.setCell ?_ ?_ _) | (with_reducible refine Below.trans ?_ (Below.mono (by assumption) ?_)) | (with_reducible exact Nat.le_refl _) | omega | (simp only [World.size_alloc, World.size_setCell, World.size_drew]; omega) | (simp; omega) | (simp; done)))⟩
theorem formatSym_i (t : Int) (f : Bool) (w : World) : Calls Tryz.prog 12 #[.agg #[.int .i64 t, .bool f]] w fun e w' => e = .returned (.string (textS t f)) ∧ Below w.heap.size w w' := by
  by_cases ht : isSymB t = true
  · obtain ⟨h1, h2⟩ := isSymB_iff.1 ht
    rcases (by omega : t = 0 ∨ t = 1 ∨ t = 2 ∨ t = 3) with rfl | rfl | rfl | rfl <;> cases f
    all_goals
      clear ht
      skip
      go_enter Tryz.func12, Tryz.ntmps12
      go_wp2_with (first | (go_at_call 30; refine (isSym_i _ _ _).mono ?_; rintro e w1 ⟨rfl, hb⟩; obtain ⟨hc, hf⟩ := bcell hb; have HL := keepL (by (repeat (first | (with_reducible assumption) | (with_reducible apply AllLt.alloc) | (with_reducible apply AllLt.setCell) | (with_reducible apply AllLt.drew) | (with_reducible exact AllLt.nil _)))) hb; have hq := HL; simp only [AllLt, and_true, World.size_alloc, World.size_setCell, World.size_drew] at hq; have hbs := hb.size; try simp only [World.size_alloc, World.size_setCell, World.size_drew] at hbs) | (go_at_call 31; refine (itoa_any _ (by omega) (by omega) _).mono ?_; rintro e w1 ⟨rfl, hb⟩; obtain ⟨hc, hf⟩ := bcell hb; have HL := keepL (by (repeat (first | (with_reducible assumption) | (with_reducible apply AllLt.alloc) | (with_reducible apply AllLt.setCell) | (with_reducible apply AllLt.drew) | (with_reducible exact AllLt.nil _)))) hb; have hq := HL; simp only [AllLt, and_true, World.size_alloc, World.size_setCell, World.size_drew] at hq; have hbs := hb.size; try simp only [World.size_alloc, World.size_setCell, World.size_drew] at hbs))
      go_returns; exact ⟨rfl, by (repeat' (first | (with_reducible exact Below.refl _ _) | (with_reducible assumption) | (with_reducible refine Below.alloc ?_ ?_ _) | (with_reducible refine Below.drew ?_) | (with_reducible refine Below.setCell ?_ ?_ _) | (with_reducible refine Below.trans ?_ (Below.mono (by assumption) ?_)) | (with_reducible exact Nat.le_refl _) | omega | (simp only [World.size_alloc, World.size_setCell, World.size_drew]; omega) | (simp; omega) | (simp; done)))⟩
  · have ht' : isSymB t = false := by simpa using ht
    have e : textS t f = ⟨#[]⟩ := by simp [textS, ht']
    rw [e]
    go_enter Tryz.func12, Tryz.ntmps12
    go_wp2_with (first | (go_at_call 30; refine ((ht' ▸ isSym_i t _ _)).mono ?_; rintro e w1 ⟨rfl, hb⟩; obtain ⟨hc, hf⟩ := bcell hb; have HL := keepL (by (repeat (first | (with_reducible assumption) | (with_reducible apply AllLt.alloc) | (with_reducible apply AllLt.setCell) | (with_reducible apply AllLt.drew) | (with_reducible exact AllLt.nil _)))) hb; have hq := HL; simp only [AllLt, and_true, World.size_alloc, World.size_setCell, World.size_drew] at hq; have hbs := hb.size; try simp only [World.size_alloc, World.size_setCell, World.size_drew] at hbs))
    go_returns; exact ⟨rfl, by (repeat' (first | (with_reducible exact Below.refl _ _) | (with_reducible assumption) | (with_reducible refine Below.alloc ?_ ?_ _) | (with_reducible refine Below.drew ?_) | (with_reducible refine Below.setCell ?_ ?_ _) | (with_reducible refine Below.trans ?_ (Below.mono (by assumption) ?_)) | (with_reducible exact Nat.le_refl _) | omega | (simp only [World.size_alloc, World.size_setCell, World.size_drew]; omega) | (simp; omega) | (simp; done)))⟩
end Go.Proofs.YtfdgijmmgllmgaaGreatDoor
namespace Go.Proofs.YtfdgijmmgllmgaaGreatDoor
open Go.ChangeShapes Go.WideShapes Go.ChangeAt Go.RowKit Go.Joins
set_option linter.unusedSimpArgs false
set_option linter.unusedVariables false
set_option maxRecDepth 100000
attribute [local go_sem] store_f
open Ieee
def standS (p q r : Bool) : ByteArray := if p && q then ⟨#[109, 105, 100, 100, 108, 101]⟩ else if q || r then ⟨#[109, 105, 114, 114, 111, 114]⟩ else ⟨#[105, 110, 115, 105, 100, 101]⟩
theorem standS_size (p q r : Bool) : (standS p q r).size = 6 := by cases p <;> cases q <;> cases r <;> rfl
structure StandM (x y : Nat) (s : ByteArray) : Prop where
  call : ∀ w : World, Calls Tryz.prog 63 #[.complex .f32 x y] w fun e w' => e = .returned (.string s) ∧ Below w.heap.size w w'
theorem standM (x y : Nat) : StandM x y (standS (FloatKind.f32.format.order x 0 == some .eq) (FloatKind.f32.format.order y 0 == some .eq) (FloatKind.f32.format.order y x == some .eq)) := ⟨fun w => by
  generalize h1 : (FloatKind.f32.format.order x 0 == some .eq) = p
  generalize h2 : (FloatKind.f32.format.order y 0 == some .eq) = q
  generalize h3 : (FloatKind.f32.format.order y x == some .eq) = r
  cases p <;> cases q <;> cases r
  all_goals
    go_enter Tryz.func63, Tryz.ntmps63
    go_wp2
    go_ret
    exact ⟨rfl, by (repeat' (first | (with_reducible exact Below.refl _ _) | (with_reducible assumption) | (with_reducible refine Below.alloc ?_ ?_ _) | (with_reducible refine Below.drew ?_) | (with_reducible refine Below.setCell ?_ ?_ _) | (with_reducible refine Below.trans ?_ (Below.mono (by assumption) ?_)) | (with_reducible exact Nat.le_refl _) | omega | (simp only [World.size_alloc, World.size_setCell, World.size_drew]; omega) | (simp; omega) | (simp; done)))⟩⟩
theorem textS_size (t : Int) (f : Bool) : (textS t f).size ≤ 2 := by
  unfold textS
  split
  · split
    · exact Nat.le_refl 2
    · exact (by decide : 1 ≤ 2)
  · exact (by decide : 0 ≤ 2)
structure ForQ (t : Int) (f : Bool) (s : ByteArray) : Prop where
  call : ∀ w : World, Calls Tryz.prog 12 #[.agg #[.int .i64 t, .bool f]] w fun e w' => e = .returned (.string s) ∧ Below w.heap.size w w'
set_option maxHeartbeats 4000000 in
theorem fmtB_of {b : Bw} {x y : Nat} {t : Int} {f : Bool} {s u : ByteArray} (F : FoldM 3 b.a1 b.a2 x y t f) (K : ForQ t f s) (S : StandM x y u) (hs : s.size ≤ 2) (hu : u.size = 6) : FmtB b (s ++ ⟨#[32]⟩ ++ u) := ⟨fun w => by
  have h1 : (⟨#[32]⟩ : ByteArray).size = 1 := rfl
  have h2 : (s ++ ⟨#[32]⟩).size = s.size + 1 := by rw [ByteArray.size_append]; rfl
  go_enter Tryz.func29, Tryz.ntmps29
  go_wp2_with fail
  refine (F.call _).mono ?_
  rintro e w1 ⟨rfl, hb1⟩
  have B1 : Hid (Below w.heap.size w w1) := by
    show Below w.heap.size w w1
    exact Below.trans (by (repeat' (first | (with_reducible exact Below.refl _ _) | (with_reducible assumption) | (with_reducible refine Below.alloc ?_ ?_ _) | (with_reducible refine Below.drew ?_) | (with_reducible refine Below.setCell ?_ ?_ _) | (with_reducible refine Below.trans ?_ (Below.mono (by assumption) ?_)) | (with_reducible exact Nat.le_refl _) | omega | (simp only [World.size_alloc, World.size_setCell, World.size_drew]; omega) | (simp; omega) | (simp; done)))) (hb1.mono (by simp))
  have s1 := B1.out.size
  clear hb1
  go_wp2_with fail
  refine (K.call _).mono ?_
  rintro e w2 ⟨rfl, hb2⟩
  have B2 : Hid (Below w.heap.size w w2) := (B1.out.alloc s1 _).trans (hb2.mono (by simp; omega))
  clear hb2 B1
  go_wp2_with fail
  refine (S.call _).mono ?_
  rintro e w3 ⟨rfl, hb3⟩
  have B3 : Hid (Below w.heap.size w w3) := B2.out.trans (hb3.mono B2.out.size)
  clear hb3 B2
  go_wp2
  go_ret
  exact ⟨rfl, B3.out⟩⟩
theorem fmtB {b : Bw} {x y : Nat} {t : Int} {f : Bool} (F : FoldM 3 b.a1 b.a2 x y t f) : ∃ s, FmtB b s :=
  ⟨_, fmtB_of F ⟨fun w => formatSym_i t f w⟩ (standM x y) (textS_size t f) (standS_size _ _ _)⟩
end Go.Proofs.YtfdgijmmgllmgaaGreatDoor
namespace Go.Proofs.YtfdgijmmgllmgaaGreatDoor
open Go.ChangeShapes Go.WideShapes Go.ChangeAt Go.RowKit Go.Joins
set_option linter.unusedSimpArgs false
set_option linter.unusedVariables false
set_option maxRecDepth 100000
attribute [local go_sem] store_f
open Ieee Go.Lib
attribute [local go_sem] store_c
structure AskM (s : Sho) (N M K : Nat) (q : ByteArray) (R : Nat) (f : Nat → ByteArray) : Prop where
  call : ∀ (w : World) (a b l : Option Addr) (ca cb cl : Nat), ShoIn w s a b l → Calls Tryz.prog 11 #[.agg #[.int .i64 s.size, .float .f32 s.step, .float .f32 s.lit.r, .float .f32 s.lit.g, .float .f32 s.lit.b, .slice a N ca, .int .i64 s.kind, .complex .f32 s.g1 s.g2, .float .f32 0, .slice b M cb, .int .i64 s.ticks, .slice l K cl], .string q] w fun e w' => (∃ g c, e = .returned (.slice (some ⟨g, 0, Option.none⟩) R c) ∧ StrsAt w' g R f) ∧ Below w.heap.size w w'
set_option maxHeartbeats 8000000 in
theorem ask_picture {s : Sho} {N M K n : Nat} {m : List Lit} {f : Nat → ByteArray} (SE : SeenR s N M K n m) (LM : ∀ g c, m.length ≤ c → LinesM n g c m f) : AskM s N M K ⟨#[112, 105, 99, 116, 117, 114, 101]⟩ n f := ⟨fun w a b l ca cb cl hr => by
  have LH := Lib.hid LM
  clear LM
  go_enter Tryz.func11, Tryz.ntmps11
  go_wp2_with fail
  generalize hX : w.alloc (.cells #[.int .i64 s.size, .float .f32 s.step, .float .f32 s.lit.r, .float .f32 s.lit.g, .float .f32 s.lit.b, .slice a N ca, .int .i64 s.kind, .complex .f32 s.g1 s.g2, .float .f32 0, .slice b M cb, .int .i64 s.ticks, .slice l K cl] 34) = X
  have I0 : Hid (ShoIn X s a b l) := by rw [← hX]; exact hr.alloc
  have G0 : Hid (Below w.heap.size w X) := by rw [← hX]; show Below w.heap.size w _; (repeat' (first | (with_reducible exact Below.refl _ _) | (with_reducible assumption) | (with_reducible refine Below.alloc ?_ ?_ _) | (with_reducible refine Below.drew ?_) | (with_reducible refine Below.setCell ?_ ?_ _) | (with_reducible refine Below.trans ?_ (Below.mono (by assumption) ?_)) | (with_reducible exact Nat.le_refl _) | omega | (simp only [World.size_alloc, World.size_setCell, World.size_drew]; omega) | (simp; omega) | (simp; done)))
  clear hX hr
  refine (SE.call _ _ _ _ _ _ _ I0.out).mono ?_
  rintro e w1 ⟨g1, c1, ⟨rfl, hL, hroom⟩, hb⟩
  have L1 := Lib.hid (hL.alloc (o := .cells #[.int .i64 n, .slice (some ⟨g1, 0, Option.none⟩) m.length c1] 43))
  have G1 : Hid (Below w.heap.size w w1) := G0.out.trans (hb.mono G0.out.size)
  have s1 := G1.out.size
  clear hb hL G0 I0
  go_wp2_with fail
  refine ((LH.out g1 c1 hroom).call _ L1.out).mono ?_
  rintro e w2 ⟨⟨g2, c2, rfl, hg2, hS⟩, hb⟩
  have G2 : Hid (Below w.heap.size w w2) := (G1.out.alloc s1 _).trans (hb.mono (by simp; omega))
  have HS := Lib.hid hS
  clear hb hS L1 G1 hg2
  go_wp2
  go_ret
  exact ⟨⟨g2, c2, rfl, HS.out⟩, G2.out⟩⟩
set_option maxHeartbeats 8000000 in
theorem ask_syms {s : Sho} {N M K n : Nat} {m : List Lit} {pl : List (Int × Bool)} {f : Nat → ByteArray} (SE : SeenR s N M K n m) (SY : ∀ g c, PicSymsM n (some ⟨g, 0, Option.none⟩) c m pl) (h1 : 1 ≤ pl.length) (h8 : pl.length ≤ 8) (hf : ∀ k, k < pl.length → FmtSym (pl.getD k (0, false)) (f k)) : AskM s N M K ⟨#[115, 121, 109, 109, 101, 116, 114, 105, 101, 115]⟩ pl.length f := ⟨fun w a b l ca cb cl hr => by
  have YH := Lib.hid SY
  have FH := Lib.hid hf
  clear SY hf
  go_enter Tryz.func11, Tryz.ntmps11
  go_wp2_with fail
  generalize hX : w.alloc (.cells #[.int .i64 s.size, .float .f32 s.step, .float .f32 s.lit.r, .float .f32 s.lit.g, .float .f32 s.lit.b, .slice a N ca, .int .i64 s.kind, .complex .f32 s.g1 s.g2, .float .f32 0, .slice b M cb, .int .i64 s.ticks, .slice l K cl] 34) = X
  have I0 : Hid (ShoIn X s a b l) := by rw [← hX]; exact hr.alloc
  have G0 : Hid (Below w.heap.size w X) := by rw [← hX]; show Below w.heap.size w _; (repeat' (first | (with_reducible exact Below.refl _ _) | (with_reducible assumption) | (with_reducible refine Below.alloc ?_ ?_ _) | (with_reducible refine Below.drew ?_) | (with_reducible refine Below.setCell ?_ ?_ _) | (with_reducible refine Below.trans ?_ (Below.mono (by assumption) ?_)) | (with_reducible exact Nat.le_refl _) | omega | (simp only [World.size_alloc, World.size_setCell, World.size_drew]; omega) | (simp; omega) | (simp; done)))
  clear hX hr
  refine (SE.call _ _ _ _ _ _ _ I0.out).mono ?_
  rintro e w1 ⟨g1, c1, ⟨rfl, hL, hroom⟩, hb⟩
  have L1 := Lib.hid (hL.alloc (o := .cells #[.int .i64 n, .slice (some ⟨g1, 0, Option.none⟩) m.length c1] 43))
  have G1 : Hid (Below w.heap.size w w1) := G0.out.trans (hb.mono G0.out.size)
  have s1 := G1.out.size
  clear hb hL G0 I0 hroom
  go_wp2_with fail
  refine ((YH.out g1 c1).call _ (Or.inr ⟨g1, 0, rfl, L1.out⟩)).mono ?_
  rintro e w2 ⟨⟨g2, c2, ⟨rfl, hown⟩⟩, hb⟩
  have R2 : Hid (SymRow w2 g2 pl) := symRow_of hown rfl
  have G2 : Hid (Below w.heap.size w w2) := (G1.out.alloc s1 _).trans (hb.mono (by simp; omega))
  have l2 : g2 < w2.heap.size := (hown.lt _ rfl).2
  clear hb hown L1 G1
  go_wp2_with fail
  refine (fmtSyms (by omega) FH.out g2 c2 _ R2.out l2).mono ?_
  rintro e w3 ⟨⟨v, rfl, hv, _⟩, hb⟩
  obtain ⟨g3, c3, rfl, _, _, hS⟩ := strs_of hv h1
  have G3 : Hid (Below w.heap.size w w3) := G2.out.trans (hb.mono G2.out.size)
  have HS := Lib.hid hS
  clear hb hS hv R2 G2
  go_wp2
  go_ret
  exact ⟨⟨g3, c3, rfl, HS.out⟩, G3.out⟩⟩
theorem texts_row {W : World} {B n : Nat} {v : Value} {f : Nat → ByteArray} (h : W.ownsRow B 9 1 v n (texts f n)) (hv : v ≠ .slice Option.none 0 0) : ∃ g c, v = .slice (some ⟨g, 0, Option.none⟩) n c ∧ StrsAt W g n f := by
  have h' := h
  obtain ⟨h1, h2⟩ := h
  rcases h2 with ⟨e, _⟩ | ⟨g, cap, cur, rfl, hB, hb, hle, hx, hs, hm⟩
  · exact absurd e hv
  · refine ⟨g, cap, rfl, (h'.lt _ rfl).2, fun k hk => ?_⟩
    rw [h'.cellAt k (by omega)]
    exact texts_get f hk
set_option maxHeartbeats 8000000 in
theorem ask_beads {s : Sho} {N M K n : Nat} {m : List Lit} {f : Nat → ByteArray} (SE : SeenR s N M K n m) (hM : s.bds.length = M) (h8 : M ≤ 8) (hf : ∀ k, k < M → FmtB (s.bds.getD k default) (f k)) : AskM s N M K ⟨#[98, 101, 97, 100, 115]⟩ M f := ⟨fun w a b l ca cb cl hr => by
  subst hM
  have FH := Lib.hid hf
  clear hf
  go_enter Tryz.func11, Tryz.ntmps11
  go_wp2_with fail
  generalize hX : w.alloc (.cells #[.int .i64 s.size, .float .f32 s.step, .float .f32 s.lit.r, .float .f32 s.lit.g, .float .f32 s.lit.b, .slice a N ca, .int .i64 s.kind, .complex .f32 s.g1 s.g2, .float .f32 0, .slice b s.bds.length cb, .int .i64 s.ticks, .slice l K cl] 34) = X
  have I0 : Hid (ShoIn X s a b l) := by rw [← hX]; exact hr.alloc
  have M0 : Hid (Blk X w.heap.size #[.int .i64 s.size, .float .f32 s.step, .float .f32 s.lit.r, .float .f32 s.lit.g, .float .f32 s.lit.b, .slice a N ca, .int .i64 s.kind, .complex .f32 s.g1 s.g2, .float .f32 0, .slice b s.bds.length cb, .int .i64 s.ticks, .slice l K cl] 34) := by rw [← hX]; exact Blk.new _ _ _
  have G0 : Hid (Below w.heap.size w X) := by rw [← hX]; show Below w.heap.size w _; (repeat' (first | (with_reducible exact Below.refl _ _) | (with_reducible assumption) | (with_reducible refine Below.alloc ?_ ?_ _) | (with_reducible refine Below.drew ?_) | (with_reducible refine Below.setCell ?_ ?_ _) | (with_reducible refine Below.trans ?_ (Below.mono (by assumption) ?_)) | (with_reducible exact Nat.le_refl _) | omega | (simp only [World.size_alloc, World.size_setCell, World.size_drew]; omega) | (simp; omega) | (simp; done)))
  clear hX hr
  refine (SE.call _ _ _ _ _ _ _ I0.out).mono ?_
  rintro e w1 ⟨g1, c1, ⟨rfl, hL, hroom⟩, hb⟩
  have G1 : Hid (Below w.heap.size w w1) := G0.out.trans (hb.mono G0.out.size)
  have s1 := G1.out.size
  have M1 := Lib.hid ((M0.out.below hb).alloc (o := .cells #[.int .i64 n, .slice (some ⟨g1, 0, Option.none⟩) m.length c1] 43))
  have I1 := Lib.hid ((I0.out.below hb).alloc (o := .cells #[.int .i64 n, .slice (some ⟨g1, 0, Option.none⟩) m.length c1] 43))
  have G1a := Lib.hid (G1.out.alloc s1 (.cells #[.int .i64 n, .slice (some ⟨g1, 0, Option.none⟩) m.length c1] 43))
  clear hb hL G0 I0 hroom M0 G1
  have m9 := Blk.cellAt (i := 9) M1.out rfl
  simp only [List.getElem_toArray, List.getElem_cons_zero, List.getElem_cons_succ] at m9
  have lm := M1.out.lt
  go_wp2_with fail
  refine (fmtBeads (l := s.bds) (by omega) FH.out b cb _ (bwIn_of_lies I1.out.bd)).mono ?_
  rintro e w3 ⟨⟨v, rfl, hv, hnn⟩, hb⟩
  obtain ⟨g3, c3, rfl, hS⟩ := texts_row hv hnn
  have G3 : Hid (Below w.heap.size w w3) := G1a.out.trans (hb.mono G1a.out.size)
  have HS := Lib.hid hS
  clear hb hS hv M1 I1 G1a m9 lm
  go_wp2
  go_ret
  exact ⟨⟨g3, c3, rfl, HS.out⟩, G3.out⟩⟩
end Go.Proofs.YtfdgijmmgllmgaaGreatDoor
namespace Go.Proofs.YtfdgijmmgllmgaaGreatDoor
open Go.ChangeShapes Go.WideShapes Go.ChangeAt Go.RowKit Go.Joins
set_option linter.unusedSimpArgs false
set_option linter.unusedVariables false
set_option maxRecDepth 100000
attribute [local go_sem] store_f
open Ieee Go.Lib
theorem fold_star {x y : Nat} (hx : okB x = true) (hy : okB y = true) : ∃ pa pb t f, FoldM 3 x y pa pb t f := by
  have k0 : (0 : Int) ≤ 3 := by omega
  have k3 : (3 : Int) ≤ 3 := by omega
  have hrg := syms_range 3 k0 k3
  have hsz := symsTo_le 3 8
  obtain ⟨n, FN⟩ := first_of k0 k3 (ptOf hx hy)
  exact ⟨_, _, _, _, foldPoint_i ⟨fun w => symsOf_i 3 w⟩ hsz ⟨fun w => isPoint_yes x y w (ok_in hx) (ok_in hy)⟩ (acts_of hrg hx hy) ⟨fun k hk => inWedge_p k0 k3 _⟩ FN⟩
structure SeenQ (S : Shw) (m : List Lit) (pl sl : List (Int × Bool)) (h u : Nat → ByteArray) : Prop where
  seen : SeenR S.w S.bds.length S.bds.length S.log.length S.size m
  is : ∀ g c, PicIs S.size (some ⟨g, 0, Option.none⟩) c m true
  sy : ∀ g c, PicSymsM S.size (some ⟨g, 0, Option.none⟩) c m pl
  so : SymsM S.w.kind sl
  sub : ∀ p ∈ sl, p ∈ pl
  few : pl.length ≤ 8
  two : sl.length ≤ 8
  size : S.w.size = S.size
  sm : S.size ≤ 8
  nb : S.bds.length ≤ 8
  a1 : AskM S.w S.bds.length S.bds.length S.log.length ⟨#[115, 121, 109, 109, 101, 116, 114, 105, 101, 115]⟩ pl.length (fun k => textS (pl.getD k (0, false)).1 (pl.getD k (0, false)).2)
  a2 : AskM S.w S.bds.length S.bds.length S.log.length ⟨#[112, 105, 99, 116, 117, 114, 101]⟩ S.size h
  a3 : AskM S.w S.bds.length S.bds.length S.log.length ⟨#[98, 101, 97, 100, 115]⟩ S.bds.length u
theorem seenQ {S : Shw} (G : Good S) : ∃ m pl sl h u, SeenQ S m pl sl h u := by
  have FN := G.fine
  have k3 := FN.kin
  have h0 : (0 : Int) ≤ (S.kind : Int) := by omega
  have h3 : (S.kind : Int) ≤ 3 := by omega
  have h1 := FN.s1
  have h8 : S.size ≤ 8 := by have := FN.s5; omega
  have few := FN.few
  obtain ⟨m, P, HS⟩ := G.seenR
  have SE := HS S G rfl rfl rfl rfl rfl rfl
  have PI := fun g c => picIs S.size (some ⟨g, 0, Option.none⟩) c m
  simp only [P.pic] at PI
  have hz := picSyms_zero h8 P.len P.oks
  have hp1 : 1 ≤ (picSyms S.size m).length := List.length_pos_of_mem hz
  have hp8 := picSyms_le S.size m
  have hbl : S.w.bds.length = S.bds.length := by simp [Shw.w]
  have HB : ∀ k : Nat, ∃ s, k < S.bds.length → FmtB (S.w.bds.getD k default) s := fun k => by
    by_cases hk : k < S.bds.length
    · obtain ⟨pa, pb, t, f, FM⟩ := fold_star (S.bds.getD k default).1.2.1.ok (S.bds.getD k default).1.2.2.ok
      obtain ⟨s, hs⟩ := fmtB (b := S.w.bds.getD k default) (by
        show FoldM 3 ((S.bds.map wd).getD k default).a1 ((S.bds.map wd).getD k default).a2 _ _ _ _
        rw [getD_map wd _ hk]
        exact FM)
      exact ⟨s, fun _ => hs⟩
    · exact ⟨default, fun h => absurd h hk⟩
  obtain ⟨u, HU⟩ := Classical.axiomOfChoice HB
  exact ⟨m, picSyms S.size m, symsTo S.kind 8, lineAt m S.size, u, ⟨SE, PI, fun g c => picSymsM P.pic, ⟨fun w => symsOf_i S.kind w⟩, P.sym, hp8, symsTo_le _ 8, rfl, h8, few,
    ask_syms SE (fun g c => picSymsM P.pic) hp1 hp8 (fun k _ => ⟨fun w => formatSym_i _ _ w⟩),
    ask_picture SE (fun g c hc => linesM h1 h8 P.len P.oks hc),
    ask_beads SE hbl few (fun k hk => HU k hk)⟩⟩
end Go.Proofs.YtfdgijmmgllmgaaGreatDoor
