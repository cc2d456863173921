/-
  Texts of this proof, joined: Ea, Eb, Ec, Ed, Ee.
-/
import Derived.Test.YtlnikapkheldeaaK25
import Derived.Test.YtlnikapkheldeaaK19
import Derived.StillTailTactics
import Derived.Laws.MakeOwn
import Derived.Test.YtlnikapkheldeaaK20
/-
  A list of colours copied, held against another one, marked, and held against the marks.
-/
namespace Go.Proofs.Ytlnikapkheldeaa
open Go.ChangeShapes Go.WideShapes Go.ChangeAt Go.RowKit Go.Joins
set_option linter.unusedSimpArgs false
set_option linter.unusedVariables false
set_option maxRecDepth 100000
attribute [local go_sem] store_f
open Ieee

/-- A block of the call's own that begins with these colours. -/
def LitBlk (W : World) (g : Nat) (l : List Lit) : Prop := ∃ cur, Blk W g cur 49 ∧ l.length * 3 ≤ cur.size ∧ ∀ k, k < l.length → cur[k * 3]? = some (.float .f32 (l.getD k default).r) ∧ cur[k * 3 + 1]? = some (.float .f32 (l.getD k default).g) ∧ cur[k * 3 + 2]? = some (.float .f32 (l.getD k default).b)
theorem LitBlk.row {W : World} {g : Nat} {l : List Lit} (h : LitBlk W g l) : LitRow W g 0 l := by
  obtain ⟨cur, hb, _, hc⟩ := h
  intro k hk
  obtain ⟨h0, h1, h2⟩ := hc k hk
  simp only [Nat.zero_add]
  exact ⟨(hb.cell _).trans h0, (hb.cell _).trans h1, (hb.cell _).trans h2⟩
theorem LitBlk.below {W w1 : World} {g : Nat} {l : List Lit} (h : LitBlk W g l) (hb : Below W.heap.size W w1) : LitBlk w1 g l := by
  obtain ⟨cur, h1, h2⟩ := h
  exact ⟨cur, h1.below hb, h2⟩
theorem LitBlk.alloc {W : World} {g : Nat} {l : List Lit} {o : Obj} (h : LitBlk W g l) : LitBlk (W.alloc o) g l := by
  obtain ⟨cur, h1, h2⟩ := h
  exact ⟨cur, h1.alloc, h2⟩
theorem LitBlk.other {W w1 : World} {g : Nat} {l : List Lit} {r : Option Nat} (h : LitBlk W g l) (hg : W.grownBy w1 r) (hne : r ≠ some g) : LitBlk w1 g l := by
  obtain ⟨cur, h1, h2⟩ := h
  exact ⟨cur, (hg.block g h1.lt (fun q => hne q.symm)).trans h1, h2⟩
theorem LitBlk.lt {W : World} {g : Nat} {l : List Lit} (h : LitBlk W g l) : g < W.heap.size := by
  obtain ⟨cur, h1, _⟩ := h
  exact h1.lt
theorem LitBlk.own {W : World} {B g c : Nat} {l : List Lit} (h : W.ownsRow B 49 3 (.slice (some ⟨g, 0, Option.none⟩) l.length c) l.length (litCells l)) : LitBlk W g l ∧ B ≤ g := by
  have hrow := litRow_of h rfl
  obtain ⟨_, h2⟩ := h
  rcases h2 with ⟨e, _⟩ | ⟨g', cap', cur, e, hB, hb, hle, _, hs, _⟩
  · simp at e
  · simp only [Value.slice.injEq, Option.some.injEq, Addr.mk.injEq] at e
    obtain ⟨⟨rfl, _⟩, _, rfl⟩ := e
    have hb2 : Blk W g cur 49 := hb
    refine ⟨⟨cur, hb2, by omega, fun k hk => ?_⟩, hB⟩
    obtain ⟨h0, h1, h2⟩ := hrow k hk
    simp only [Nat.zero_add] at h0 h1 h2
    exact ⟨(hb2.cell _).symm.trans h0, (hb2.cell _).symm.trans h1, (hb2.cell _).symm.trans h2⟩

/-- A block with room for n colours, of which the first k stand. -/
def LitPart (W : World) (g n k : Nat) (l : List Lit) : Prop := ∃ cur, Blk W g cur 49 ∧ n * 3 ≤ cur.size ∧ ∀ j, j < k → cur[j * 3]? = some (.float .f32 (l.getD j default).r) ∧ cur[j * 3 + 1]? = some (.float .f32 (l.getD j default).g) ∧ cur[j * 3 + 2]? = some (.float .f32 (l.getD j default).b)
theorem LitPart.step {W : World} {g n k : Nat} {l : List Lit} (h : LitPart W g n k l) (hk : k < n) :
    LitPart (((W.setCell ⟨g, k * 3, Option.none⟩ (.float .f32 (l.getD k default).r)).setCell ⟨g, k * 3 + 1, Option.none⟩ (.float .f32 (l.getD k default).g)).setCell ⟨g, k * 3 + 2, Option.none⟩ (.float .f32 (l.getD k default).b)) g n (k + 1) l := by
  obtain ⟨cur, hb, hs, hm⟩ := h
  refine ⟨_, Blk.set (Blk.set (Blk.set hb)), by simpa using hs, fun j hj => ?_⟩
  simp only [Array.getElem?_setIfInBounds, Array.size_setIfInBounds]
  by_cases e : j = k
  · subst e
    simp
    omega
  · obtain ⟨h0, h1, h2⟩ := hm j (by omega)
    have e1 : ¬ k * 3 = j * 3 := by omega
    have e2 : ¬ k * 3 + 1 = j * 3 := by omega
    have e3 : ¬ k * 3 + 2 = j * 3 := by omega
    have e4 : ¬ k * 3 = j * 3 + 1 := by omega
    have e5 : ¬ k * 3 + 1 = j * 3 + 1 := by omega
    have e6 : ¬ k * 3 + 2 = j * 3 + 1 := by omega
    have e7 : ¬ k * 3 = j * 3 + 2 := by omega
    have e8 : ¬ k * 3 + 1 = j * 3 + 2 := by omega
    have e9 : ¬ k * 3 + 2 = j * 3 + 2 := by omega
    simp only [e1, e2, e3, e4, e5, e6, e7, e8, e9, if_false, ite_false]
    exact ⟨h0, h1, h2⟩
theorem LitPart.below {W w1 : World} {g n k : Nat} {l : List Lit} (h : LitPart W g n k l) (hb : Below W.heap.size W w1) : LitPart w1 g n k l := by
  obtain ⟨cur, h1, h2⟩ := h
  exact ⟨cur, h1.below hb, h2⟩
theorem toCol3 (c : Lit) (w : World) : Calls Try.prog 160 #[.agg #[.float .f32 c.r, .float .f32 c.g, .float .f32 c.b]] w fun e w' => e = .returned (.agg #[.float .f32 c.r, .float .f32 c.g, .float .f32 c.b]) ∧ Below w.heap.size w w' := toColour_any c.r c.g c.b w
theorem make3 (n : Nat) (hn : n ≤ 1048576) (W : World) : (Instr.makeSlice 35 (.int .i64 (n : Int)) (.int .i64 (n : Int))).run Try.prog W = .ok (.slice (some ⟨W.heap.size, 0, Option.none⟩) n n) (W.alloc (.cells (madeCells #[.float .f32 0, .float .f32 0, .float .f32 0] (n * 3)) 49)) := by
  obtain ⟨i0, hi, hz0, hz1, hz2⟩ := info_parts infoC
  have h := run_make (P := Try.prog) (w := W) 35 49 i0 _ Try.underlying35 hi hz0 .i64 .i64 n n (by omega) (Int.le_refl _) (by rw [hz2]; omega) (by omega)
  rw [hz1, Int.toNat_natCast] at h
  exact h

/-- What a copy of a list of colours gives. -/
structure ToCols (a : Option Addr) (cap : Nat) (l : List Lit) : Prop where
  call : ∀ w : World, LitsAt w a l → Calls Try.prog 114 #[.slice a l.length cap] w fun e w' => e = .returned (.slice (some ⟨w.heap.size, 0, Option.none⟩) l.length l.length) ∧ LitBlk w' w.heap.size l ∧ Below w.heap.size w w'
set_option maxHeartbeats 8000000 in
theorem toCols {a : Option Addr} {cap : Nat} {l : List Lit} (hn : l.length ≤ 1048576) : ToCols a cap l := ⟨fun w hrow => by
  obtain ⟨n, hln⟩ : ∃ n, n = l.length := ⟨_, rfl⟩
  have hmk := fun W => make3 n (by omega) W
  have HL : Hid (n = l.length) := hln
  have HR : Hid (LitsAt w a l) := hrow
  rw [← hln]
  clear hrow
  by_cases h0 : n = 0
  · subst h0
    have hl0 : l = [] := List.eq_nil_of_length_eq_zero hln.symm
    subst hl0
    have hmk0 : ∀ W, (Instr.makeSlice 35 (.int .i64 0) (.int .i64 0)).run Try.prog W = .ok (.slice (some ⟨W.heap.size, 0, Option.none⟩) 0 0) (W.alloc (.cells (madeCells #[.float .f32 0, .float .f32 0, .float .f32 0] 0) 49)) := fun W => hmk W
    clear hmk hln HL hn
    go_enter Try.func114, Try.ntmps114
    go_wp2
    go_rounds 1
    go_ret
    exact ⟨rfl, ⟨_, Blk.new _ _ _, by simp, fun k hk => by simp at hk⟩, by (repeat' (first | (with_reducible exact Below.refl _ _) | (with_reducible assumption) | (with_reducible refine Below.alloc ?_ ?_ _) | (with_reducible refine Below.drew ?_) | (with_reducible refine Below.setCell ?_ ?_ _) | (with_reducible refine Below.trans ?_ (Below.mono (by assumption) ?_)) | (with_reducible exact Nat.le_refl _) | omega | (simp only [World.size_alloc, World.size_setCell, World.size_drew]; omega) | (simp; omega) | (simp; done)))⟩
  · rcases HR.out with hnil | ⟨b, off, rfl, hRR⟩
    · exfalso
      rw [hnil] at hln
      simp at hln
      omega
    have HRR : Hid (LitRow w b off l) := hRR
    have hn' : n ≤ 1048576 := by omega
    clear hRR hln hn HR
    go_enter Try.func114, Try.ntmps114
    go_wp2
    go_loopw [4] (fun i wr => ∃ k : Nat, k ≤ n ∧ i = .int .i64 k ∧ LitPart wr w.heap.size n k l ∧ Below w.heap.size w wr) (fun i _ => n - (intOf i).toNat)
    case atStart => exact ⟨0, by omega, rfl, ⟨_, Blk.new _ _ _, by rw [size_madeCells]; omega, fun j hj => by omega⟩, by (repeat' (first | (with_reducible exact Below.refl _ _) | (with_reducible assumption) | (with_reducible refine Below.alloc ?_ ?_ _) | (with_reducible refine Below.drew ?_) | (with_reducible refine Below.setCell ?_ ?_ _) | (with_reducible refine Below.trans ?_ (Below.mono (by assumption) ?_)) | (with_reducible exact Nat.le_refl _) | omega | (simp only [World.size_alloc, World.size_setCell, World.size_drew]; omega) | (simp; omega) | (simp; done)))⟩
    case round =>
      obtain ⟨k, hk, rfl, hp, hbel⟩ := hrel
      have HP : Hid (LitPart wr w.heap.size n k l) := hp
      have HB : Hid (Below w.heap.size w wr) := hbel
      have hbs := hbel.size
      by_cases hlt : k < n
      · obtain ⟨d0, d1, d2⟩ := (LitRow.below HRR.out hbel) k (by have := HL.out; omega)
        have HS : Hid (∀ W, LitPart W w.heap.size n k l → LitPart (((W.setCell ⟨w.heap.size, k * 3, Option.none⟩ (.float .f32 (l.getD k default).r)).setCell ⟨w.heap.size, k * 3 + 1, Option.none⟩ (.float .f32 (l.getD k default).g)).setCell ⟨w.heap.size, k * 3 + 2, Option.none⟩ (.float .f32 (l.getD k default).b)) w.heap.size n (k + 1) l) := fun W h => h.step hlt
        generalize l.getD k default = c at d0 d1 d2 HS
        have hk0 : (0 : Int) ≤ (k : Int) := by omega
        have hk1 : (k : Int) < (n : Int) := by omega
        clear hp hbel hmk
        go_wp2_with fail
        refine (toCol3 c _).mono ?_
        rintro e w2 ⟨rfl, hb⟩
        have HP2 : Hid (LitPart w2 w.heap.size n k l) := HP.out.below hb
        have HB2 : Hid (Below w.heap.size w w2) := HB.out.trans (hb.mono hbs)
        obtain ⟨cur, hblk, hsz, _⟩ := HP2.out
        obtain ⟨x0, e0⟩ : ∃ x, w2.cell? ⟨w.heap.size, k * 3, Option.none⟩ = some x := by rw [hblk.cell]; exact ⟨_, Array.getElem?_eq_getElem (by omega)⟩
        obtain ⟨x1, e1⟩ : ∃ x, w2.cell? ⟨w.heap.size, k * 3 + 1, Option.none⟩ = some x := by rw [hblk.cell]; exact ⟨_, Array.getElem?_eq_getElem (by omega)⟩
        obtain ⟨x2, e2⟩ : ∃ x, w2.cell? ⟨w.heap.size, k * 3 + 2, Option.none⟩ = some x := by rw [hblk.cell]; exact ⟨_, Array.getElem?_eq_getElem (by omega)⟩
        have f0 := hblk.free (k * 3)
        have f1 := hblk.free (k * 3 + 1)
        have f2 := hblk.free (k * 3 + 2)
        clear hblk hsz hb d0 d1 d2 HP HB
        go_wp2
        go_roundw
        case rel => exact ⟨k + 1, by omega, by go_num, HS.out _ HP2.out, ((HB2.out.setCell (Nat.le_refl _) _).setCell (Nat.le_refl _) _).setCell (Nat.le_refl _) _⟩
        case measure => simp [intOf]; omega
      · have hkn : k = n := by omega
        subst hkn
        have HF : Hid (LitBlk wr w.heap.size l) := by
          obtain ⟨cur, h1, h2, h3⟩ := HP.out
          have := HL.out
          exact ⟨cur, h1, by omega, fun j hj => h3 j (by omega)⟩
        clear hp hbel hmk
        go_wp2
        go_ret
        exact ⟨rfl, HF.out, HB.out⟩⟩

/-- Two equal lists of colours are the same in the law. -/
structure EqColsM (a : Option Addr) (ca : Nat) (b : Option Addr) (cb : Nat) (l : List Lit) : Prop where
  call : ∀ w : World, LitsAt w a l → LitsAt w b l → Calls Try.prog 115 #[.slice a l.length ca, .slice b l.length cb] w fun e w' => e = .returned (.bool true) ∧ Below w.heap.size w w'
set_option maxHeartbeats 8000000 in
theorem eqColsM {a : Option Addr} {ca : Nat} {b : Option Addr} {cb : Nat} {l : List Lit} (hw : ∀ c ∈ l, c.W) (hn : l.length ≤ 1048576) : EqColsM a ca b cb l := ⟨fun w hr1 hr2 => by
  obtain ⟨n, hln⟩ : ∃ n, n = l.length := ⟨_, rfl⟩
  have HL : Hid (n = l.length) := hln
  have HQ : Hid (∀ k, k < n → EqColM (l.getD k default)) := fun k hk => by
    have h := hw (l.getD k default) (by simp [List.getD, show k < l.length by omega])
    exact eqColM h.r h.g h.b
  have R1 : Hid (LitsAt w a l) := hr1
  have R2 : Hid (LitsAt w b l) := hr2
  rw [← hln]
  have hn' : n ≤ 1048576 := by omega
  clear hr1 hr2 hln hn hw
  go_enter Try.func115, Try.ntmps115
  go_wp2
  go_loopw [5] (fun i wr => ∃ k : Nat, k ≤ n ∧ i = .int .i64 k ∧ Below w.heap.size w wr) (fun i _ => n - (intOf i).toNat)
  case atStart => exact ⟨0, by omega, rfl, Below.refl _ _⟩
  case round =>
    obtain ⟨k, hk, rfl, hbel⟩ := hrel
    have HB : Hid (Below w.heap.size w wr) := hbel
    by_cases hlt : k < n
    · rcases R1.out with hnil | ⟨b1, o1, rfl, hR1⟩
      · exfalso
        have := HL.out
        rw [hnil] at this
        simp at this
        omega
      rcases R2.out with hnil | ⟨b2, o2, rfl, hR2⟩
      · exfalso
        have := HL.out
        rw [hnil] at this
        simp at this
        omega
      obtain ⟨d0, d1, d2⟩ := (LitRow.below hR1 hbel) k (by have := HL.out; omega)
      obtain ⟨e0, e1, e2⟩ := (LitRow.below hR2 hbel) k (by have := HL.out; omega)
      have K := HQ.out k hlt
      generalize l.getD k default = c at d0 d1 d2 e0 e1 e2 K
      have hk0 : (0 : Int) ≤ (k : Int) := by omega
      have hk1 : (k : Int) < (n : Int) := by omega
      clear hR1 hR2 hbel
      go_wp2_with fail
      go_still_tail 8, (by kernel_rfl)
      change wpList _ _ _ _ _ wr.drew
      have hd : Below w.heap.size w wr.drew := HB.out.drew
      have hds := hd.size
      have HD : Hid (Below w.heap.size w wr.drew) := hd
      clear hd d0 d1 d2 e0 e1 e2
      generalize wr.drew = wx at HD hds ⊢
      go_wp2_with fail
      refine (K.call _).mono ?_
      rintro e w2 ⟨rfl, hb⟩
      have HB2 : Hid (Below w.heap.size w w2) := HD.out.trans (hb.mono hds)
      clear hb
      go_wp2
      go_roundw
      case rel => exact ⟨k + 1, by omega, by go_num, HB2.out⟩
      case measure => simp [intOf]; omega
    · have hkn : k = n := by omega
      subst hkn
      clear hbel
      go_wp2
      go_ret
      exact ⟨rfl, HB.out⟩⟩
end Go.Proofs.Ytlnikapkheldeaa

/-
  Pictures copied and held against each other in the laws; lists of colours marked.
-/
namespace Go.Proofs.Ytlnikapkheldeaa
open Go.ChangeShapes Go.WideShapes Go.ChangeAt Go.RowKit Go.Joins
set_option linter.unusedSimpArgs false
set_option linter.unusedVariables false
set_option maxRecDepth 100000
attribute [local go_sem] store_f
open Ieee

/-! Sizes: what is too great to be looked at. -/
structure SzPic (n : Int) (a : Option Addr) (cap len : Nat) (left r : Int) : Prop where
  call : ∀ w : World, Calls Try.prog 43 #[.agg #[.int .i64 n, .slice a len cap], .int .i64 left] w fun e w' => e = .returned (.int .i64 r) ∧ Below w.heap.size w w'
theorem szCols_yes {a : Option Addr} {cap len : Nat} {left : Int} (h : (len : Int) ≤ left) (h2 : left ≤ 1048576) (w : World) : Calls Try.prog 111 #[.slice a len cap, .int .i64 left] w fun e w' => e = .returned (.int .i64 (left - len)) ∧ w' = w := by
  have h3 : ¬ (left - (len : Int)) < 0 := by omega
  have h4 : decide ((left - (len : Int)) < 0) = false := by simpa using h3
  go_enter Try.func111, Try.ntmps111
  go_wp2
  go_ret
  exact ⟨rfl, rfl⟩
theorem szCols_no {a : Option Addr} {cap len : Nat} {left : Int} (h : left < (len : Int)) (h0 : 0 ≤ left) (hl : (len : Int) ≤ 9223372036854775807) (w : World) : Calls Try.prog 111 #[.slice a len cap, .int .i64 left] w fun e w' => e = .returned (.int .i64 (-1)) ∧ w' = w := by
  have h3 : (left - (len : Int)) < 0 := by omega
  go_enter Try.func111, Try.ntmps111
  go_wp2
  go_ret
  exact ⟨rfl, rfl⟩
theorem szPic_yes {n : Int} {a : Option Addr} {cap len : Nat} {left : Int} (h : (len : Int) ≤ left) (h2 : left ≤ 1048576) : SzPic n a cap len left (left - len) := ⟨fun w => by
  have h3 : ¬ (left - (len : Int)) < 0 := by omega
  have h4 : decide ((left - (len : Int)) < 0) = false := by simpa using h3
  go_enter Try.func43, Try.ntmps43
  go_wp2_with (go_at_call 111; (with_reducible refine (szCols_yes h h2 _).mono ?_); rintro e w1 ⟨rfl, rfl⟩)
  go_ret
  exact ⟨rfl, by (repeat' (first | (with_reducible exact Below.refl _ _) | (with_reducible assumption) | (with_reducible refine Below.alloc ?_ ?_ _) | (with_reducible refine Below.drew ?_) | (with_reducible refine Below.setCell ?_ ?_ _) | (with_reducible refine Below.trans ?_ (Below.mono (by assumption) ?_)) | (with_reducible exact Nat.le_refl _) | omega | (simp only [World.size_alloc, World.size_setCell, World.size_drew]; omega) | (simp; omega) | (simp; done)))⟩⟩
theorem szPic_no {n : Int} {a : Option Addr} {cap len : Nat} {left : Int} (h : left < (len : Int)) (h0 : 0 ≤ left) (hl : (len : Int) ≤ 9223372036854775807) : SzPic n a cap len left (-1) := ⟨fun w => by
  go_enter Try.func43, Try.ntmps43
  go_wp2_with (go_at_call 111; (with_reducible refine (szCols_no h h0 hl _).mono ?_); rintro e w1 ⟨rfl, rfl⟩)
  go_ret
  exact ⟨rfl, by (repeat' (first | (with_reducible exact Below.refl _ _) | (with_reducible assumption) | (with_reducible refine Below.alloc ?_ ?_ _) | (with_reducible refine Below.drew ?_) | (with_reducible refine Below.setCell ?_ ?_ _) | (with_reducible refine Below.trans ?_ (Below.mono (by assumption) ?_)) | (with_reducible exact Nat.le_refl _) | omega | (simp only [World.size_alloc, World.size_setCell, World.size_drew]; omega) | (simp; omega) | (simp; done)))⟩⟩

/-! Copies. -/
structure ToPic (n : Int) (a : Option Addr) (cap : Nat) (l : List Lit) : Prop where
  call : ∀ w : World, LitsAt w a l → Calls Try.prog 45 #[.agg #[.int .i64 n, .slice a l.length cap]] w fun e w' => (∃ g, e = .returned (.agg #[.int .i64 n, .slice (some ⟨g, 0, Option.none⟩) l.length l.length]) ∧ w.heap.size ≤ g ∧ LitBlk w' g l) ∧ Below w.heap.size w w'
set_option maxHeartbeats 8000000 in
theorem toPic {n : Int} {a : Option Addr} {cap : Nat} {l : List Lit} (hn : l.length ≤ 1048576) : ToPic n a cap l := ⟨fun w hrow => by
  have T := toCols (a := a) (cap := cap) hn
  have HR : Hid (LitsAt w a l) := hrow
  clear hrow
  go_enter Try.func45, Try.ntmps45
  go_wp2_with fail
  generalize hV : ((w.alloc (.cells #[.int .i64 n, .slice a l.length cap] 69)).alloc (.cells #[.int .i64 0, .slice Option.none 0 0] 37)).alloc (.cells #[.int .i64 n, .slice Option.none 0 0] 37) = V
  have R0 : Hid (Blk V (w.heap.size + 1) #[.int .i64 0, .slice Option.none 0 0] 37) := by rw [← hV]; exact (Blk.newAt (by simp)).alloc
  have P0 : Hid (Blk V (w.heap.size + 1 + 1) #[.int .i64 n, .slice Option.none 0 0] 37) := by rw [← hV]; exact Blk.newAt (by simp)
  have L0 : Hid (LitsAt V a l) := by rw [← hV]; exact LitsAt.below HR.out (by (repeat' (first | (with_reducible exact Below.refl _ _) | (with_reducible assumption) | (with_reducible refine Below.alloc ?_ ?_ _) | (with_reducible refine Below.drew ?_) | (with_reducible refine Below.setCell ?_ ?_ _) | (with_reducible refine Below.trans ?_ (Below.mono (by assumption) ?_)) | (with_reducible exact Nat.le_refl _) | omega | (simp only [World.size_alloc, World.size_setCell, World.size_drew]; omega) | (simp; omega) | (simp; done))))
  have hB : Below w.heap.size w V := by rw [← hV]; (repeat' (first | (with_reducible exact Below.refl _ _) | (with_reducible assumption) | (with_reducible refine Below.alloc ?_ ?_ _) | (with_reducible refine Below.drew ?_) | (with_reducible refine Below.setCell ?_ ?_ _) | (with_reducible refine Below.trans ?_ (Below.mono (by assumption) ?_)) | (with_reducible exact Nat.le_refl _) | omega | (simp only [World.size_alloc, World.size_setCell, World.size_drew]; omega) | (simp; omega) | (simp; done)))
  have HB : Hid (Below w.heap.size w V) := hB
  have hs : V.heap.size = w.heap.size + 3 := by rw [← hV]; simp
  clear hV hB HR
  refine (T.call _ L0.out).mono ?_
  rintro e w1 ⟨rfl, hblk, hb⟩
  have R1 : Hid (Blk w1 (w.heap.size + 1) #[.int .i64 0, .slice Option.none 0 0] 37) := R0.out.below hb
  have P1 : Hid (Blk w1 (w.heap.size + 1 + 1) #[.int .i64 n, .slice Option.none 0 0] 37) := P0.out.below hb
  have HB1 : Hid (Below w.heap.size w w1) := HB.out.trans (hb.mono (by omega))
  have HL1 : Hid (LitBlk w1 V.heap.size l) := hblk
  have hs1 : w.heap.size + 1 + 1 < w1.heap.size := P1.out.lt
  clear hb hblk R0 P0 L0 HB
  rw [hs] at HL1 ⊢
  have p0 := Blk.cellAt (i := 0) P1.out rfl
  have p1 := Blk.cellAt (i := 1) P1.out rfl
  have p2 := P1.out.free 1
  simp only [List.getElem_toArray, List.getElem_cons_zero, List.getElem_cons_succ] at p0 p1
  have r0 := Blk.cellAt (i := 0) R1.out rfl
  have r1 := Blk.cellAt (i := 1) R1.out rfl
  have f0 := R1.out.free 0
  have f1 := R1.out.free 1
  simp only [List.getElem_toArray, List.getElem_cons_zero, List.getElem_cons_succ] at r0 r1
  generalize hY : ((w1.setCell ⟨w.heap.size + 1 + 1, 1, Option.none⟩ (.slice (some ⟨w.heap.size + 3, 0, Option.none⟩) l.length l.length)).setCell ⟨w.heap.size + 1, 0, Option.none⟩ (.int .i64 n)).setCell ⟨w.heap.size + 1, 1, Option.none⟩ (.slice (some ⟨w.heap.size + 3, 0, Option.none⟩) l.length l.length) = Y
  have RY : Hid (Blk Y (w.heap.size + 1) #[.int .i64 n, .slice (some ⟨w.heap.size + 3, 0, Option.none⟩) l.length l.length] 37) := by
    rw [← hY]
    exact Blk.setAt rfl (Blk.setAt rfl (R1.out.other (by dsimp only; omega)) rfl) rfl
  have LY : Hid (LitBlk Y (w.heap.size + 3) l) := by
    rw [← hY]
    obtain ⟨cur, h1, h2⟩ := HL1.out
    exact ⟨cur, (((Blk.other h1 (by dsimp only; omega)).other (by dsimp only; omega)).other (by dsimp only; omega)), h2⟩
  have BY : Hid (Below w.heap.size w Y) := by
    rw [← hY]
    exact ((HB1.out.setCell (by dsimp only; omega) _).setCell (by dsimp only; omega) _).setCell (by dsimp only; omega) _
  have HY : Hid (((w1.setCell ⟨w.heap.size + 1 + 1, 1, Option.none⟩ (.slice (some ⟨w.heap.size + 3, 0, Option.none⟩) l.length l.length)).setCell ⟨w.heap.size + 1, 0, Option.none⟩ (.int .i64 n)).setCell ⟨w.heap.size + 1, 1, Option.none⟩ (.slice (some ⟨w.heap.size + 3, 0, Option.none⟩) l.length l.length) = Y) := hY
  clear hY
  go_wp2
  rw [HY.out]
  have y0 := Blk.cellAt (i := 0) RY.out rfl
  have y1 := Blk.cellAt (i := 1) RY.out rfl
  simp only [List.getElem_toArray, List.getElem_cons_zero, List.getElem_cons_succ] at y0 y1
  exact bodyPost_ret (v := .agg #[.int .i64 n, .slice (some ⟨w.heap.size + 3, 0, Option.none⟩) l.length l.length]) (by simp [results, Try.results45, go_sem, y0, y1]) rfl ⟨⟨_, rfl, by omega, LY.out⟩, BY.out⟩⟩

/-- Two pictures of the same cells are the same in the law. -/
structure EqPic (n : Int) (a : Option Addr) (ca : Nat) (b : Option Addr) (cb : Nat) (l : List Lit) : Prop where
  call : ∀ w : World, LitsAt w a l → LitsAt w b l → Calls Try.prog 46 #[.agg #[.int .i64 n, .slice a l.length ca], .agg #[.int .i64 n, .slice b l.length cb]] w fun e w' => e = .returned (.bool true) ∧ Below w.heap.size w w'
set_option maxHeartbeats 8000000 in
theorem eqPic {n : Int} {a : Option Addr} {ca : Nat} {b : Option Addr} {cb : Nat} {l : List Lit} (hw : ∀ c ∈ l, c.W) (hn : l.length ≤ 1048576) : EqPic n a ca b cb l := ⟨fun w hr1 hr2 => by
  have E := eqColsM (a := a) (ca := ca) (b := b) (cb := cb) hw hn
  have R1 : Hid (LitsAt w a l) := hr1
  have R2 : Hid (LitsAt w b l) := hr2
  clear hr1 hr2 hw hn
  go_enter Try.func46, Try.ntmps46
  go_wp2_with fail
  refine (E.call _ ((R1.out.alloc).alloc) ((R2.out.alloc).alloc)).mono ?_
  rintro e w1 ⟨rfl, hb⟩
  have HB : Hid (Below w.heap.size w w1) := by
    show Below w.heap.size w w1
    exact Below.trans (by (repeat' (first | (with_reducible exact Below.refl _ _) | (with_reducible assumption) | (with_reducible refine Below.alloc ?_ ?_ _) | (with_reducible refine Below.drew ?_) | (with_reducible refine Below.setCell ?_ ?_ _) | (with_reducible refine Below.trans ?_ (Below.mono (by assumption) ?_)) | (with_reducible exact Nat.le_refl _) | omega | (simp only [World.size_alloc, World.size_setCell, World.size_drew]; omega) | (simp; omega) | (simp; done)))) (hb.mono (by simp; omega))
  clear hb
  go_wp2
  go_ret
  exact ⟨rfl, HB.out⟩⟩

/-! Marks. -/
/-- The mark of a number. -/
def mkF (z : Int) : Nat := floatOfInt .f32 z
/-- A block with room for n colours, of which the first k are marked, counted from m. -/
def MarkPart (W : World) (g n k : Nat) (m : Int) : Prop := ∃ cur, Blk W g cur 49 ∧ n * 3 ≤ cur.size ∧ ∀ j : Nat, j < k → cur[j * 3]? = some (.float .f32 (mkF (m + 3 * j))) ∧ cur[j * 3 + 1]? = some (.float .f32 (mkF (m + 3 * j + 1))) ∧ cur[j * 3 + 2]? = some (.float .f32 (mkF (m + 3 * j + 1 + 1)))
theorem MarkPart.step {W : World} {g n k : Nat} {m : Int} (h : MarkPart W g n k m) (hk : k < n) :
    MarkPart (((W.setCell ⟨g, k * 3, Option.none⟩ (.float .f32 (mkF (m + 3 * k)))).setCell ⟨g, k * 3 + 1, Option.none⟩ (.float .f32 (mkF (m + 3 * k + 1)))).setCell ⟨g, k * 3 + 2, Option.none⟩ (.float .f32 (mkF (m + 3 * k + 1 + 1)))) g n (k + 1) m := by
  obtain ⟨cur, hb, hs, hm⟩ := h
  refine ⟨_, Blk.set (Blk.set (Blk.set hb)), by simpa using hs, fun j hj => ?_⟩
  simp only [Array.getElem?_setIfInBounds, Array.size_setIfInBounds]
  by_cases e : j = k
  · subst e
    simp
    omega
  · obtain ⟨h0, h1, h2⟩ := hm j (by omega)
    have e1 : ¬ k * 3 = j * 3 := by omega
    have e2 : ¬ k * 3 + 1 = j * 3 := by omega
    have e3 : ¬ k * 3 + 2 = j * 3 := by omega
    have e4 : ¬ k * 3 = j * 3 + 1 := by omega
    have e5 : ¬ k * 3 + 1 = j * 3 + 1 := by omega
    have e6 : ¬ k * 3 + 2 = j * 3 + 1 := by omega
    have e7 : ¬ k * 3 = j * 3 + 2 := by omega
    have e8 : ¬ k * 3 + 1 = j * 3 + 2 := by omega
    have e9 : ¬ k * 3 + 2 = j * 3 + 2 := by omega
    simp only [e1, e2, e3, e4, e5, e6, e7, e8, e9, if_false, ite_false]
    exact ⟨h0, h1, h2⟩
theorem MarkPart.of {W : World} {g : Nat} {l : List Lit} (h : LitBlk W g l) (m : Int) : MarkPart W g l.length 0 m := by
  obtain ⟨cur, h1, h2, _⟩ := h
  exact ⟨cur, h1, h2, fun j hj => absurd hj (by omega)⟩
theorem MarkPart.below {W w1 : World} {g n k : Nat} {m : Int} (h : MarkPart W g n k m) (hb : Below W.heap.size W w1) : MarkPart w1 g n k m := by
  obtain ⟨cur, h1, h2⟩ := h
  exact ⟨cur, h1.below hb, h2⟩
structure MarkM (g n c : Nat) (m : Int) : Prop where
  call : ∀ w : World, MarkPart w g n 0 m → Calls Try.prog 120 #[.slice (some ⟨g, 0, Option.none⟩) n c, .int .i64 m] w fun e w' => e = .returned (.int .i64 (m + 3 * n)) ∧ MarkPart w' g n n m ∧ w.grownBy w' (some g)
set_option maxHeartbeats 8000000 in
theorem markM {g n c : Nat} {m : Int} (hn : n ≤ 1048576) (hm0 : 0 ≤ m) (hm1 : m ≤ 1000000) : MarkM g n c m := ⟨fun w hp => by
  go_enter Try.func120, Try.ntmps120
  go_wp2
  go_loopw [1, 5] (fun q i wr => ∃ k : Nat, k ≤ n ∧ i = .int .i64 k ∧ q = .int .i64 (m + 3 * (k : Int)) ∧ MarkPart wr g n k m ∧ w.grownBy wr (some g)) (fun _ i _ => n - (intOf i).toNat)
  case atStart => exact ⟨0, by omega, rfl, by simp, hp, grownBy_refl _ _⟩
  case round =>
    obtain ⟨k, hk, rfl, rfl, hpart, hgr⟩ := hrel
    by_cases hlt : k < n
    · have hst := hpart.step hlt
      obtain ⟨cur, hb, hs, hm⟩ := hpart
      obtain ⟨x0, e0⟩ : ∃ x, wr.cell? ⟨g, k * 3, Option.none⟩ = some x := by rw [hb.cell]; exact ⟨_, Array.getElem?_eq_getElem (by omega)⟩
      obtain ⟨x1, e1⟩ : ∃ x, wr.cell? ⟨g, k * 3 + 1, Option.none⟩ = some x := by rw [hb.cell]; exact ⟨_, Array.getElem?_eq_getElem (by omega)⟩
      obtain ⟨x2, e2⟩ : ∃ x, wr.cell? ⟨g, k * 3 + 2, Option.none⟩ = some x := by rw [hb.cell]; exact ⟨_, Array.getElem?_eq_getElem (by omega)⟩
      have f0 := hb.free (k * 3)
      have f1 := hb.free (k * 3 + 1)
      have f2 := hb.free (k * 3 + 2)
      have HG : Hid (w.grownBy wr (some g)) := hgr
      have HS : Hid (MarkPart (((wr.setCell ⟨g, k * 3, Option.none⟩ (.float .f32 (mkF (m + 3 * k)))).setCell ⟨g, k * 3 + 1, Option.none⟩ (.float .f32 (mkF (m + 3 * k + 1)))).setCell ⟨g, k * 3 + 2, Option.none⟩ (.float .f32 (mkF (m + 3 * k + 1 + 1)))) g n (k + 1) m) := hst
      clear hb hm hs hgr hst hp
      go_wp2
      go_roundw
      case rel => exact ⟨k + 1, by omega, by go_num, by first | (go_num; done) | (simp; omega), HS.out, grownBy_set (grownBy_set (grownBy_set HG.out))⟩
      case measure => simp [intOf]; omega
    · have hkn : k = n := by omega
      subst hkn
      have HP : Hid (MarkPart wr g k k m) := hpart
      have HG : Hid (w.grownBy wr (some g)) := hgr
      clear hpart hgr hp
      go_wp2
      go_ret
      exact ⟨rfl, HP.out, HG.out⟩⟩
end Go.Proofs.Ytlnikapkheldeaa

/-
  Marks of pictures.
-/
namespace Go.Proofs.Ytlnikapkheldeaa
open Go.ChangeShapes Go.WideShapes Go.ChangeAt Go.RowKit Go.Joins
set_option linter.unusedSimpArgs false
set_option linter.unusedVariables false
set_option maxRecDepth 100000
attribute [local go_sem] store_f
open Ieee

theorem mk_same : ∀ z : Nat, z < 256 → (FloatKind.f32.format.order (mkF (z : Int)) (mkF (z : Int)) == some .eq) = true := by decide +kernel
theorem bne_of {a b : Option Ordering} (h : (a == b) = true) : (a != b) = false := by unfold bne; rw [h]; rfl
/-- What a marked list of n colours holds. -/
def MarksAt (W : World) (g n : Nat) (m : Int) : Prop := ∀ j : Nat, j < n → W.cell? ⟨g, j * 3, Option.none⟩ = some (.float .f32 (mkF (m + 3 * j))) ∧ W.cell? ⟨g, j * 3 + 1, Option.none⟩ = some (.float .f32 (mkF (m + 3 * j + 1))) ∧ W.cell? ⟨g, j * 3 + 2, Option.none⟩ = some (.float .f32 (mkF (m + 3 * j + 1 + 1)))
theorem MarksAt.below {W w1 : World} {g n : Nat} {m : Int} (h : MarksAt W g n m) (hb : Below W.heap.size W w1) : MarksAt w1 g n m := fun j hj => by
  obtain ⟨h0, h1, h2⟩ := h j hj
  exact ⟨cBelow hb h0, cBelow hb h1, cBelow hb h2⟩
theorem MarkPart.at_ {W : World} {g n : Nat} {m : Int} (h : MarkPart W g n n m) : MarksAt W g n m := fun j hj => by
  obtain ⟨cur, hb, _, hm⟩ := h
  obtain ⟨h0, h1, h2⟩ := hm j hj
  exact ⟨(hb.cell _).trans h0, (hb.cell _).trans h1, (hb.cell _).trans h2⟩
structure HeldM (g n c : Nat) : Prop where
  call : ∀ w : World, MarksAt w g n 1 → Calls Try.prog 121 #[.slice (some ⟨g, 0, Option.none⟩) n c, .int .i64 1] w fun e w' => e = .returned (.int .i64 (1 + 3 * n)) ∧ Below w.heap.size w w'
set_option maxHeartbeats 8000000 in
theorem heldM {g n c : Nat} (hn : n ≤ 64) : HeldM g n c := ⟨fun w hp => by
  have HP : Hid (MarksAt w g n 1) := hp
  clear hp
  go_enter Try.func121, Try.ntmps121
  go_wp2
  go_loop [1, 5] (fun q i => ∃ k : Nat, k ≤ n ∧ i = .int .i64 k ∧ q = .int .i64 (1 + 3 * (k : Int))) (fun _ i => n - (intOf i).toNat)
  case atStart => exact ⟨0, by omega, rfl, by simp⟩
  case round =>
    obtain ⟨k, hk, rfl, rfl⟩ := hrel
    by_cases hlt : k < n
    · obtain ⟨h0, h1, h2⟩ := HP.out k hlt
      have q0 := mk_same (1 + 3 * k) (by omega)
      have q1 := mk_same (1 + 3 * k + 1) (by omega)
      have q2 := mk_same (1 + 3 * k + 1 + 1) (by omega)
      rw [show ((1 + 3 * k : Nat) : Int) = 1 + 3 * (k : Int) by omega] at q0
      rw [show ((1 + 3 * k + 1 : Nat) : Int) = 1 + 3 * (k : Int) + 1 by omega] at q1
      rw [show ((1 + 3 * k + 1 + 1 : Nat) : Int) = 1 + 3 * (k : Int) + 1 + 1 by omega] at q2
      unfold mkF at h0 h1 h2 q0 q1 q2
      have n0 := bne_of q0
      have n1 := bne_of q1
      have n2 := bne_of q2
      go_wp2
      go_round
      case rel => exact ⟨k + 1, by omega, by go_num, by first | (go_num; done) | (simp; omega)⟩
      case measure => simp [intOf]; omega
    · have hkn : k = n := by omega
      subst hkn
      go_wp2
      go_ret
      exact ⟨rfl, Below.refl _ _⟩⟩

structure MarkP (n : Int) (g len c : Nat) (m : Int) : Prop where
  call : ∀ w : World, MarkPart w g len 0 m → Calls Try.prog 52 #[.agg #[.int .i64 n, .slice (some ⟨g, 0, Option.none⟩) len c], .int .i64 m] w fun e w' => e = .returned (.int .i64 (m + 3 * len)) ∧ MarkPart w' g len len m ∧ w.grownBy w' (some g)
theorem MarkPart.alloc {W : World} {g n k : Nat} {m : Int} {o : Obj} (h : MarkPart W g n k m) : MarkPart (W.alloc o) g n k m := by
  obtain ⟨cur, h1, h2⟩ := h
  exact ⟨cur, h1.alloc, h2⟩
set_option maxHeartbeats 4000000 in
theorem markP {n : Int} {g len c : Nat} {m : Int} (hn : len ≤ 1048576) (hm0 : 0 ≤ m) (hm1 : m ≤ 1000000) : MarkP n g len c m := ⟨fun w hp => by
  have M := markM (c := c) (g := g) hn hm0 hm1
  have HP : Hid (MarkPart w g len 0 m) := hp
  clear hp
  go_enter Try.func52, Try.ntmps52
  go_wp2_with fail
  refine (M.call _ HP.out.alloc).mono ?_
  rintro e w1 ⟨rfl, hp, hg⟩
  have HP1 : Hid (MarkPart w1 g len len m) := hp
  have HG1 : Hid (w.grownBy w1 (some g)) := grownBy_trans (grown_alloc (grownBy_refl _ _) _) hg
  clear hp hg
  go_wp2
  go_ret
  exact ⟨rfl, HP1.out, HG1.out⟩⟩
structure HeldP (n : Int) (g len c : Nat) : Prop where
  call : ∀ w : World, MarksAt w g len 1 → Calls Try.prog 53 #[.agg #[.int .i64 n, .slice (some ⟨g, 0, Option.none⟩) len c], .int .i64 1] w fun e w' => e = .returned (.int .i64 (1 + 3 * len)) ∧ Below w.heap.size w w'
set_option maxHeartbeats 4000000 in
theorem heldP {n : Int} {g len c : Nat} (hn : len ≤ 64) : HeldP n g len c := ⟨fun w hp => by
  have M := heldM (c := c) (g := g) hn
  have HP : Hid (MarksAt w g len 1) := hp
  have hlt : ¬ (1 + 3 * (len : Int)) < 0 := by omega
  have hlt2 : decide ((1 + 3 * (len : Int)) < 0) = false := by simpa using hlt
  clear hp
  go_enter Try.func53, Try.ntmps53
  go_wp2_with fail
  refine (M.call _ (MarksAt.below HP.out (by (repeat' (first | (with_reducible exact Below.refl _ _) | (with_reducible assumption) | (with_reducible refine Below.alloc ?_ ?_ _) | (with_reducible refine Below.drew ?_) | (with_reducible refine Below.setCell ?_ ?_ _) | (with_reducible refine Below.trans ?_ (Below.mono (by assumption) ?_)) | (with_reducible exact Nat.le_refl _) | omega | (simp only [World.size_alloc, World.size_setCell, World.size_drew]; omega) | (simp; omega) | (simp; done)))))).mono ?_
  rintro e w1 ⟨rfl, hb⟩
  have HB : Hid (Below w.heap.size w w1) := by
    show Below w.heap.size w w1
    exact Below.trans (by (repeat' (first | (with_reducible exact Below.refl _ _) | (with_reducible assumption) | (with_reducible refine Below.alloc ?_ ?_ _) | (with_reducible refine Below.drew ?_) | (with_reducible refine Below.setCell ?_ ?_ _) | (with_reducible refine Below.trans ?_ (Below.mono (by assumption) ?_)) | (with_reducible exact Nat.le_refl _) | omega | (simp only [World.size_alloc, World.size_setCell, World.size_drew]; omega) | (simp; omega) | (simp; done)))) (hb.mono (by simp))
  clear hb
  go_wp2
  go_ret
  exact ⟨rfl, HB.out⟩⟩

/-! The same for pictures without cells, whose slice may be nil. -/
theorem mark_nil (n : Int) (a : Option Addr) (c : Nat) (m : Int) (hm0 : 0 ≤ m) (w : World) : Calls Try.prog 52 #[.agg #[.int .i64 n, .slice a 0 c], .int .i64 m] w fun e w' => e = .returned (.int .i64 m) ∧ Below w.heap.size w w' := by
  have M : ∀ w, Calls Try.prog 120 #[.slice a 0 c, .int .i64 m] w fun e w' => e = .returned (.int .i64 m) ∧ w' = w := fun w => by
    go_enter Try.func120, Try.ntmps120
    go_wp2
    go_rounds 1
    go_ret
    exact ⟨rfl, rfl⟩
  go_enter Try.func52, Try.ntmps52
  go_wp2_with (go_at_call 120; (with_reducible refine (M _).mono ?_); rintro e w1 ⟨rfl, rfl⟩)
  go_ret
  exact ⟨rfl, by (repeat' (first | (with_reducible exact Below.refl _ _) | (with_reducible assumption) | (with_reducible refine Below.alloc ?_ ?_ _) | (with_reducible refine Below.drew ?_) | (with_reducible refine Below.setCell ?_ ?_ _) | (with_reducible refine Below.trans ?_ (Below.mono (by assumption) ?_)) | (with_reducible exact Nat.le_refl _) | omega | (simp only [World.size_alloc, World.size_setCell, World.size_drew]; omega) | (simp; omega) | (simp; done)))⟩
theorem held_nil (n : Int) (a : Option Addr) (c : Nat) (w : World) : Calls Try.prog 53 #[.agg #[.int .i64 n, .slice a 0 c], .int .i64 1] w fun e w' => e = .returned (.int .i64 1) ∧ Below w.heap.size w w' := by
  have M : ∀ w, Calls Try.prog 121 #[.slice a 0 c, .int .i64 1] w fun e w' => e = .returned (.int .i64 1) ∧ w' = w := fun w => by
    go_enter Try.func121, Try.ntmps121
    go_wp2
    go_rounds 1
    go_ret
    exact ⟨rfl, rfl⟩
  go_enter Try.func53, Try.ntmps53
  go_wp2_with (go_at_call 121; (with_reducible refine (M _).mono ?_); rintro e w1 ⟨rfl, rfl⟩)
  go_ret
  exact ⟨rfl, by (repeat' (first | (with_reducible exact Below.refl _ _) | (with_reducible assumption) | (with_reducible refine Below.alloc ?_ ?_ _) | (with_reducible refine Below.drew ?_) | (with_reducible refine Below.setCell ?_ ?_ _) | (with_reducible refine Below.trans ?_ (Below.mono (by assumption) ?_)) | (with_reducible exact Nat.le_refl _) | omega | (simp only [World.size_alloc, World.size_setCell, World.size_drew]; omega) | (simp; omega) | (simp; done)))⟩
end Go.Proofs.Ytlnikapkheldeaa

/-
  Pictures that lie in memory of their own, or have no cells.
-/
namespace Go.Proofs.Ytlnikapkheldeaa
open Go.ChangeShapes Go.WideShapes Go.ChangeAt Go.RowKit Go.Joins
set_option linter.unusedSimpArgs false
set_option linter.unusedVariables false
set_option maxRecDepth 100000
attribute [local go_sem] store_f
open Ieee

/-- A list of colours in memory made between B and C; or none. -/
def OwnIn (W : World) (B C : Nat) (a : Option Addr) (l : List Lit) : Prop := l = [] ∨ ∃ g, a = some ⟨g, 0, Option.none⟩ ∧ B ≤ g ∧ g < C ∧ LitBlk W g l
/-- .. that is marked. -/
def MarkedIn (W : World) (B C : Nat) (a : Option Addr) (len : Nat) : Prop := len = 0 ∨ ∃ g, a = some ⟨g, 0, Option.none⟩ ∧ B ≤ g ∧ g < C ∧ MarksAt W g len 1
theorem OwnIn.lits {W : World} {B C : Nat} {a : Option Addr} {l : List Lit} (h : OwnIn W B C a l) : LitsAt W a l := by
  rcases h with h | ⟨g, e, _, _, h⟩
  · exact .inl h
  · exact .inr ⟨g, 0, e, h.row⟩
theorem OwnIn.below {W w1 : World} {B C : Nat} {a : Option Addr} {l : List Lit} (h : OwnIn W B C a l) (hb : Below W.heap.size W w1) : OwnIn w1 B C a l := by
  rcases h with h | ⟨g, e, h1, h2, h⟩
  · exact .inl h
  · exact .inr ⟨g, e, h1, h2, h.below hb⟩
theorem OwnIn.alloc {W : World} {B C : Nat} {a : Option Addr} {l : List Lit} {o : Obj} (h : OwnIn W B C a l) : OwnIn (W.alloc o) B C a l := by
  rcases h with h | ⟨g, e, h1, h2, h⟩
  · exact .inl h
  · exact .inr ⟨g, e, h1, h2, h.alloc⟩
theorem MarkedIn.below {W w1 : World} {B C len : Nat} {a : Option Addr} (h : MarkedIn W B C a len) (hb : Below W.heap.size W w1) : MarkedIn w1 B C a len := by
  rcases h with h | ⟨g, e, h1, h2, h⟩
  · exact .inl h
  · exact .inr ⟨g, e, h1, h2, h.below hb⟩
theorem MarksAt.alloc {W : World} {g n : Nat} {m : Int} {o : Obj} (h : MarksAt W g n m) : MarksAt (W.alloc o) g n m := fun j hj => by
  obtain ⟨h0, h1, h2⟩ := h j hj
  exact ⟨cAlloc h0, cAlloc h1, cAlloc h2⟩
theorem MarkedIn.alloc {W : World} {B C len : Nat} {a : Option Addr} {o : Obj} (h : MarkedIn W B C a len) : MarkedIn (W.alloc o) B C a len := by
  rcases h with h | ⟨g, e, h1, h2, h⟩
  · exact .inl h
  · exact .inr ⟨g, e, h1, h2, h.alloc⟩
theorem OwnIn.of {W : World} {B g c : Nat} {l : List Lit} (h : W.ownsRow B 49 3 (.slice (some ⟨g, 0, Option.none⟩) l.length c) l.length (litCells l)) : OwnIn W B W.heap.size (some ⟨g, 0, Option.none⟩) l := by
  obtain ⟨h1, h2⟩ := LitBlk.own h
  exact .inr ⟨g, rfl, h2, h1.lt, h1⟩
/-- What is written into memory from N to M (alone). -/
structure Wrote (N M : Nat) (w w' : World) : Prop where
  os : w'.os = w.os
  tape : w'.tape = w.tape
  output : w'.output = w.output
  size : w.heap.size ≤ w'.heap.size
  block : ∀ i, i < w.heap.size → (i < N ∨ M ≤ i) → w'.heap[i]? = w.heap[i]?
theorem Wrote.below {N M : Nat} {w w' : World} (h : Wrote N M w w') {B : Nat} (hB : B ≤ N) (hw : B ≤ w.heap.size) : Below B w w' := ⟨h.os, h.tape, h.output, h.size, fun i hi => h.block i (Nat.lt_of_lt_of_le hi hw) (.inl (Nat.lt_of_lt_of_le hi hB))⟩
theorem OwnIn.wrote {W w1 : World} {B C N M : Nat} {a : Option Addr} {l : List Lit} (h : OwnIn W B C a l) (hw : Wrote N M W w1) (hd : C ≤ N ∨ M ≤ B) : OwnIn w1 B C a l := by
  rcases h with h | ⟨g, e, h1, h2, cur, hb, h3⟩
  · exact .inl h
  · exact .inr ⟨g, e, h1, h2, cur, (hw.block g hb.lt (by omega)).trans hb, h3⟩
theorem LitsAt.wrote {W w1 : World} {N M B : Nat} {a : Option Addr} {l : List Lit} {w : World} (h : LitsAt w a l) (hb : Below w.heap.size w W) (hw : Wrote N M W w1) (hN : w.heap.size ≤ N) : LitsAt w1 a l :=
  h.below (hb.trans (hw.below hN hb.size))
theorem blk_wrote {W w1 : World} {N M b : Nat} {cs : Array Value} {t : TypeId} (h : Blk W b cs t) (hw : Wrote N M W w1) (hd : b < N ∨ M ≤ b) : Blk w1 b cs t := (hw.block b h.lt hd).trans h

/-! Marks and what holds them. -/
structure MarkA (n : Int) (a : Option Addr) (c : Nat) (l : List Lit) (B C : Nat) : Prop where
  call : ∀ w : World, OwnIn w B C a l → C ≤ w.heap.size → B ≤ C → Calls Try.prog 52 #[.agg #[.int .i64 n, .slice a l.length c], .int .i64 1] w fun e w' => e = .returned (.int .i64 (1 + 3 * l.length)) ∧ MarkedIn w' B C a l.length ∧ Wrote B C w w'
theorem wrote_of_below {N M : Nat} {w w' : World} (h : Below w.heap.size w w') : Wrote N M w w' := ⟨h.os, h.tape, h.output, h.size, fun i hi _ => h.block i hi⟩
theorem wrote_of_grown {N M g : Nat} {w w' : World} (h : w.grownBy w' (some g)) (h1 : N ≤ g) (h2 : g < M) : Wrote N M w w' := ⟨h.os, h.tape, h.output, h.size, fun i hi hd => h.block i hi (fun e => by cases e; omega)⟩
theorem markA {n : Int} {a : Option Addr} {c : Nat} {l : List Lit} {B C : Nat} (hn : l.length ≤ 1048576) : MarkA n a c l B C := ⟨fun w h _ _ => by
  rcases h with h | ⟨g, rfl, h1, h2, h⟩
  · subst h
    refine (mark_nil n a c 1 (by omega) w).mono ?_
    rintro e w1 ⟨rfl, hb⟩
    exact ⟨by simp, .inl rfl, wrote_of_below hb⟩
  · refine ((markP (n := n) (c := c) (m := 1) hn (by omega) (by omega)).call w (MarkPart.of h 1)).mono ?_
    rintro e w1 ⟨rfl, hp, hg⟩
    exact ⟨rfl, .inr ⟨g, rfl, h1, h2, hp.at_⟩, wrote_of_grown hg h1 h2⟩⟩
structure HeldA (n : Int) (a : Option Addr) (c len : Nat) (B C : Nat) : Prop where
  call : ∀ w : World, MarkedIn w B C a len → Calls Try.prog 53 #[.agg #[.int .i64 n, .slice a len c], .int .i64 1] w fun e w' => e = .returned (.int .i64 (1 + 3 * len)) ∧ Below w.heap.size w w'
theorem heldA {n : Int} {a : Option Addr} {c len : Nat} {B C : Nat} (hn : len ≤ 64) : HeldA n a c len B C := ⟨fun w h => by
  rcases h with h | ⟨g, rfl, _, _, h⟩
  · subst h
    refine (held_nil n a c w).mono ?_
    rintro e w1 ⟨rfl, hb⟩
    exact ⟨by simp, hb⟩
  · exact (heldP (n := n) (c := c) hn).call w h⟩
end Go.Proofs.Ytlnikapkheldeaa

/-
  SpreadPicture, of the program and of the model, whatever it is handed.
-/
namespace Go.Proofs.Ytlnikapkheldeaa
open Go.ChangeShapes Go.WideShapes Go.ChangeAt Go.RowKit Go.Joins
set_option linter.unusedSimpArgs false
set_option linter.unusedVariables false
set_option maxRecDepth 100000
attribute [local go_sem] store_f
open Ieee

/-- A picture and a word that a call has handed back. -/
structure GivesPic (w : World) (e : Ending) (w' : World) (m : Int) (k : List Lit) (ok : Bool) (a : Option Addr) (c : Nat) : Prop where
  ret : e = .returned (.tuple #[.agg #[.int .i64 m, .slice a k.length c], .bool ok])
  own : OwnIn w' w.heap.size w'.heap.size a k
  below : Below w.heap.size w w'
structure SprI (kind n : Int) (a : Option Addr) (cap : Nat) (l : List Lit) (m : Int) (k : List Lit) (ok : Bool) : Prop where
  call : ∀ w : World, LitsAt w a l → Calls Try.prog 37 #[.int .i64 kind, .agg #[.int .i64 n, .slice a l.length cap]] w fun e w' => ∃ b c, GivesPic w e w' m k ok b c
structure SprZ (kind n : Int) (a : Option Addr) (cap : Nat) (l : List Lit) (m : Int) (k : List Lit) (ok : Bool) : Prop where
  call : ∀ w : World, LitsAt w a l → Calls Try.prog 64 #[.int .i64 kind, .agg #[.int .i64 n, .slice a l.length cap]] w fun e w' => ∃ b c, GivesPic w e w' m k ok b c
theorem sprI_yes {kind : Int} {n : Nat} {a : Option Addr} {cap : Nat} {l : List Lit} (hk : kindB kind = true) (hp : picB n l = true) : SprI kind n a cap l n (spreadCols kind n l) true := ⟨fun w hr => by
  refine ((sprPic hk hp).call w hr).mono ?_
  rintro e w1 ⟨⟨g, c, ⟨rfl, hown⟩⟩, hb⟩
  obtain ⟨h1, h2⟩ := LitBlk.own hown
  exact ⟨_, c, rfl, .inr ⟨g, rfl, h2, h1.lt, h1⟩, hb⟩⟩
theorem sprZ_yes {kind : Int} {n : Nat} {a : Option Addr} {cap : Nat} {l : List Lit} (hk : kindB kind = true) (hp : picB n l = true) (hw : ∀ c ∈ l, c.W) : SprZ kind n a cap l n (spreadCols kind n l) true := ⟨fun w hr => by
  refine ((sprS hk hp hw).call w hr).mono ?_
  rintro e w1 ⟨⟨g, c, ⟨rfl, hown⟩⟩, hb⟩
  obtain ⟨h1, h2⟩ := LitBlk.own hown
  exact ⟨_, c, rfl, .inr ⟨g, rfl, h2, h1.lt, h1⟩, hb⟩⟩
theorem Hid.mk' {p : Prop} (h : p) : Hid p := h
theorem gives_no {w w' : World} (hb : Below w.heap.size w w') : ∃ b c, GivesPic w (.returned (.tuple #[.agg #[.int .i64 0, .slice Option.none 0 0], .bool false])) w' 0 [] false b c := ⟨Option.none, 0, rfl, .inl rfl, hb⟩
set_option maxHeartbeats 4000000 in
theorem sprI_kind {kind n : Int} {a : Option Addr} {cap : Nat} {l : List Lit} (hk : kindB kind = false) : SprI kind n a cap l 0 [] false := ⟨fun w _ => by
  have YK := fun w => isKind_i kind w
  rw [hk] at YK
  go_enter Try.func37, Try.ntmps37
  go_wp2_with (go_at_call 92; (with_reducible refine (YK _).mono ?_); rintro e w1 ⟨rfl, rfl⟩)
  go_returns
  exact gives_no (by (repeat' (first | (with_reducible exact Below.refl _ _) | (with_reducible assumption) | (with_reducible refine Below.alloc ?_ ?_ _) | (with_reducible refine Below.drew ?_) | (with_reducible refine Below.setCell ?_ ?_ _) | (with_reducible refine Below.trans ?_ (Below.mono (by assumption) ?_)) | (with_reducible exact Nat.le_refl _) | omega | (simp only [World.size_alloc, World.size_setCell, World.size_drew]; omega) | (simp; omega) | (simp; done))))⟩
set_option maxHeartbeats 4000000 in
theorem sprI_pic {kind n : Int} {a : Option Addr} {cap : Nat} {l : List Lit} (hk : kindB kind = true) (hp : picB n l = false) : SprI kind n a cap l 0 [] false := ⟨fun w hrow => by
  have YK := fun w => isKind_i kind w
  rw [hk] at YK
  have IP := picIs n a cap l
  rw [hp] at IP
  have HR : Hid (LitsAt w a l) := hrow
  clear hrow
  go_enter Try.func37, Try.ntmps37
  go_wp2_with (go_at_call 92; (with_reducible refine (YK _).mono ?_); rintro e w1 ⟨rfl, rfl⟩)
  refine (IP.call _ (LitsAt.below HR.out (by (repeat' (first | (with_reducible exact Below.refl _ _) | (with_reducible assumption) | (with_reducible refine Below.alloc ?_ ?_ _) | (with_reducible refine Below.drew ?_) | (with_reducible refine Below.setCell ?_ ?_ _) | (with_reducible refine Below.trans ?_ (Below.mono (by assumption) ?_)) | (with_reducible exact Nat.le_refl _) | omega | (simp only [World.size_alloc, World.size_setCell, World.size_drew]; omega) | (simp; omega) | (simp; done)))))).mono ?_
  rintro e w2 ⟨rfl, hb⟩
  have HB : Hid (Below w.heap.size w w2) := by
    show Below w.heap.size w w2
    exact Below.trans (by (repeat' (first | (with_reducible exact Below.refl _ _) | (with_reducible assumption) | (with_reducible refine Below.alloc ?_ ?_ _) | (with_reducible refine Below.drew ?_) | (with_reducible refine Below.setCell ?_ ?_ _) | (with_reducible refine Below.trans ?_ (Below.mono (by assumption) ?_)) | (with_reducible exact Nat.le_refl _) | omega | (simp only [World.size_alloc, World.size_setCell, World.size_drew]; omega) | (simp; omega) | (simp; done)))) (hb.mono (by simp; omega))
  have hR : Blk w2 (w.heap.size + 1 + 1) #[.int .i64 0, .slice Option.none 0 0] 37 := Blk.belowAt hb (Blk.newAt (by simp))
  (have r0 := Blk.cellAt (i := 0) hR rfl; have r1 := Blk.cellAt (i := 1) hR rfl; simp only [List.getElem_toArray, List.getElem_cons_zero, List.getElem_cons_succ] at r0 r1)
  have f0 := hR.free 0
  have f1 := hR.free 1
  clear hb
  (have RS := (hR.set (i := 0) (v := .int .i64 0)).set (i := 1) (v := .slice Option.none 0 0); have e0 := RS.cell 0; have e1 := RS.cell 1; simp only [List.setIfInBounds_toArray, List.set_cons_zero, List.set_cons_succ, List.getElem?_toArray, List.getElem?_cons_zero, List.getElem?_cons_succ] at e0 e1; have HE0 := Hid.mk' e0; have HE1 := Hid.mk' e1; clear RS e0 e1; go_wp2; have e0 := HE0.out; have e1 := HE1.out; have hbx := HB.out; exact bodyPost_ret (v := .tuple #[.agg #[.int .i64 0, .slice Option.none 0 0], .bool false]) (by simp [results, Try.results37, go_sem, e0, e1]) rfl (gives_no (by (repeat' (first | (with_reducible exact Below.refl _ _) | (with_reducible assumption) | (with_reducible refine Below.alloc ?_ ?_ _) | (with_reducible refine Below.drew ?_) | (with_reducible refine Below.setCell ?_ ?_ _) | (with_reducible refine Below.trans ?_ (Below.mono (by assumption) ?_)) | (with_reducible exact Nat.le_refl _) | omega | (simp only [World.size_alloc, World.size_setCell, World.size_drew]; omega) | (simp; omega) | (simp; done))))))⟩
set_option maxHeartbeats 4000000 in
theorem sprZ_kind {kind n : Int} {a : Option Addr} {cap : Nat} {l : List Lit} (hk : kindB kind = false) : SprZ kind n a cap l 0 [] false := ⟨fun w _ => by
  have L : LieM kind 0 3 false := lieM_no (by unfold kindB at hk; simpa using hk)
  go_enter Try.func64, Try.ntmps64
  go_wp2_with fail
  refine (L.call _).mono ?_
  rintro e w2 ⟨rfl, hb⟩
  have HB : Hid (Below w.heap.size w w2) := by
    show Below w.heap.size w w2
    exact Below.trans (by (repeat' (first | (with_reducible exact Below.refl _ _) | (with_reducible assumption) | (with_reducible refine Below.alloc ?_ ?_ _) | (with_reducible refine Below.drew ?_) | (with_reducible refine Below.setCell ?_ ?_ _) | (with_reducible refine Below.trans ?_ (Below.mono (by assumption) ?_)) | (with_reducible exact Nat.le_refl _) | omega | (simp only [World.size_alloc, World.size_setCell, World.size_drew]; omega) | (simp; omega) | (simp; done)))) (hb.mono (by simp; omega))
  have hR : Blk w2 (w.heap.size + 1) #[.int .i64 0, .slice Option.none 0 0] 37 := Blk.belowAt hb (Blk.newAt (by simp))
  (have r0 := Blk.cellAt (i := 0) hR rfl; have r1 := Blk.cellAt (i := 1) hR rfl; simp only [List.getElem_toArray, List.getElem_cons_zero, List.getElem_cons_succ] at r0 r1)
  have f0 := hR.free 0
  have f1 := hR.free 1
  clear hb
  (have RS := (hR.set (i := 0) (v := .int .i64 0)).set (i := 1) (v := .slice Option.none 0 0); have e0 := RS.cell 0; have e1 := RS.cell 1; simp only [List.setIfInBounds_toArray, List.set_cons_zero, List.set_cons_succ, List.getElem?_toArray, List.getElem?_cons_zero, List.getElem?_cons_succ] at e0 e1; have HE0 := Hid.mk' e0; have HE1 := Hid.mk' e1; clear RS e0 e1; go_wp2; have e0 := HE0.out; have e1 := HE1.out; have hbx := HB.out; exact bodyPost_ret (v := .tuple #[.agg #[.int .i64 0, .slice Option.none 0 0], .bool false]) (by simp [results, Try.results64, go_sem, e0, e1]) rfl (gives_no (by (repeat' (first | (with_reducible exact Below.refl _ _) | (with_reducible assumption) | (with_reducible refine Below.alloc ?_ ?_ _) | (with_reducible refine Below.drew ?_) | (with_reducible refine Below.setCell ?_ ?_ _) | (with_reducible refine Below.trans ?_ (Below.mono (by assumption) ?_)) | (with_reducible exact Nat.le_refl _) | omega | (simp only [World.size_alloc, World.size_setCell, World.size_drew]; omega) | (simp; omega) | (simp; done))))))⟩
set_option maxHeartbeats 4000000 in
theorem sprZ_pic {kind n : Int} {a : Option Addr} {cap : Nat} {l : List Lit} (hk : kindB kind = true) (hw : ∀ c ∈ l, c.W) (hp : picB n l = false) : SprZ kind n a cap l 0 [] false := ⟨fun w hrow => by
  have L : LieM kind 0 3 true := lieM_yes (by unfold kindB at hk; simp at hk; omega) (by unfold kindB at hk; simp at hk; omega)
  have IP := picS n a cap hw
  rw [hp] at IP
  have HR : Hid (LitsAt w a l) := hrow
  clear hrow hw
  go_enter Try.func64, Try.ntmps64
  go_wp2_with fail
  refine (L.call _).mono ?_
  rintro e w1 ⟨rfl, hb⟩
  have HB1 : Hid (Below w.heap.size w w1) := by
    show Below w.heap.size w w1
    exact Below.trans (by (repeat' (first | (with_reducible exact Below.refl _ _) | (with_reducible assumption) | (with_reducible refine Below.alloc ?_ ?_ _) | (with_reducible refine Below.drew ?_) | (with_reducible refine Below.setCell ?_ ?_ _) | (with_reducible refine Below.trans ?_ (Below.mono (by assumption) ?_)) | (with_reducible exact Nat.le_refl _) | omega | (simp only [World.size_alloc, World.size_setCell, World.size_drew]; omega) | (simp; omega) | (simp; done)))) (hb.mono (by simp; omega))
  have HP1 : Hid (Blk w1 w.heap.size #[.int .i64 n, .slice a l.length cap] 37) := Blk.belowAt hb ((Blk.newAt (by simp)).alloc)
  have HR1 : Hid (Blk w1 (w.heap.size + 1) #[.int .i64 0, .slice Option.none 0 0] 37) := Blk.belowAt hb (Blk.newAt (by simp))
  clear hb
  (have p0 := Blk.cellAt (i := 0) HP1.out rfl; have p1 := Blk.cellAt (i := 1) HP1.out rfl; simp only [List.getElem_toArray, List.getElem_cons_zero, List.getElem_cons_succ] at p0 p1)
  have l1 := HP1.out.lt
  go_wp2_with fail
  refine (IP.call _ (LitsAt.below HR.out HB1.out)).mono ?_
  rintro e w2 ⟨rfl, hb⟩
  have HB : Hid (Below w.heap.size w w2) := HB1.out.trans (hb.mono (by omega))
  have hR := Blk.belowAt hb HR1.out
  (have r0 := Blk.cellAt (i := 0) hR rfl; have r1 := Blk.cellAt (i := 1) hR rfl; simp only [List.getElem_toArray, List.getElem_cons_zero, List.getElem_cons_succ] at r0 r1)
  have f0 := hR.free 0
  have f1 := hR.free 1
  clear hb p0 p1
  (have RS := (hR.set (i := 0) (v := .int .i64 0)).set (i := 1) (v := .slice Option.none 0 0); have e0 := RS.cell 0; have e1 := RS.cell 1; simp only [List.setIfInBounds_toArray, List.set_cons_zero, List.set_cons_succ, List.getElem?_toArray, List.getElem?_cons_zero, List.getElem?_cons_succ] at e0 e1; have HE0 := Hid.mk' e0; have HE1 := Hid.mk' e1; clear RS e0 e1; go_wp2; have e0 := HE0.out; have e1 := HE1.out; have hbx := HB.out; exact bodyPost_ret (v := .tuple #[.agg #[.int .i64 0, .slice Option.none 0 0], .bool false]) (by simp [results, Try.results64, go_sem, e0, e1]) rfl (gives_no (by (repeat' (first | (with_reducible exact Below.refl _ _) | (with_reducible assumption) | (with_reducible refine Below.alloc ?_ ?_ _) | (with_reducible refine Below.drew ?_) | (with_reducible refine Below.setCell ?_ ?_ _) | (with_reducible refine Below.trans ?_ (Below.mono (by assumption) ?_)) | (with_reducible exact Nat.le_refl _) | omega | (simp only [World.size_alloc, World.size_setCell, World.size_drew]; omega) | (simp; omega) | (simp; done))))))⟩

/-- What SpreadPicture gives, of both. -/
theorem spr_both (kind n : Int) {l : List Lit} (hw : ∀ c ∈ l, c.W) : ∃ m k ok, (∀ a cap, SprI kind n a cap l m k ok) ∧ (∀ a cap, SprZ kind n a cap l m k ok) ∧ k.length ≤ 64 ∧ ∀ c ∈ k, c.W := by
  by_cases hk : kindB kind = true
  · by_cases hp : picB n l = true
    · obtain ⟨u, rfl, h1, h8, hl, _⟩ := pic_cases hp
      refine ⟨_, _, _, fun a cap => sprI_yes hk hp, fun a cap => sprZ_yes hk hp hw, ?_, ?_⟩
      · unfold spreadCols
        rw [colsTo_len]
        exact Nat.le_trans (Nat.mul_le_mul h8 h8) (by omega)
      · intro c hc
        unfold spreadCols colsTo at hc
        obtain ⟨k, hk', rfl⟩ := List.mem_map.1 hc
        have hk' := List.mem_range.1 hk'
        have hlt : leastN kind u k < l.length := by rw [hl]; exact Nat.lt_of_le_of_lt (leastL_le _ _ _) hk'
        exact hw _ (by simp [List.getD, hlt])
    · have hp' : picB n l = false := by simpa using hp
      exact ⟨_, _, _, fun a cap => sprI_pic hk hp', fun a cap => sprZ_pic hk hw hp', by simp, by simp⟩
  · have hk' : kindB kind = false := by simpa using hk
    exact ⟨_, _, _, fun a cap => sprI_kind hk', fun a cap => sprZ_kind hk', by simp, by simp⟩
end Go.Proofs.Ytlnikapkheldeaa
