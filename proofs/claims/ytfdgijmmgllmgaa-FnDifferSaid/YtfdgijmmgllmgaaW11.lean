/-
  Texts Mf Ceq Hj Hk Cconv Cs Ct Cmix CeFar Ccp Cfar, joined.
-/
import Derived.Test.YtfdgijmmgllmgaaW10
import Derived.Test.YtfdgijmmgllmgaaW05
import Derived.Test.YtfdgijmmgllmgaaW07
import Derived.Deep.QuietTactic
import Derived.BigQuiet
import Derived.Test.YtfdgijmmgllmgaaW08
import Derived.Deep.RegionHeld3
import Derived.Deep.AppendLies
import Derived.StillTailTactics
import Derived.Test.YtfdgijmmgllmgaaW01
namespace Go.Proofs.Ytfdgijmmgllmgaa
open Go.ChangeShapes Go.WideShapes Go.ChangeAt Go.RowKit Go.Joins
set_option linter.unusedSimpArgs false
set_option linter.unusedVariables false
set_option maxRecDepth 100000
attribute [local go_sem] store_f
open Ieee
structure PictureDrawn (w : World) (e : Ending) (w' : World) (n : Nat) (l : List Lit) (g cap : Nat) : Prop where
  ret : e = .returned (.agg #[.int .i64 n, .slice (some ⟨g, 0, Option.none⟩) l.length cap])
  row : LitRow w' g 0 l
  lt : g < w'.heap.size
  ge : 1 ≤ n
  le : n ≤ 5
  len : l.length = n * n
  ok : Oks l
  below : Below w.heap.size w w'
  room : l.length ≤ cap
set_option maxHeartbeats 4000000 in
theorem drawPicture_s (a : Option Addr) (len cap : Nat) (bs : List Int) (w : World) (hrow : ByteRow w w.heap.size a len bs) (hlen : len ≤ 4096) :
    Calls Try.prog 7 #[.slice a len cap] w fun e w' => ∃ n l g cp, PictureDrawn w e w' n l g cp := by
  have HR : Hid (ByteRow w w.heap.size a len bs) := hrow
  clear hrow
  go_enter Try.func7, Try.ntmps7
  go_wp2_with fail
  generalize hV : w.alloc (.cells #[.int .i64 0, .slice Option.none 0 0] 26) = V
  have RV : Hid (Blk V w.heap.size #[.int .i64 0, .slice Option.none 0 0] 26) := by rw [← hV]; exact Blk.new _ _ _
  have hB : Below w.heap.size w V := by rw [← hV]; (repeat' (first | (with_reducible exact Below.refl _ _) | (with_reducible assumption) | (with_reducible refine Below.alloc ?_ ?_ _) | (with_reducible refine Below.drew ?_) | (with_reducible refine Below.setCell ?_ ?_ _) | (with_reducible refine Below.trans ?_ (Below.mono (by assumption) ?_)) | (with_reducible exact Nat.le_refl _) | omega | (simp only [World.size_alloc, World.size_setCell, World.size_drew]; omega) | (simp; omega) | (simp; done)))
  have sV : V.heap.size = w.heap.size + 1 := by rw [← hV]; simp
  clear hV
  refine (l1New_s a len cap bs _ ((HR.out.of hB).mono hB.size) hlen).mono ?_
  rintro e w1 ⟨q, rfl, hql, hcur, hb1⟩
  have hqB := hcur.ge
  have C1 : Hid (Cur V.heap.size w1 q) := hcur
  have R1 : Hid (Blk w1 w.heap.size #[.int .i64 0, .slice Option.none 0 0] 26) := RV.out.below hb1
  have B1 : Hid (Below w.heap.size w w1) := hB.trans (hb1.mono (by omega))
  have s1 := hb1.size
  clear hcur hb1 hB RV HR
  go_wp2_with fail
  refine (l4Draw_s V.heap.size q _ C1.out).mono ?_
  rintro e w2 ⟨n, l, ⟨⟨g, cp, rfl, hg0, hg1, hrow, hroom⟩, h1, h5, hlen', hok, hc2, hg2⟩⟩
  have R2 : Hid (Blk w2 w.heap.size #[.int .i64 0, .slice Option.none 0 0] 26) := R1.out.grown hg2 (by omega)
  have B2 : Hid (Below w.heap.size w w2) := B1.out.trans (below_of_grown hg2 (by omega) (by omega))
  have HL : Hid (LitRow w2 g 0 l) := hrow
  have HN : Hid (l.length = n * n) := hlen'
  have HRM : Hid (l.length ≤ cp) := hroom
  have HO : Hid (Oks l) := hok
  have lr := R2.out.lt
  have r0 := Blk.cellAt (i := 0) R2.out rfl
  have r1 := Blk.cellAt (i := 1) R2.out rfl
  have f0 := R2.out.free 0
  have f1 := R2.out.free 1
  simp only [List.getElem_toArray, List.getElem_cons_zero, List.getElem_cons_succ] at r0 r1
  have RS := (R2.out.set (i := 0) (v := .int .i64 n)).set (i := 1) (v := .slice (some ⟨g, 0, Option.none⟩) l.length cp)
  have e0 := RS.cell 0
  have e1 := RS.cell 1
  simp only [List.setIfInBounds_toArray, List.set_cons_zero, List.set_cons_succ, List.getElem?_toArray, List.getElem?_cons_zero, List.getElem?_cons_succ] at e0 e1
  have HE0 : Hid (((w2.setCell ⟨w.heap.size, 0, Option.none⟩ (.int .i64 n)).setCell ⟨w.heap.size, 1, Option.none⟩ (.slice (some ⟨g, 0, Option.none⟩) l.length cp)).cell? ⟨w.heap.size, 0, Option.none⟩ = some (.int .i64 n)) := e0
  have HE1 : Hid (((w2.setCell ⟨w.heap.size, 0, Option.none⟩ (.int .i64 n)).setCell ⟨w.heap.size, 1, Option.none⟩ (.slice (some ⟨g, 0, Option.none⟩) l.length cp)).cell? ⟨w.heap.size, 1, Option.none⟩ = some (.slice (some ⟨g, 0, Option.none⟩) l.length cp)) := e1
  have HLE : Hid (LitRow ((w2.setCell ⟨w.heap.size, 0, Option.none⟩ (.int .i64 n)).setCell ⟨w.heap.size, 1, Option.none⟩ (.slice (some ⟨g, 0, Option.none⟩) l.length cp)) g 0 l) := LitRow.set (LitRow.set HL.out (by dsimp only; omega)) (by dsimp only; omega)
  have HBE : Hid (Below w.heap.size w ((w2.setCell ⟨w.heap.size, 0, Option.none⟩ (.int .i64 n)).setCell ⟨w.heap.size, 1, Option.none⟩ (.slice (some ⟨g, 0, Option.none⟩) l.length cp))) := (B2.out.setCell (Nat.le_refl _) _).setCell (Nat.le_refl _) _
  have HG : Hid (g < ((w2.setCell ⟨w.heap.size, 0, Option.none⟩ (.int .i64 n)).setCell ⟨w.heap.size, 1, Option.none⟩ (.slice (some ⟨g, 0, Option.none⟩) l.length cp)).heap.size) := by show g < _; simp; omega
  clear hrow hroom hlen' hok hc2 hg2 RS e0 e1 C1
  go_wp2
  have e0 := HE0.out
  have e1 := HE1.out
  exact bodyPost_ret (v := .agg #[.int .i64 n, .slice (some ⟨g, 0, Option.none⟩) l.length cp]) (by simp [results, Try.results7, go_sem, e0, e1]) rfl ⟨n, l, g, cp, rfl, HLE.out, HG.out, h1, h5, HN.out, HO.out, HBE.out, HRM.out⟩
end Go.Proofs.Ytfdgijmmgllmgaa
namespace Go.Proofs.Ytfdgijmmgllmgaa
open Go.ChangeShapes Go.WideShapes Go.ChangeAt Go.RowKit Go.Joins
set_option linter.unusedSimpArgs false
set_option linter.unusedVariables false
set_option maxRecDepth 100000
attribute [local go_sem] store_f
open Ieee
theorem run_equalIn_g (P : Program) (w : World) (d : Nat) (t : TypeId) (a b : Nat) (h : P.underlying t = some (.float .f32)) : (Op.equalIn (d + 1) t (.float .f32 a) (.float .f32 b)).run P w = .ok (FloatKind.f32.format.order a b == some .eq) w := by
  simp [Op.equalIn, run_underlying h, Op.floatEq]
attribute [local go_sem] run_equalIn_g
theorem run_eq_colg (r g b x y z : Nat) (w : World) :
    (Op.equalIn 10000 47 (.agg #[.float .f32 r, .float .f32 g, .float .f32 b]) (.agg #[.float .f32 x, .float .f32 y, .float .f32 z])).run Try.prog w =
      .ok ((FloatKind.f32.format.order r x == some .eq) && ((FloatKind.f32.format.order g y == some .eq) && (FloatKind.f32.format.order b z == some .eq))) w := by
  have u := Try.underlying30
  have a24 := Try.isAgg30
  have z24 := Try.sizeOf30
  have hS : Try.prog.underlying 47 = some (.struct (Try.prog.fieldsOf 47)) := by kernel_rfl
  have hp : Try.prog.stoodInHeld 47 = false := by kernel_rfl
  rw [show (10000 : Nat) = 9999 + 1 from rfl, run_equalIn_agg w 9999 47 _ _ hS hp]
  simp only [Program.fieldsOf, Try.underlying47]
  generalize h1 : (FloatKind.f32.format.order r x == some .eq) = o1
  generalize h2 : (FloatKind.f32.format.order g y == some .eq) = o2
  generalize h3 : (FloatKind.f32.format.order b z == some .eq) = o3
  go_simp
  cases o1 <;> cases o2 <;> cases o3 <;> rfl
end Go.Proofs.Ytfdgijmmgllmgaa
namespace Go.Proofs.Ytfdgijmmgllmgaa
open Go.ChangeShapes Go.WideShapes Go.ChangeAt Go.RowKit Go.Joins
set_option linter.unusedSimpArgs false
set_option linter.unusedVariables false
set_option maxRecDepth 100000
attribute [local go_sem] store_f
open Ieee
def colEq (c d : Lit) : Bool := (FloatKind.f32.format.order c.r d.r == some .eq) && ((FloatKind.f32.format.order c.g d.g == some .eq) && (FloatKind.f32.format.order c.b d.b == some .eq))
def colsEq (l k : List Lit) : Bool := decide (l.length = k.length) && (List.range l.length).all fun i => colEq (l.getD i default) (k.getD i default)
theorem colsEq_len {l k : List Lit} (h : l.length ≠ k.length) : colsEq l k = false := by simp [colsEq, h]
theorem colsEq_iff {l k : List Lit} (h : l.length = k.length) : colsEq l k = true ↔ ∀ i, i < l.length → colEq (l.getD i default) (k.getD i default) = true := by
  unfold colsEq
  rw [h]
  simp [List.all_eq_true]
theorem run_eq_lit (c d : Lit) (w : World) : (Op.equalIn 10000 47 (.agg #[.float .f32 c.r, .float .f32 c.g, .float .f32 c.b]) (.agg #[.float .f32 d.r, .float .f32 d.g, .float .f32 d.b])).run Try.prog w = .ok (colEq c d) w := run_eq_colg c.r c.g c.b d.r d.g d.b w
structure EqCols (a : Option Addr) (ca : Nat) (l : List Lit) (b : Option Addr) (cb : Nat) (k : List Lit) (p : Bool) : Prop where
  call : ∀ w : World, LitsAt w a l → LitsAt w b k → Calls Try.prog 34 #[.slice a l.length ca, .slice b k.length cb] w fun e w' => e = .returned (.bool p) ∧ Below w.heap.size w w'
set_option maxHeartbeats 4000000 in
theorem eqCols_len {a : Option Addr} {ca : Nat} {l : List Lit} {b : Option Addr} {cb : Nat} {k : List Lit} (h : l.length ≠ k.length) : EqCols a ca l b cb k false := ⟨fun w _ _ => by
  have h1 : ((l.length : Int) == (k.length : Int)) = false := by simp; omega
  have h2 : decide (l.length = k.length) = false := by simp [h]
  go_enter Try.func34, Try.ntmps34
  go_wp2
  go_ret
  exact ⟨rfl, by (repeat' (first | (with_reducible exact Below.refl _ _) | (with_reducible assumption) | (with_reducible refine Below.alloc ?_ ?_ _) | (with_reducible refine Below.drew ?_) | (with_reducible refine Below.setCell ?_ ?_ _) | (with_reducible refine Below.trans ?_ (Below.mono (by assumption) ?_)) | (with_reducible exact Nat.le_refl _) | omega | (simp only [World.size_alloc, World.size_setCell, World.size_drew]; omega) | (simp; omega) | (simp; done)))⟩⟩
set_option maxHeartbeats 8000000 in
theorem eqCols_all {a : Option Addr} {ca : Nat} {l : List Lit} {b : Option Addr} {cb : Nat} {k : List Lit} (h : l.length = k.length) (hb : l.length ≤ 1000000000) : EqCols a ca l b cb k (colsEq l k) := ⟨fun w hr1 hr2 => by
  have R1 : Hid (LitsAt w a l) := hr1
  have R2 : Hid (LitsAt w b k) := hr2
  obtain ⟨N, hN⟩ : ∃ N : Nat, N = l.length := ⟨_, rfl⟩
  have HN1 : Hid (N = l.length) := hN
  have HN2 : Hid (N = k.length) := hN.trans h
  have HI : Hid (colsEq l k = true ↔ ∀ i, i < N → colEq (l.getD i default) (k.getD i default) = true) := by rw [hN]; exact colsEq_iff h
  have hNb : N ≤ 1000000000 := by omega
  rw [← hN, ← HN2.out]
  clear hr1 hr2 h hb hN
  generalize colsEq l k = p at HI ⊢
  go_enter Try.func34, Try.ntmps34
  go_wp2
  go_loopw [13] (fun i wr => ∃ j : Nat, j ≤ N ∧ i = .int .i64 j ∧ (∀ i, i < j → colEq (l.getD i default) (k.getD i default) = true) ∧ Below w.heap.size w wr) (fun i _ => N - (intOf i).toNat)
  case atStart => exact ⟨0, by omega, rfl, fun i hi => absurd hi (by omega), Below.refl _ _⟩
  case round =>
    obtain ⟨j, hj, rfl, hall, hbel⟩ := hrel
    have HB : Hid (Below w.heap.size w wr) := hbel
    have HL : Hid (∀ i, i < j → colEq (l.getD i default) (k.getD i default) = true) := hall
    have hbs := hbel.size
    clear hall
    by_cases hlt : j < N
    · rcases R1.out with hnil | ⟨b1, o1, rfl, hR1⟩
      · exfalso
        have := HN1.out
        rw [hnil] at this
        simp at this
        omega
      rcases R2.out with hnil | ⟨b2, o2, rfl, hR2⟩
      · exfalso
        have := HN2.out
        rw [hnil] at this
        simp at this
        omega
      obtain ⟨d0, d1, d2⟩ := (LitRow.below hR1 hbel) j (by have := HN1.out; omega)
      obtain ⟨e0, e1, e2⟩ := (LitRow.below hR2 hbel) j (by have := HN2.out; omega)
      have HS : Hid (colEq (l.getD j default) (k.getD j default) = true → ∀ i, i < j + 1 → colEq (l.getD i default) (k.getD i default) = true) := fun h i hi => by
        rcases (by omega : i < j ∨ i = j) with h1 | rfl
        · exact HL.out i h1
        · exact h
      have HX : Hid (colEq (l.getD j default) (k.getD j default) = false → p = false) := fun h => by
        cases hp : p
        · rfl
        · have := (HI.out.1 hp) j hlt
          rw [h] at this
          exact absurd this (by decide)
      have op := fun w => run_eq_lit (l.getD j default) (k.getD j default) w
      generalize colEq (l.getD j default) (k.getD j default) = q at op HS HX
      generalize l.getD j default = c at *
      generalize k.getD j default = d at *
      have hj0 : (0 : Int) ≤ (j : Int) := by omega
      have hj1 : (j : Int) < (N : Int) := by omega
      clear hR1 hR2
      cases q
      · have hp : p = false := HX.out rfl
        subst hp
        clear HX HS HI
        go_wp2_with fail
        go_quiet (fail)
        go_wp2
        go_ret
        exact ⟨rfl, hbel.trans (below_draws _ _ _)⟩
      · clear HX
        go_wp2_with fail
        go_quiet (fail)
        go_wp2
        have hds := hbel.size
        go_roundw
        case rel => exact ⟨j + 1, by omega, by go_num, HS.out (by simp), hbel.trans (below_draws _ _ _)⟩
        case measure => simp [intOf]; omega
    · have hjm : j = N := by omega
      subst hjm
      have hp : p = true := HI.out.2 HL.out
      subst hp
      go_wp2
      go_ret
      exact ⟨rfl, hbel⟩⟩
theorem eqCols {a : Option Addr} {ca : Nat} {l : List Lit} {b : Option Addr} {cb : Nat} {k : List Lit} (hb : l.length ≤ 1000000000) : EqCols a ca l b cb k (colsEq l k) := by
  by_cases h : l.length = k.length
  · exact eqCols_all h hb
  · rw [colsEq_len h]
    exact eqCols_len h
structure SameM (n : Int) (a : Option Addr) (ca : Nat) (l : List Lit) (m : Int) (b : Option Addr) (cb : Nat) (k : List Lit) (p : Bool) : Prop where
  call : ∀ w : World, LitsAt w a l → LitsAt w b k → Calls Try.prog 10 #[.agg #[.int .i64 n, .slice a l.length ca], .agg #[.int .i64 m, .slice b k.length cb]] w fun e w' => e = .returned (.bool p) ∧ Below w.heap.size w w'
set_option maxHeartbeats 4000000 in
theorem sameM {n : Int} {a : Option Addr} {ca : Nat} {l : List Lit} {m : Int} {b : Option Addr} {cb : Nat} {k : List Lit} (hb : l.length ≤ 1000000000) : SameM n a ca l m b cb k (n == m && colsEq l k) := ⟨fun w hr1 hr2 => by
  have E := eqCols (a := a) (ca := ca) (l := l) (b := b) (cb := cb) (k := k) hb
  generalize colsEq l k = p at E ⊢
  have R1 : Hid (LitsAt w a l) := hr1
  have R2 : Hid (LitsAt w b k) := hr2
  clear hr1 hr2 hb
  by_cases h : n = m
  · subst h
    have e : (n == n && p) = p := by simp
    rw [e]
    go_enter Try.func10, Try.ntmps10
    go_wp2_with fail
    refine (E.call _ ((R1.out.alloc).alloc) ((R2.out.alloc).alloc)).mono ?_
    rintro e w2 ⟨rfl, hb⟩
    go_wp2
    go_ret
    exact ⟨rfl, by (repeat' (first | (with_reducible exact Below.refl _ _) | (with_reducible assumption) | (with_reducible refine Below.alloc ?_ ?_ _) | (with_reducible refine Below.drew ?_) | (with_reducible refine Below.setCell ?_ ?_ _) | (with_reducible refine Below.trans ?_ (Below.mono (by assumption) ?_)) | (with_reducible exact Nat.le_refl _) | omega | (simp only [World.size_alloc, World.size_setCell, World.size_drew]; omega) | (simp; omega) | (simp; done)))⟩
  · have hne : (n == m) = false := by simpa using h
    have e : (n == m && p) = false := by simp [h]
    rw [e]
    go_enter Try.func10, Try.ntmps10
    go_wp2
    go_ret
    exact ⟨rfl, by (repeat' (first | (with_reducible exact Below.refl _ _) | (with_reducible assumption) | (with_reducible refine Below.alloc ?_ ?_ _) | (with_reducible refine Below.drew ?_) | (with_reducible refine Below.setCell ?_ ?_ _) | (with_reducible refine Below.trans ?_ (Below.mono (by assumption) ?_)) | (with_reducible exact Nat.le_refl _) | omega | (simp only [World.size_alloc, World.size_setCell, World.size_drew]; omega) | (simp; omega) | (simp; done)))⟩⟩
end Go.Proofs.Ytfdgijmmgllmgaa
namespace Go.Proofs.Ytfdgijmmgllmgaa
open Go.ChangeShapes Go.WideShapes Go.ChangeAt Go.RowKit Go.Joins
set_option linter.unusedSimpArgs false
set_option linter.unusedVariables false
set_option maxRecDepth 100000
attribute [local go_sem] store_f
open Ieee
theorem SymRow.grownBy {W w1 : World} {g : Nat} {r : Option Nat} {l : List (Int × Bool)} (h : SymRow W g l) (hg : W.grownBy w1 r) (hne : r ≠ some g) : SymRow w1 g l := fun k hk => by
  obtain ⟨h0, h1⟩ := h k hk
  have hl := cell_lt h0
  have e : ∀ i, w1.cell? ⟨g, i, Option.none⟩ = W.cell? ⟨g, i, Option.none⟩ := fun i => World.cell?_of_block (hg.block g hl (fun e => hne e.symm))
  rw [e, e]
  exact ⟨h0, h1⟩
end Go.Proofs.Ytfdgijmmgllmgaa
namespace Go.Proofs.Ytfdgijmmgllmgaa
open Ieee
abbrev F64 : Format := FloatKind.f64.format
def wrung (x : Nat) : Nat := rn F64 (magOf F32 (rungOf F32 x) * 2 ^ 925) 0
def wide (x : Nat) : Nat := F64.word (negOf F32 x) (wrung x)
end Go.Proofs.Ytfdgijmmgllmgaa
namespace Go.Proofs.Ytfdgijmmgllmgaa
open Go.ChangeShapes Go.WideShapes Go.ChangeAt Go.RowKit Go.Joins
set_option linter.unusedSimpArgs false
set_option linter.unusedVariables false
set_option maxRecDepth 100000
attribute [local go_sem] store_f
theorem differenceOf_p {a b : Nat} (ha : Part a) (hb : Part b) (w : World) :
    Calls Try.prog 107 #[.float .f32 a, .float .f32 b] w fun e w' => e = .returned (.float .f32 (subB a b)) ∧ w' = w := by
  obtain ⟨r, e, hf, _⟩ := sub_part ha hb
  have h := differenceOf_i a b r w e
  rw [set_clean hf] at h
  have e2 : subB a b = cleanB r := by unfold subB; rw [e]; rfl
  rw [e2]; exact h
theorem pairsOf_i (a b c x y z : Nat) (w : World) :
    Calls Try.prog 69 #[colV a b c, colV x y z] w fun e w' => e = .returned (.agg #[.float .f32 a, .float .f32 x, .float .f32 b, .float .f32 y, .float .f32 c, .float .f32 z]) ∧ Below w.heap.size w w' := by
  unfold colV
  go_enter Try.func69, Try.ntmps69
  go_wp2
  go_returns; exact ⟨rfl, by (repeat' (first | (with_reducible exact Below.refl _ _) | (with_reducible assumption) | (with_reducible refine Below.alloc ?_ ?_ _) | (with_reducible refine Below.drew ?_) | (with_reducible refine Below.setCell ?_ ?_ _) | (with_reducible refine Below.trans ?_ (Below.mono (by assumption) ?_)) | (with_reducible exact Nat.le_refl _) | omega | (simp only [World.size_alloc, World.size_setCell, World.size_drew]; omega) | (simp; omega) | (simp; done)))⟩
end Go.Proofs.Ytfdgijmmgllmgaa
namespace Go.Proofs.Ytfdgijmmgllmgaa
open Go.ChangeShapes Go.WideShapes Go.ChangeAt Go.RowKit Go.Joins
set_option linter.unusedSimpArgs false
set_option linter.unusedVariables false
set_option maxRecDepth 100000
attribute [local go_sem] store_f
theorem areColours_i (a b c x y z : Nat) (w : World) :
    Calls Try.prog 66 #[colV a b c, colV x y z] w fun e w' => e = .returned (.bool (colB a b c && colB x y z)) ∧ Below w.heap.size w w' := by
  have K1 : Hid (∀ w : World, Calls Try.prog 63 #[colV a b c] w fun e w' => e = .returned (.bool (colB a b c)) ∧ Below w.heap.size w w') := fun w => isColour_i a b c w
  have K2 : Hid (∀ w : World, Calls Try.prog 63 #[colV x y z] w fun e w' => e = .returned (.bool (colB x y z)) ∧ Below w.heap.size w w') := fun w => isColour_i x y z w
  generalize colB a b c = p at K1 ⊢
  generalize colB x y z = q at K2 ⊢
  unfold colV at K1 K2 ⊢
  cases p
  all_goals
    go_enter Try.func66, Try.ntmps66
    go_wp2_with (go_at_call 63; (first | refine (K1.out _).mono ?_ | refine (K2.out _).mono ?_); rintro e w1 ⟨rfl, hb⟩; obtain ⟨hc, hf⟩ := bcell hb; have HL := keepL (by (repeat (first | (with_reducible assumption) | (with_reducible apply AllLt.alloc) | (with_reducible apply AllLt.setCell) | (with_reducible apply AllLt.drew) | (with_reducible exact AllLt.nil _)))) hb; have hq := HL; simp only [AllLt, and_true, World.size_alloc, World.size_setCell, World.size_drew] at hq; have hbs := hb.size; try simp only [World.size_alloc, World.size_setCell, World.size_drew] at hbs)
    all_goals (go_returns; exact ⟨by simp, by (repeat' (first | (with_reducible exact Below.refl _ _) | (with_reducible assumption) | (with_reducible refine Below.alloc ?_ ?_ _) | (with_reducible refine Below.drew ?_) | (with_reducible refine Below.setCell ?_ ?_ _) | (with_reducible refine Below.trans ?_ (Below.mono (by assumption) ?_)) | (with_reducible exact Nat.le_refl _) | omega | (simp only [World.size_alloc, World.size_setCell, World.size_drew]; omega) | (simp; omega) | (simp; done)))⟩)
theorem colB_parts {a b c : Nat} (ha : a < 4294967296) (hb : b < 4294967296) (hc : c < 4294967296) (h : colB a b c = true) : Part a ∧ Part b ∧ Part c := by
  unfold colB at h
  simp only [Bool.and_eq_true] at h
  exact ⟨share_part ha h.1.1, share_part hb h.1.2, share_part hc h.2⟩
theorem parts_colB {a b c : Nat} (ha : Part a) (hb : Part b) (hc : Part c) : colB a b c = true := by
  unfold colB; rw [part_share ha, part_share hb, part_share hc]; rfl
end Go.Proofs.Ytfdgijmmgllmgaa
namespace Go.Proofs.Ytfdgijmmgllmgaa
open Go.ChangeShapes Go.WideShapes Go.ChangeAt Go.RowKit Go.Joins
set_option linter.unusedSimpArgs false
set_option linter.unusedVariables false
set_option maxRecDepth 100000
attribute [local go_sem] store_f
open Ieee
def minF (o : Ordering) (x y : Nat) : Nat := match o with | .lt => x | .gt => y | .eq => if (FloatKind.f32.decode x).neg then x else y
def maxF (o : Ordering) (x y : Nat) : Nat := match o with | .lt => y | .gt => x | .eq => if (FloatKind.f32.decode x).neg then y else x
theorem run_min_f (P : Program) (w : World) (ts : Array TypeId) (t : TypeId) (x y : Nat) (o : Ordering) (h : FloatKind.f32.format.order x y = some o) : (Builtin.min_ ts t #[.float .f32 x, .float .f32 y]).run P w = .ok (.float .f32 (minF o x y)) w := by
  cases o <;> simp [Builtin.min_, Builtin.min2, h, minF]
theorem run_max_f (P : Program) (w : World) (ts : Array TypeId) (t : TypeId) (x y : Nat) (o : Ordering) (h : FloatKind.f32.format.order x y = some o) : (Builtin.max_ ts t #[.float .f32 x, .float .f32 y]).run P w = .ok (.float .f32 (maxF o x y)) w := by
  cases o <;> simp [Builtin.max_, Builtin.max2, h, maxF]
end Go.Proofs.Ytfdgijmmgllmgaa
namespace Go.Proofs.Ytfdgijmmgllmgaa
open Go.ChangeShapes Go.WideShapes Go.ChangeAt Go.RowKit Go.Joins
set_option linter.unusedSimpArgs false
set_option linter.unusedVariables false
set_option maxRecDepth 100000
attribute [local go_sem] store_f
theorem eachFar_i (a0 b0 a1 b1 a2 b2 : Nat) (y0 y1 y2 : Nat) (w : World)
    (k0 : ∀ w1 : World, Below w.heap.size w w1 → Calls Try.prog 70 #[.agg #[.float .f32 a0, .float .f32 b0]] w1 fun e w' => e = .returned (.float .f32 y0) ∧ Below w1.heap.size w1 w')
    (k1 : ∀ w1 : World, Below w.heap.size w w1 → Calls Try.prog 70 #[.agg #[.float .f32 a1, .float .f32 b1]] w1 fun e w' => e = .returned (.float .f32 y1) ∧ Below w1.heap.size w1 w')
    (k2 : ∀ w1 : World, Below w.heap.size w w1 → Calls Try.prog 70 #[.agg #[.float .f32 a2, .float .f32 b2]] w1 fun e w' => e = .returned (.float .f32 y2) ∧ Below w1.heap.size w1 w')
    : Calls Try.prog 68 #[.agg #[.float .f32 a0, .float .f32 b0, .float .f32 a1, .float .f32 b1, .float .f32 a2, .float .f32 b2], .func (.func 70) #[] #[]] w fun e w' =>
      e = .returned (.agg #[.float .f32 y0, .float .f32 y1, .float .f32 y2]) ∧ Below w.heap.size w w' := by
  have K0 : Hid (∀ w1 : World, Below w.heap.size w w1 → Calls Try.prog 70 #[.agg #[.float .f32 a0, .float .f32 b0]] w1 fun e w' => e = .returned (.float .f32 y0) ∧ Below w1.heap.size w1 w') := k0
  have K1 : Hid (∀ w1 : World, Below w.heap.size w w1 → Calls Try.prog 70 #[.agg #[.float .f32 a1, .float .f32 b1]] w1 fun e w' => e = .returned (.float .f32 y1) ∧ Below w1.heap.size w1 w') := k1
  have K2 : Hid (∀ w1 : World, Below w.heap.size w w1 → Calls Try.prog 70 #[.agg #[.float .f32 a2, .float .f32 b2]] w1 fun e w' => e = .returned (.float .f32 y2) ∧ Below w1.heap.size w1 w') := k2
  clear k0 k1 k2
  have x0 : ∀ w : World, (Instr.index 108 (.agg #[.float .f32 a0, .float .f32 b0, .float .f32 a1, .float .f32 b1, .float .f32 a2, .float .f32 b2]) (.int .i64 0)).run Try.prog w = .ok (.agg #[.float .f32 a0, .float .f32 b0]) w := fun _ => by kernel_rfl
  have x1 : ∀ w : World, (Instr.index 108 (.agg #[.float .f32 a0, .float .f32 b0, .float .f32 a1, .float .f32 b1, .float .f32 a2, .float .f32 b2]) (.int .i64 1)).run Try.prog w = .ok (.agg #[.float .f32 a1, .float .f32 b1]) w := fun _ => by kernel_rfl
  have x2 : ∀ w : World, (Instr.index 108 (.agg #[.float .f32 a0, .float .f32 b0, .float .f32 a1, .float .f32 b1, .float .f32 a2, .float .f32 b2]) (.int .i64 2)).run Try.prog w = .ok (.agg #[.float .f32 a2, .float .f32 b2]) w := fun _ => by kernel_rfl
  go_enter Try.func68, Try.ntmps68
  go_wp2_with fail
  go_loopw [9] (fun i wr => ∃ k : Int, (k = 0 ∨ k = 1 ∨ k = 2 ∨ k = 3) ∧ i = .int .i64 k ∧ Blk wr (w.heap.size + 2) (row3 (.float .f32 y0) (.float .f32 y1) (.float .f32 y2) (.float .f32 0) k) 104 ∧ Blk wr (w.heap.size + 1) #[.float .f32 0, .float .f32 0, .float .f32 0] 104 ∧ Below w.heap.size w wr)
    (fun i _ => 3 - (intOf i).toNat)
  case atStart => exact ⟨0, Or.inl rfl, rfl, Blk.newAt (by simp), (Blk.newAt (by simp)).alloc, by (repeat' (first | (with_reducible exact Below.refl _ _) | (with_reducible assumption) | (with_reducible refine Below.alloc ?_ ?_ _) | (with_reducible refine Below.drew ?_) | (with_reducible refine Below.setCell ?_ ?_ _) | (with_reducible refine Below.trans ?_ (Below.mono (by assumption) ?_)) | (with_reducible exact Nat.le_refl _) | omega | (simp only [World.size_alloc, World.size_setCell, World.size_drew]; omega) | (simp; omega) | (simp; done)))⟩
  case round =>
    obtain ⟨k, hk, rfl, hB2, hB1, hbel⟩ := hrel
    have l2 := hB2.lt
    have l1 := hB1.lt
    have c20 := hB2.cell 0
    have c21 := hB2.cell 1
    have c22 := hB2.cell 2
    have f20 := hB2.free 0
    have f21 := hB2.free 1
    have f22 := hB2.free 2
    have c10 := hB1.cell 0
    have c11 := hB1.cell 1
    have c12 := hB1.cell 2
    have f10 := hB1.free 0
    have f11 := hB1.free 1
    have f12 := hB1.free 2
    have H2 : Hid (Blk wr (w.heap.size + 2) (row3 (.float .f32 y0) (.float .f32 y1) (.float .f32 y2) (.float .f32 0) k) 104) := hB2
    have H1 : Hid (Blk wr (w.heap.size + 1) #[.float .f32 0, .float .f32 0, .float .f32 0] 104) := hB1
    clear hB2 hB1
    rcases hk with rfl | rfl | rfl | rfl
    all_goals simp [row3] at c20 c21 c22 c10 c11 c12
    · go_wp2_with (first | simp only [x0] | (go_at_call 70; refine (K0.out _ (by (repeat' (first | (with_reducible exact Below.refl _ _) | (with_reducible assumption) | (with_reducible refine Below.alloc ?_ ?_ _) | (with_reducible refine Below.drew ?_) | (with_reducible refine Below.setCell ?_ ?_ _) | (with_reducible refine Below.trans ?_ (Below.mono (by assumption) ?_)) | (with_reducible exact Nat.le_refl _) | omega | (simp only [World.size_alloc, World.size_setCell, World.size_drew]; omega) | (simp; omega) | (simp; done))))).mono ?_; rintro e w1 ⟨rfl, hb⟩; obtain ⟨hc, hf⟩ := bcell hb; have HL := keepL (by (repeat (first | (with_reducible assumption) | (with_reducible apply AllLt.alloc) | (with_reducible apply AllLt.setCell) | (with_reducible apply AllLt.drew) | (with_reducible exact AllLt.nil _)))) hb; have hq := HL; simp only [AllLt, and_true, World.size_alloc, World.size_setCell, World.size_drew] at hq; have hbs := hb.size; try simp only [World.size_alloc, World.size_setCell, World.size_drew] at hbs))
      go_roundw
      case rel => exact ⟨1, by omega, rfl, Blk.setAt (cs := row3 (.float .f32 y0) (.float .f32 y1) (.float .f32 y2) (.float .f32 0) 0) (by omega) (by (repeat (first | (with_reducible exact H2.out) | (with_reducible refine Blk.below ?_ (by assumption)) | (with_reducible refine Blk.alloc ?_) | (with_reducible refine Blk.drew ?_) | (with_reducible refine Blk.other ?_ (by dsimp only; omega))))) rfl, by (repeat (first | (with_reducible exact H1.out) | (with_reducible refine Blk.below ?_ (by assumption)) | (with_reducible refine Blk.alloc ?_) | (with_reducible refine Blk.drew ?_) | (with_reducible refine Blk.other ?_ (by dsimp only; omega)))), by (repeat' (first | (with_reducible exact Below.refl _ _) | (with_reducible assumption) | (with_reducible refine Below.alloc ?_ ?_ _) | (with_reducible refine Below.drew ?_) | (with_reducible refine Below.setCell ?_ ?_ _) | (with_reducible refine Below.trans ?_ (Below.mono (by assumption) ?_)) | (with_reducible exact Nat.le_refl _) | omega | (simp only [World.size_alloc, World.size_setCell, World.size_drew]; omega) | (simp; omega) | (simp; done)))⟩
      case measure => simp [intOf]
    · go_wp2_with (first | simp only [x1] | (go_at_call 70; refine (K1.out _ (by (repeat' (first | (with_reducible exact Below.refl _ _) | (with_reducible assumption) | (with_reducible refine Below.alloc ?_ ?_ _) | (with_reducible refine Below.drew ?_) | (with_reducible refine Below.setCell ?_ ?_ _) | (with_reducible refine Below.trans ?_ (Below.mono (by assumption) ?_)) | (with_reducible exact Nat.le_refl _) | omega | (simp only [World.size_alloc, World.size_setCell, World.size_drew]; omega) | (simp; omega) | (simp; done))))).mono ?_; rintro e w1 ⟨rfl, hb⟩; obtain ⟨hc, hf⟩ := bcell hb; have HL := keepL (by (repeat (first | (with_reducible assumption) | (with_reducible apply AllLt.alloc) | (with_reducible apply AllLt.setCell) | (with_reducible apply AllLt.drew) | (with_reducible exact AllLt.nil _)))) hb; have hq := HL; simp only [AllLt, and_true, World.size_alloc, World.size_setCell, World.size_drew] at hq; have hbs := hb.size; try simp only [World.size_alloc, World.size_setCell, World.size_drew] at hbs))
      go_roundw
      case rel => exact ⟨2, by omega, rfl, Blk.setAt (cs := row3 (.float .f32 y0) (.float .f32 y1) (.float .f32 y2) (.float .f32 0) 1) (by omega) (by (repeat (first | (with_reducible exact H2.out) | (with_reducible refine Blk.below ?_ (by assumption)) | (with_reducible refine Blk.alloc ?_) | (with_reducible refine Blk.drew ?_) | (with_reducible refine Blk.other ?_ (by dsimp only; omega))))) rfl, by (repeat (first | (with_reducible exact H1.out) | (with_reducible refine Blk.below ?_ (by assumption)) | (with_reducible refine Blk.alloc ?_) | (with_reducible refine Blk.drew ?_) | (with_reducible refine Blk.other ?_ (by dsimp only; omega)))), by (repeat' (first | (with_reducible exact Below.refl _ _) | (with_reducible assumption) | (with_reducible refine Below.alloc ?_ ?_ _) | (with_reducible refine Below.drew ?_) | (with_reducible refine Below.setCell ?_ ?_ _) | (with_reducible refine Below.trans ?_ (Below.mono (by assumption) ?_)) | (with_reducible exact Nat.le_refl _) | omega | (simp only [World.size_alloc, World.size_setCell, World.size_drew]; omega) | (simp; omega) | (simp; done)))⟩
      case measure => simp [intOf]
    · go_wp2_with (first | simp only [x2] | (go_at_call 70; refine (K2.out _ (by (repeat' (first | (with_reducible exact Below.refl _ _) | (with_reducible assumption) | (with_reducible refine Below.alloc ?_ ?_ _) | (with_reducible refine Below.drew ?_) | (with_reducible refine Below.setCell ?_ ?_ _) | (with_reducible refine Below.trans ?_ (Below.mono (by assumption) ?_)) | (with_reducible exact Nat.le_refl _) | omega | (simp only [World.size_alloc, World.size_setCell, World.size_drew]; omega) | (simp; omega) | (simp; done))))).mono ?_; rintro e w1 ⟨rfl, hb⟩; obtain ⟨hc, hf⟩ := bcell hb; have HL := keepL (by (repeat (first | (with_reducible assumption) | (with_reducible apply AllLt.alloc) | (with_reducible apply AllLt.setCell) | (with_reducible apply AllLt.drew) | (with_reducible exact AllLt.nil _)))) hb; have hq := HL; simp only [AllLt, and_true, World.size_alloc, World.size_setCell, World.size_drew] at hq; have hbs := hb.size; try simp only [World.size_alloc, World.size_setCell, World.size_drew] at hbs))
      go_roundw
      case rel => exact ⟨3, by omega, rfl, Blk.setAt (cs := row3 (.float .f32 y0) (.float .f32 y1) (.float .f32 y2) (.float .f32 0) 2) (by omega) (by (repeat (first | (with_reducible exact H2.out) | (with_reducible refine Blk.below ?_ (by assumption)) | (with_reducible refine Blk.alloc ?_) | (with_reducible refine Blk.drew ?_) | (with_reducible refine Blk.other ?_ (by dsimp only; omega))))) rfl, by (repeat (first | (with_reducible exact H1.out) | (with_reducible refine Blk.below ?_ (by assumption)) | (with_reducible refine Blk.alloc ?_) | (with_reducible refine Blk.drew ?_) | (with_reducible refine Blk.other ?_ (by dsimp only; omega)))), by (repeat' (first | (with_reducible exact Below.refl _ _) | (with_reducible assumption) | (with_reducible refine Below.alloc ?_ ?_ _) | (with_reducible refine Below.drew ?_) | (with_reducible refine Below.setCell ?_ ?_ _) | (with_reducible refine Below.trans ?_ (Below.mono (by assumption) ?_)) | (with_reducible exact Nat.le_refl _) | omega | (simp only [World.size_alloc, World.size_setCell, World.size_drew]; omega) | (simp; omega) | (simp; done)))⟩
      case measure => simp [intOf]
    · have d0 := (H1.out.set (i := 0) (v := .float .f32 y0)).cell 0
      have d1 := ((H1.out.set (i := 0) (v := .float .f32 y0)).set (i := 1) (v := .float .f32 y1)).cell 1
      have d2 := (((H1.out.set (i := 0) (v := .float .f32 y0)).set (i := 1) (v := .float .f32 y1)).set (i := 2) (v := .float .f32 y2)).cell 2
      simp only [List.setIfInBounds_toArray, List.set_cons_zero, List.set_cons_succ, List.getElem?_toArray, List.getElem?_cons_zero, List.getElem?_cons_succ] at d0 d1 d2
      go_wp2
      exact bodyPost_ret (v := .agg #[.float .f32 y0, .float .f32 y1, .float .f32 y2]) (by simp [results, Try.results68, go_sem, d0, d1, d2]) rfl ⟨rfl, by (repeat' (first | (with_reducible exact Below.refl _ _) | (with_reducible assumption) | (with_reducible refine Below.alloc ?_ ?_ _) | (with_reducible refine Below.drew ?_) | (with_reducible refine Below.setCell ?_ ?_ _) | (with_reducible refine Below.trans ?_ (Below.mono (by assumption) ?_)) | (with_reducible exact Nat.le_refl _) | omega | (simp only [World.size_alloc, World.size_setCell, World.size_drew]; omega) | (simp; omega) | (simp; done)))⟩
end Go.Proofs.Ytfdgijmmgllmgaa
namespace Go.Proofs.Ytfdgijmmgllmgaa
open Go.ChangeShapes Go.WideShapes Go.ChangeAt Go.RowKit Go.Joins
set_option linter.unusedSimpArgs false
set_option linter.unusedVariables false
set_option maxRecDepth 100000
attribute [local go_sem] store_f
open Ieee
theorem isNaN_no {x : Nat} (h : FloatKind.f32.format.order x x = some .eq) (w : World) :
    Calls Try.prog 130 #[.float .f32 x] w fun e w' => e = .returned (.bool false) ∧ w' = w := by
  have h1 : (FloatKind.f32.format.order x x != some .eq) = false := by rw [h]; rfl
  clear h
  go_enter Try.func130, Try.ntmps130
  go_wp2
  all_goals (go_ret; exact ⟨by simp_all, rfl⟩)
structure NaNI (x : Nat) : Prop where
  call : ∀ w : World, Calls Try.prog 130 #[.float .f32 x] w fun e w' => e = .returned (.bool false) ∧ w' = w
theorem compare_of {x y : Nat} (X : NaNI x) (Y : NaNI y) (l g : Bool) (hl : (FloatKind.f32.format.order x y == some .lt) = l) (hg : (FloatKind.f32.format.order x y == some .gt) = g) (w : World) :
    Calls Try.prog 106 #[.float .f32 x, .float .f32 y] w fun e w' => e = .returned (.int .i64 (if l = true then -1 else if g = true then 1 else 0)) ∧ w' = w := by
  cases l
  · cases g
    all_goals
      go_enter Try.func106, Try.ntmps106
      go_wp2_with (go_at_call 130; (first | (with_reducible refine (X.call _).mono ?_) | (with_reducible refine (Y.call _).mono ?_)); rintro e w1 ⟨rfl, rfl⟩)
      all_goals (first | (go_ret; exact ⟨rfl, rfl⟩) | (exfalso; simp_all; done))
  · clear hg
    go_enter Try.func106, Try.ntmps106
    go_wp2_with (go_at_call 130; (first | (with_reducible refine (X.call _).mono ?_) | (with_reducible refine (Y.call _).mono ?_)); rintro e w1 ⟨rfl, rfl⟩)
    all_goals (first | (go_ret; exact ⟨rfl, rfl⟩) | (exfalso; simp_all; done))
end Go.Proofs.Ytfdgijmmgllmgaa
namespace Go.Proofs.Ytfdgijmmgllmgaa
open Go.ChangeShapes Go.WideShapes Go.ChangeAt Go.RowKit Go.Joins
set_option linter.unusedSimpArgs false
set_option linter.unusedVariables false
set_option maxRecDepth 100000
attribute [local go_sem] store_f
open Ieee
def farB (a b : Nat) : Nat := if pm a < pm b then subB b a else subB a b
theorem subB_zero {a b : Nat} (ha : Part a) (hb : Part b) (h : pm a = pm b) : subB a b = 0 := by
  have := (subB_part ha hb (Nat.le_of_eq h.symm)).1
  rw [this, h, Nat.sub_self, rn_zero]
theorem farB_le {a b : Nat} (ha : Part a) (hb : Part b) : farB a b ≤ 1065353216 := by
  unfold farB
  split
  · have h1 := (subB_part hb ha (by omega)).2
    have := hb.rung
    omega
  · have h1 := (subB_part ha hb (by omega)).2
    have := ha.rung
    omega
structure DifI (a b r : Nat) : Prop where
  call : ∀ w : World, Calls Try.prog 107 #[.float .f32 a, .float .f32 b] w fun e w' => e = .returned (.float .f32 r) ∧ w' = w
theorem farPart_of {a b x y r : Nat} {o : Ordering} (e : FloatKind.f32.format.order a b = some o) (hx : maxF o a b = x) (hy : minF o a b = y) (D : DifI x y r) (w : World) :
    Calls Try.prog 70 #[.agg #[.float .f32 a, .float .f32 b]] w fun e w' => e = .returned (.float .f32 r) ∧ Below w.heap.size w w' := by
  have hM := fun ts t w => run_max_f Try.prog w ts t a b o e
  have hm := fun ts t w => run_min_f Try.prog w ts t a b o e
  rw [hx] at hM
  rw [hy] at hm
  clear e hx hy
  go_enter Try.func70, Try.ntmps70
  go_wp2_with (first | simp only [hM] | simp only [hm] | (go_at_call 107; refine (D.call _).mono ?_; rintro e w1 ⟨rfl, rfl⟩))
  all_goals (go_returns; exact ⟨rfl, by (repeat' (first | (with_reducible exact Below.refl _ _) | (with_reducible assumption) | (with_reducible refine Below.alloc ?_ ?_ _) | (with_reducible refine Below.drew ?_) | (with_reducible refine Below.setCell ?_ ?_ _) | (with_reducible refine Below.trans ?_ (Below.mono (by assumption) ?_)) | (with_reducible exact Nat.le_refl _) | omega | (simp only [World.size_alloc, World.size_setCell, World.size_drew]; omega) | (simp; omega) | (simp; done)))⟩)
theorem farPart_i {a b : Nat} (ha : Part a) (hb : Part b) (w : World) :
    Calls Try.prog 70 #[.agg #[.float .f32 a, .float .f32 b]] w fun e w' => e = .returned (.float .f32 (farB a b)) ∧ Below w.heap.size w w' := by
  have e := ha.order hb
  have h1 := cmp_lt (a := (pm a : Int)) (b := (pm b : Int))
  have h2 := cmp_eq (a := (pm a : Int)) (b := (pm b : Int))
  generalize compare (pm a : Int) (pm b : Int) = o at e h1 h2
  cases o
  · have hlt : pm a < pm b := by
      have : (pm a : Int) < (pm b : Int) := by simpa using h1
      omega
    have ef : farB a b = subB b a := by unfold farB; rw [if_pos hlt]
    rw [ef]
    exact farPart_of e rfl rfl ⟨fun w => differenceOf_p hb ha w⟩ w
  · have heq : pm a = pm b := by
      have : (pm a : Int) = (pm b : Int) := by simpa using h2
      omega
    have ef : farB a b = 0 := by unfold farB; rw [if_neg (by omega)]; exact subB_zero ha hb heq
    rw [ef]
    cases hn : (FloatKind.f32.decode a).neg
    · have := farPart_of (r := subB a b) e (x := a) (y := b) (by simp [maxF, hn]) (by simp [minF, hn]) ⟨fun w => differenceOf_p ha hb w⟩ w
      rw [subB_zero ha hb heq] at this; exact this
    · have := farPart_of (r := subB b a) e (x := b) (y := a) (by simp [maxF, hn]) (by simp [minF, hn]) ⟨fun w => differenceOf_p hb ha w⟩ w
      rw [subB_zero hb ha heq.symm] at this; exact this
  · have hge : ¬ pm a < pm b := by
      have : ¬ (pm a : Int) < (pm b : Int) := by simpa using h1
      omega
    have ef : farB a b = subB a b := by unfold farB; rw [if_neg hge]
    rw [ef]
    exact farPart_of e rfl rfl ⟨fun w => differenceOf_p ha hb w⟩ w
theorem order_words {x y : Nat} (hx : x < 2139095040) (hy : y < 2139095040) : F32.order x y = some (compare (x : Int) (y : Int)) := by
  rw [order_fin F32 (fin_of_lt hx) (fin_of_lt hy), val_of_lt (by omega), val_of_lt (by omega)]
  congr 1
  rcases Nat.lt_trichotomy x y with h | h | h
  · have := magOf_lt F32 h
    have h1 : (x : Int) < y := by omega
    have h2 : (magOf F32 x : Int) < magOf F32 y := by omega
    simp [compare, compareOfLessAndEq, h1, h2]
  · subst h; simp
  · have := magOf_lt F32 h
    have h1 : ¬ (x : Int) < y := by omega
    have h2 : ¬ (magOf F32 x : Int) < magOf F32 y := by omega
    have h3 : ¬ (x : Int) = y := by omega
    have h4 : ¬ (magOf F32 x : Int) = magOf F32 y := by omega
    simp only [compare, compareOfLessAndEq, h1, h2, h3, h4, if_false]
theorem compare_i {x y : Nat} (hx : x < 2139095040) (hy : y < 2139095040) (w : World) :
    Calls Try.prog 106 #[.float .f32 x, .float .f32 y] w fun e w' => e = .returned (.int .i64 (if x < y then -1 else if y < x then 1 else 0)) ∧ w' = w := by
  have e := order_words hx hy
  have same : ∀ {z : Nat}, z < 2139095040 → FloatKind.f32.format.order z z = some .eq := fun {z} h => by
    have := order_words h h
    show F32.order z z = _
    rw [this]; simp
  have h1 : (FloatKind.f32.format.order x y == some .lt) = decide (x < y) := by
    show (F32.order x y == some .lt) = _
    rw [e, cmp_lt]; simp
  have h2 : (FloatKind.f32.format.order x y == some .gt) = decide (y < x) := by
    show (F32.order x y == some .gt) = _
    rw [e, cmp_gt]; simp
  have := compare_of ⟨fun w => isNaN_no (same hx) w⟩ ⟨fun w => isNaN_no (same hy) w⟩ _ _ h1 h2 w
  simpa using this
end Go.Proofs.Ytfdgijmmgllmgaa
