/-
  Texts Gi Hj Hk Me Hp Gz Vc, joined.
-/
import Derived.Test.YtfdgijmmgllmgaaGreatR40
import Derived.Test.YtfdgijmmgllmgaaGreatR41
import Derived.Test.YtfdgijmmgllmgaaGreatR12
import Derived.Test.YtfdgijmmgllmgaaGreatR18
import Derived.Deep.QuietTactic
import Derived.BigQuiet
import Derived.Test.YtfdgijmmgllmgaaGreatR21
import Derived.Deep.RegionHeld3
import Derived.Deep.AppendLies
import Derived.Test.YtfdgijmmgllmgaaGreatR29
import Derived.Deep.RegionLaw
import Derived.Test.YtfdgijmmgllmgaaGreatR11
import Derived.Test.YtfdgijmmgllmgaaGreatR22
namespace Go.Proofs.YtfdgijmmgllmgaaGreat
open Go.ChangeShapes Go.WideShapes Go.ChangeAt Go.RowKit Go.Joins
set_option linter.unusedSimpArgs false
set_option linter.unusedVariables false
set_option maxRecDepth 100000
attribute [local go_sem] store_f
open Ieee
theorem move_yes {s t : Shd} {z1 z2 : Nat} (S : ShdIs s true) (P : PtIs z1 z2 true) (M : MovesTo s z1 z2 t) (T : ShdIs t true) : MoveIs s z1 z2 t true := by
  have H := move_of true S P M T
  rwa [if_pos rfl] at H
theorem move_no {s t : Shd} {z1 z2 : Nat} (S : ShdIs s true) (P : PtIs z1 z2 true) (M : MovesTo s z1 z2 t) (T : ShdIs t false) : MoveIs s z1 z2 s false := by
  have H := move_of false S P M T
  rwa [if_neg (by decide)] at H
theorem shdYesM {s : Shd} (h : shardB s = true) : ShdIs s true := by
  have S := shdIs s
  rwa [h] at S
theorem shdNoM {s : Shd} (h : shardB s = false) : ShdIs s false := by
  have S := shdIs s
  rwa [h] at S
end Go.Proofs.YtfdgijmmgllmgaaGreat
namespace Go.Proofs.YtfdgijmmgllmgaaGreat
open Go.ChangeShapes Go.WideShapes Go.ChangeAt Go.RowKit Go.Joins
set_option linter.unusedSimpArgs false
set_option linter.unusedVariables false
set_option maxRecDepth 100000
attribute [local go_sem] store_f
open Ieee
def colEq (c d : Lit) : Bool := (FloatKind.f32.format.order c.r d.r == some .eq) && ((FloatKind.f32.format.order c.g d.g == some .eq) && (FloatKind.f32.format.order c.b d.b == some .eq))
def colsEq (l k : List Lit) : Bool := decide (l.length = k.length) && (List.range l.length).all fun i => colEq (l.getD i default) (k.getD i default)
theorem colsEq_len {l k : List Lit} (h : l.length ≠ k.length) : colsEq l k = false := by simp [colsEq, h]
theorem colsEq_iff {l k : List Lit} (h : l.length = k.length) : colsEq l k = true ↔ ∀ i, i < l.length → colEq (l.getD i default) (k.getD i default) = true := by
  unfold colsEq
  rw [h]
  simp [List.all_eq_true]
theorem run_eq_lit (c d : Lit) (w : World) : (Op.equalIn 10000 26 (.agg #[.float .f32 c.r, .float .f32 c.g, .float .f32 c.b]) (.agg #[.float .f32 d.r, .float .f32 d.g, .float .f32 d.b])).run Tryz.prog w = .ok (colEq c d) w := run_eq_colg c.r c.g c.b d.r d.g d.b w
structure EqCols (a : Option Addr) (ca : Nat) (l : List Lit) (b : Option Addr) (cb : Nat) (k : List Lit) (p : Bool) : Prop where
  call : ∀ w : World, LitsAt w a l → LitsAt w b k → Calls Tryz.prog 43 #[.slice a l.length ca, .slice b k.length cb] w fun e w' => e = .returned (.bool p) ∧ Below w.heap.size w w'
set_option maxHeartbeats 4000000 in
theorem eqCols_len {a : Option Addr} {ca : Nat} {l : List Lit} {b : Option Addr} {cb : Nat} {k : List Lit} (h : l.length ≠ k.length) : EqCols a ca l b cb k false := ⟨fun w _ _ => by
  have h1 : ((l.length : Int) == (k.length : Int)) = false := by simp; omega
  have h2 : decide (l.length = k.length) = false := by simp [h]
  go_enter Tryz.func43, Tryz.ntmps43
  go_wp2
  go_ret
  exact ⟨rfl, by (repeat' (first | (with_reducible exact Below.refl _ _) | (with_reducible assumption) | (with_reducible refine Below.alloc ?_ ?_ _) | (with_reducible refine Below.drew ?_) | (with_reducible refine Below.setCell ?_ ?_ _) | (with_reducible refine Below.trans ?_ (Below.mono (by assumption) ?_)) | (with_reducible exact Nat.le_refl _) | omega | (simp only [World.size_alloc, World.size_setCell, World.size_drew]; omega) | (simp; omega) | (simp; done)))⟩⟩
set_option maxHeartbeats 8000000 in
theorem eqCols_all {a : Option Addr} {ca : Nat} {l : List Lit} {b : Option Addr} {cb : Nat} {k : List Lit} (h : l.length = k.length) (hb : l.length ≤ 1000000000) : EqCols a ca l b cb k (colsEq l k) := ⟨fun w hr1 hr2 => by
  have R1 : Hid (LitsAt w a l) := hr1
  have R2 : Hid (LitsAt w b k) := hr2
  obtain ⟨N, hN⟩ : ∃ N : Nat, N = l.length := ⟨_, rfl⟩
  have HN1 : Hid (N = l.length) := hN
  have HN2 : Hid (N = k.length) := hN.trans h
  have HI : Hid (colsEq l k = true ↔ ∀ i, i < N → colEq (l.getD i default) (k.getD i default) = true) := by rw [hN]; exact colsEq_iff h
  have hNb : N ≤ 1000000000 := by omega
  rw [← hN, ← HN2.out]
  clear hr1 hr2 h hb hN
  generalize colsEq l k = p at HI ⊢
  go_enter Tryz.func43, Tryz.ntmps43
  go_wp2
  go_loopw [13] (fun i wr => ∃ j : Nat, j ≤ N ∧ i = .int .i64 j ∧ (∀ i, i < j → colEq (l.getD i default) (k.getD i default) = true) ∧ Below w.heap.size w wr) (fun i _ => N - (intOf i).toNat)
  case atStart => exact ⟨0, by omega, rfl, fun i hi => absurd hi (by omega), Below.refl _ _⟩
  case round =>
    obtain ⟨j, hj, rfl, hall, hbel⟩ := hrel
    have HB : Hid (Below w.heap.size w wr) := hbel
    have HL : Hid (∀ i, i < j → colEq (l.getD i default) (k.getD i default) = true) := hall
    have hbs := hbel.size
    clear hall
    by_cases hlt : j < N
    · rcases R1.out with hnil | ⟨b1, o1, rfl, hR1⟩
      · exfalso
        have := HN1.out
        rw [hnil] at this
        simp at this
        omega
      rcases R2.out with hnil | ⟨b2, o2, rfl, hR2⟩
      · exfalso
        have := HN2.out
        rw [hnil] at this
        simp at this
        omega
      obtain ⟨d0, d1, d2⟩ := (LitRow.below hR1 hbel) j (by have := HN1.out; omega)
      obtain ⟨e0, e1, e2⟩ := (LitRow.below hR2 hbel) j (by have := HN2.out; omega)
      have HS : Hid (colEq (l.getD j default) (k.getD j default) = true → ∀ i, i < j + 1 → colEq (l.getD i default) (k.getD i default) = true) := fun h i hi => by
        rcases (by omega : i < j ∨ i = j) with h1 | rfl
        · exact HL.out i h1
        · exact h
      have HX : Hid (colEq (l.getD j default) (k.getD j default) = false → p = false) := fun h => by
        cases hp : p
        · rfl
        · have := (HI.out.1 hp) j hlt
          rw [h] at this
          exact absurd this (by decide)
      have op := fun w => run_eq_lit (l.getD j default) (k.getD j default) w
      generalize colEq (l.getD j default) (k.getD j default) = q at op HS HX
      generalize l.getD j default = c at *
      generalize k.getD j default = d at *
      have hj0 : (0 : Int) ≤ (j : Int) := by omega
      have hj1 : (j : Int) < (N : Int) := by omega
      clear hR1 hR2
      cases q
      · have hp : p = false := HX.out rfl
        subst hp
        clear HX HS HI
        go_wp2_with fail
        go_quiet (fail)
        go_wp2
        go_ret
        exact ⟨rfl, hbel.trans (below_draws _ _ _)⟩
      · clear HX
        go_wp2_with fail
        go_quiet (fail)
        go_wp2
        have hds := hbel.size
        go_roundw
        case rel => exact ⟨j + 1, by omega, by go_num, HS.out (by simp), hbel.trans (below_draws _ _ _)⟩
        case measure => simp [intOf]; omega
    · have hjm : j = N := by omega
      subst hjm
      have hp : p = true := HI.out.2 HL.out
      subst hp
      go_wp2
      go_ret
      exact ⟨rfl, hbel⟩⟩
theorem eqCols {a : Option Addr} {ca : Nat} {l : List Lit} {b : Option Addr} {cb : Nat} {k : List Lit} (hb : l.length ≤ 1000000000) : EqCols a ca l b cb k (colsEq l k) := by
  by_cases h : l.length = k.length
  · exact eqCols_all h hb
  · rw [colsEq_len h]
    exact eqCols_len h
structure SameM (n : Int) (a : Option Addr) (ca : Nat) (l : List Lit) (m : Int) (b : Option Addr) (cb : Nat) (k : List Lit) (p : Bool) : Prop where
  call : ∀ w : World, LitsAt w a l → LitsAt w b k → Calls Tryz.prog 18 #[.agg #[.int .i64 n, .slice a l.length ca], .agg #[.int .i64 m, .slice b k.length cb]] w fun e w' => e = .returned (.bool p) ∧ Below w.heap.size w w'
set_option maxHeartbeats 4000000 in
theorem sameM {n : Int} {a : Option Addr} {ca : Nat} {l : List Lit} {m : Int} {b : Option Addr} {cb : Nat} {k : List Lit} (hb : l.length ≤ 1000000000) : SameM n a ca l m b cb k (n == m && colsEq l k) := ⟨fun w hr1 hr2 => by
  have E := eqCols (a := a) (ca := ca) (l := l) (b := b) (cb := cb) (k := k) hb
  generalize colsEq l k = p at E ⊢
  have R1 : Hid (LitsAt w a l) := hr1
  have R2 : Hid (LitsAt w b k) := hr2
  clear hr1 hr2 hb
  by_cases h : n = m
  · subst h
    have e : (n == n && p) = p := by simp
    rw [e]
    go_enter Tryz.func18, Tryz.ntmps18
    go_wp2_with fail
    refine (E.call _ ((R1.out.alloc).alloc) ((R2.out.alloc).alloc)).mono ?_
    rintro e w2 ⟨rfl, hb⟩
    go_wp2
    go_ret
    exact ⟨rfl, by (repeat' (first | (with_reducible exact Below.refl _ _) | (with_reducible assumption) | (with_reducible refine Below.alloc ?_ ?_ _) | (with_reducible refine Below.drew ?_) | (with_reducible refine Below.setCell ?_ ?_ _) | (with_reducible refine Below.trans ?_ (Below.mono (by assumption) ?_)) | (with_reducible exact Nat.le_refl _) | omega | (simp only [World.size_alloc, World.size_setCell, World.size_drew]; omega) | (simp; omega) | (simp; done)))⟩
  · have hne : (n == m) = false := by simpa using h
    have e : (n == m && p) = false := by simp [h]
    rw [e]
    go_enter Tryz.func18, Tryz.ntmps18
    go_wp2
    go_ret
    exact ⟨rfl, by (repeat' (first | (with_reducible exact Below.refl _ _) | (with_reducible assumption) | (with_reducible refine Below.alloc ?_ ?_ _) | (with_reducible refine Below.drew ?_) | (with_reducible refine Below.setCell ?_ ?_ _) | (with_reducible refine Below.trans ?_ (Below.mono (by assumption) ?_)) | (with_reducible exact Nat.le_refl _) | omega | (simp only [World.size_alloc, World.size_setCell, World.size_drew]; omega) | (simp; omega) | (simp; done)))⟩⟩
end Go.Proofs.YtfdgijmmgllmgaaGreat
namespace Go.Proofs.YtfdgijmmgllmgaaGreat
open Go.ChangeShapes Go.WideShapes Go.ChangeAt Go.RowKit Go.Joins
set_option linter.unusedSimpArgs false
set_option linter.unusedVariables false
set_option maxRecDepth 100000
attribute [local go_sem] store_f
open Ieee
def keepsB (n : Nat) (l : List Lit) (p : Int × Bool) : Bool := colsEq (actCols n p.1.toNat p.2 l) l
def picSyms (n : Nat) (l : List Lit) : List (Int × Bool) := (symsTo 3 8).filter (keepsB n l)
theorem SymRow.grownBy {W w1 : World} {g : Nat} {r : Option Nat} {l : List (Int × Bool)} (h : SymRow W g l) (hg : W.grownBy w1 r) (hne : r ≠ some g) : SymRow w1 g l := fun k hk => by
  obtain ⟨h0, h1⟩ := h k hk
  have hl := cell_lt h0
  have e : ∀ i, w1.cell? ⟨g, i, Option.none⟩ = W.cell? ⟨g, i, Option.none⟩ := fun i => World.cell?_of_block (hg.block g hl (fun e => hne e.symm))
  rw [e, e]
  exact ⟨h0, h1⟩
end Go.Proofs.YtfdgijmmgllmgaaGreat
namespace Go.Proofs.YtfdgijmmgllmgaaGreat
open Go.ChangeShapes Go.WideShapes Go.ChangeAt Go.RowKit Go.Joins
set_option linter.unusedSimpArgs false
set_option linter.unusedVariables false
set_option maxRecDepth 100000
attribute [local go_sem] store_f
open Ieee
def Oks (l : List Lit) : Prop := ∀ c ∈ l, c.Ok
theorem isB_ok {c : Lit} (h : c.Ok) : c.isB = true := by
  have e1 := part_share (x := c.r) (.inl h.r)
  have e2 := part_share (x := c.g) (.inl h.g)
  have e3 := part_share (x := c.b) (.inl h.b)
  unfold Lit.isB colB
  rw [e1, e2, e3]; rfl
theorem picB_ok {n : Nat} {l : List Lit} (h1 : 1 ≤ n) (h8 : n ≤ 8) (hl : l.length = n * n) (hok : Oks l) : picB n l = true := by
  unfold picB
  have e1 : sizeB (n : Int) = true := by unfold sizeB; simp; omega
  have e2 : ((l.length : Nat) : Int) = (n : Int) * n := by rw [hl]; simp
  have e3 : l.all Lit.isB = true := List.all_eq_true.2 fun c hc => isB_ok (hok c hc)
  rw [e1, e3, e2]; simp
end Go.Proofs.YtfdgijmmgllmgaaGreat
namespace Go.Proofs.YtfdgijmmgllmgaaGreat
open Go.ChangeShapes Go.WideShapes Go.ChangeAt Go.RowKit Go.Joins
set_option linter.unusedSimpArgs false
set_option linter.unusedVariables false
set_option maxRecDepth 100000
attribute [local go_sem] store_f
open Ieee
theorem val_inj {x y : Nat} (hx : x < 2147483648) (hy : y < 2147483648) (h : valOf F32 x = valOf F32 y) : x = y := by
  rw [val_of_lt hx, val_of_lt hy] at h
  rcases Nat.lt_trichotomy x y with g | g | g
  · have := magOf_lt F32 g; omega
  · exact g
  · have := magOf_lt F32 g; omega
theorem part_eq {x y : Nat} (hx : x ≤ 1065353216) (hy : y ≤ 1065353216) : (FloatKind.f32.format.order x y == some .eq) = decide (x = y) := by
  show (F32.order x y == some .eq) = _
  rw [order_fin F32 (fin_of_lt (by omega)) (fin_of_lt (by omega)), cmp_eq, decide_eq_decide]
  exact ⟨fun h => val_inj (by omega) (by omega) h, fun h => by rw [h]⟩
theorem colEq_ok {c d : Lit} (hc : c.Ok) (hd : d.Ok) : colEq c d = true ↔ c = d := by
  unfold colEq
  rw [part_eq hc.r hd.r, part_eq hc.g hd.g, part_eq hc.b hd.b]
  simp only [Bool.and_eq_true, decide_eq_true_eq]
  constructor
  · rintro ⟨h1, h2, h3⟩
    cases c; cases d
    simp only [] at h1 h2 h3
    rw [h1, h2, h3]
  · rintro rfl; exact ⟨rfl, rfl, rfl⟩
theorem getD_memL {l : List Lit} {i : Nat} (h : i < l.length) : l.getD i default ∈ l := by simp [List.getD, h]
theorem list_ext {l k : List Lit} (h : l.length = k.length) (hi : ∀ i, i < l.length → l.getD i default = k.getD i default) : l = k := by
  apply List.ext_getElem h
  intro i h1 h2
  have := hi i h1
  simpa [List.getD, h1, h2] using this
theorem colsEq_ok {l k : List Lit} (hl : Oks l) (hk : Oks k) (h : l.length = k.length) : colsEq l k = true ↔ l = k := by
  rw [colsEq_iff h]
  constructor
  · intro hi
    exact list_ext h fun i h1 => (colEq_ok (hl _ (getD_memL h1)) (hk _ (getD_memL (by omega)))).1 (hi i h1)
  · rintro rfl i h1
    exact (colEq_ok (hl _ (getD_memL h1)) (hl _ (getD_memL h1))).2 rfl
theorem colsTo_get {col : Nat → Lit} {N k : Nat} (h : k < N) : (colsTo col N).getD k default = col k := by
  unfold colsTo
  simp [List.getD, h]
theorem act_len (n t : Nat) (f : Bool) (l : List Lit) : (actCols n t f l).length = n * n := by unfold actCols; rw [colsTo_len]
theorem act_get {n t k : Nat} {f : Bool} {l : List Lit} (h : k < n * n) : (actCols n t f l).getD k default = l.getD (cellN n (backT t f).toNat (backF t f) k) default := by
  unfold actCols; rw [colsTo_get h]
theorem act_oks {n t : Nat} {f : Bool} {l : List Lit} (h8 : n ≤ 8) (ht : t < 4) (hl : l.length = n * n) (hok : Oks l) : Oks (actCols n t f l) := by
  intro c hc
  unfold actCols colsTo at hc
  obtain ⟨k, hk, rfl⟩ := List.mem_map.1 hc
  have hJ := back_in ⟨t, ht⟩ f
  dsimp only at hJ
  exact hok _ (getD_memL (by rw [hl]; exact cell_lt' h8 (List.mem_range.1 hk) hJ.2))
def actL (n : Nat) (p : Int × Bool) (l : List Lit) : List Lit := actCols n p.1.toNat p.2 l
theorem all_in : ∀ p ∈ symsTo 3 8, ∃ t : Nat, p.1 = t ∧ t < 4 := symsTo_in 3
theorem actL_len (n : Nat) (p : Int × Bool) (l : List Lit) : (actL n p l).length = n * n := act_len _ _ _ _
theorem actL_oks {n : Nat} {p : Int × Bool} {l : List Lit} (h8 : n ≤ 8) (hp : p ∈ symsTo 3 8) (hl : l.length = n * n) (hok : Oks l) : Oks (actL n p l) := by
  obtain ⟨t, e1, h1⟩ := all_in p hp
  unfold actL
  rw [e1]
  exact act_oks h8 h1 hl hok
theorem keeps_iff {n : Nat} {p : Int × Bool} {l : List Lit} (h8 : n ≤ 8) (hp : p ∈ symsTo 3 8) (hl : l.length = n * n) (hok : Oks l) : keepsB n l p = true ↔ actL n p l = l :=
  colsEq_ok (actL_oks h8 hp hl hok) hok (by rw [act_len, hl])
theorem picSyms_iff {n : Nat} {p : Int × Bool} {l : List Lit} (h8 : n ≤ 8) (hl : l.length = n * n) (hok : Oks l) : p ∈ picSyms n l ↔ p ∈ symsTo 3 8 ∧ actL n p l = l := by
  unfold picSyms
  rw [List.mem_filter]
  constructor
  · rintro ⟨h1, h2⟩; exact ⟨h1, (keeps_iff h8 h1 hl hok).1 h2⟩
  · rintro ⟨h1, h2⟩; exact ⟨h1, (keeps_iff h8 h1 hl hok).2 h2⟩
end Go.Proofs.YtfdgijmmgllmgaaGreat
namespace Go.Proofs.YtfdgijmmgllmgaaGreat
open Go.ChangeShapes Go.WideShapes Go.ChangeAt Go.RowKit Go.Joins
set_option linter.unusedSimpArgs false
set_option linter.unusedVariables false
set_option maxRecDepth 100000
attribute [local go_sem] store_f
open Ieee
attribute [local go_sem] store_c
set_option maxHeartbeats 4000000 in
theorem joinD_of {a1 a2 b1 b2 x y : Nat} (X : Op2 145 a1 b1 x) (Y : Op2 145 a2 b2 y) : Join 145 a1 a2 b1 b2 x y := ⟨fun w => by
  go_enter Tryz.func118, Tryz.ntmps118
  go_wp2_with (go_at_call 145; (first | (with_reducible refine (X.call _).mono ?_) | (with_reducible refine (Y.call _).mono ?_)); rintro e w1 ⟨rfl, rfl⟩)
  go_ret
  exact ⟨rfl, rfl⟩⟩
theorem sideIsD {a1 a2 b1 b2 p1 p2 : Nat} (ha1 : inB a1 = true) (ha2 : inB a2 = true) (hb1 : inB b1 = true) (hb2 : inB b2 = true) (hp1 : inB p1 = true) (hp2 : inB p2 = true) :
    SideIs a1 a2 b1 b2 p1 p2 (sideW a1 a2 b1 b2 p1 p2) := by
  have f1 := inB_fin ha1
  have f2 := inB_fin ha2
  have f3 := inB_fin hb1
  have f4 := inB_fin hb2
  have f5 := inB_fin hp1
  have f6 := inB_fin hp2
  exact side_of (ptYes ha1 ha2) (ptYes hb1 hb2) (ptYes hp1 hp2) (joinD_of (diff2 f3 f1) (diff2 f4 f2)) (joinD_of (diff2 f5 f1) (diff2 f6 f2))
    (prod2 (clT_cl _).fin (clT_cl _).fin) (prod2 (clT_cl _).fin (clT_cl _).fin) (diff2 (clM_cl _).fin (clM_cl _).fin)
theorem inIsD {s : Shd} {p1 p2 : Nat} (hs : shardB s = true) (h1 : inB p1 = true) (h2 : inB p2 = true) : InIs s p1 p2 (inSh s p1 p2) := by
  have hs' := hs
  unfold shardB ptB at hs'
  simp only [Bool.and_eq_true] at hs'
  obtain ⟨⟨⟨⟨⟨a1, a2⟩, b1, b2⟩, c1, c2⟩, _⟩, _⟩ := hs'
  have X := sideIsD a1 a2 b1 b2 h1 h2
  have Y := sideIsD b1 b2 c1 c2 h1 h2
  have Z := sideIsD c1 c2 a1 a2 h1 h2
  have D := sides_of ⟨fun w => cornersOf_i s w⟩ X Y Z
  have S := shdIs s
  rw [hs] at S
  have fx := (side_cl s.a1 s.a2 s.b1 s.b2 p1 p2).fin
  have fy := (side_cl s.b1 s.b2 s.c1 s.c2 p1 p2).fin
  have fz := (side_cl s.c1 s.c2 s.a1 s.a2 p1 p2).fin
  unfold inSh
  generalize sideW s.a1 s.a2 s.b1 s.b2 p1 p2 = x at *
  generalize sideW s.b1 s.b2 s.c1 s.c2 p1 p2 = y at *
  generalize sideW s.c1 s.c2 s.a1 s.a2 p1 p2 = z at *
  obtain ⟨m, m1, m2, _, m3, m4, m5⟩ := min_val fx fy
  obtain ⟨n, n1, n2, _, n3, n4, n5⟩ := min_val m2 fz
  obtain ⟨u, u1, u2, _, u3, u4, u5⟩ := max_val fx fy
  obtain ⟨v, v1, v2, _, v3, v4, v5⟩ := max_val u2 fz
  have H := in_of S (ptYes h1 h2) D ⟨fun w g cap R => slMin ⟨m1⟩ ⟨n1⟩ w g cap R⟩ ⟨fun w g cap R => slMax ⟨u1⟩ ⟨v1⟩ w g cap R⟩ rfl rfl
  rw [order_zero n2, order_zero v2, cmp_eq, cmp_eq, cmp_lt, cmp_gt] at H
  have e : (decide (0 < valOf F32 n) || decide (valOf F32 n = 0) || (decide (valOf F32 v < 0) || decide (valOf F32 v = 0))) = inZ (valOf F32 x) (valOf F32 y) (valOf F32 z) := by
    unfold inZ
    rw [Bool.eq_iff_iff]
    simp only [Bool.or_eq_true, decide_eq_true_eq]
    omega
  rwa [e] at H
theorem stepMD {x y : Nat} {c : Lit} {s : Shd} (hs : s.Ok) (hc : c.Ok) (hx : inB x = true) (hy : inB y = true) : StepM x y c s (stepC x y c s) := by
  have I := inIsD hs.yes hx hy
  cases h : inSh s x y
  · rw [h] at I
    rw [stepC_no h]
    exact step_no I
  · rw [h] at I
    rw [stepC_yes h]
    exact step_yes I (filM (.inl hc.r) (.inl hc.g) (.inl hc.b) hs.r hs.g hs.b) (mixN (Part.mul (.inl hc.r) hs.r) (Part.mul (.inl hc.g) hs.g) (Part.mul (.inl hc.b) hs.b) (.inl hc.r) (.inl hc.g) (.inl hc.b) hs.k)
set_option maxHeartbeats 8000000 in
theorem foldShD {a : Option Addr} {cap x y : Nat} {l : List Shd} {c : Lit} (hlen : l.length ≤ 12) (hok : ∀ s ∈ l, s.Ok) (hc : c.Ok) (hx : inB x = true) (hy : inB y = true) : FoldSh a l.length cap l x y c (lightOf x y l c) := ⟨fun q w hrow hq => by
  have HK : Hid (∀ j, j < l.length → StepM x y (lightOf x y (l.take j) c) (l.getD j default) (lightOf x y (l.take (j + 1)) c)) := fun j hj => by
    rw [lightOf_snoc hj]
    exact stepMD (hok _ (by simp [List.getD, hj])) (lightOf_ok _ (fun s hs => hok s (List.mem_of_mem_take hs)) hc) hx hy
  have H0 : Hid (lightOf x y (l.take 0) c = c) := by rw [List.take_zero]; exact lightOf_nil x y c
  have he : lightOf x y (l.take l.length) c = lightOf x y l c := by rw [List.take_length]
  have HE : Hid (lightOf x y (l.take l.length) c = lightOf x y l c) := he
  clear he
  have HR : Hid (RowAt w a l) := hrow
  have HQ : Hid (w.cell? ⟨q, 0, Option.none⟩ = some (.complex .f32 x y)) := hq
  clear hrow hq hok hc hx hy
  generalize lightOf x y l c = z at HE ⊢
  generalize hL : (fun j : Nat => lightOf x y (l.take j) c) = L
  have HK' : Hid (∀ j, j < l.length → StepM x y (L j) (l.getD j default) (L (j + 1))) := by rw [← hL]; exact HK.out
  have H0' : L 0 = c := by rw [← hL]; exact H0.out
  have HE' : L l.length = z := by rw [← hL]; exact HE.out
  clear HK H0 HE hL
  subst H0' HE'
  go_enter Tryz.func112, Tryz.ntmps112
  go_wp2_with fail
  generalize hW : (w.alloc (.cells #[.float .f32 (L 0).r, .float .f32 (L 0).g, .float .f32 (L 0).b] 26)).alloc (.cells #[.float .f32 0, .float .f32 0, .float .f32 0] 26) = X
  have C0 : Blk X w.heap.size #[.float .f32 (L 0).r, .float .f32 (L 0).g, .float .f32 (L 0).b] 26 := by rw [← hW]; exact (Blk.new _ _ _).alloc
  have R0 : Blk X (w.heap.size + 1) #[.float .f32 0, .float .f32 0, .float .f32 0] 26 := by rw [← hW]; exact Blk.newAt (by simp)
  have hB : Below w.heap.size w X := by rw [← hW]; (repeat' (first | (with_reducible exact Below.refl _ _) | (with_reducible assumption) | (with_reducible refine Below.alloc ?_ ?_ _) | (with_reducible refine Below.drew ?_) | (with_reducible refine Below.setCell ?_ ?_ _) | (with_reducible refine Below.trans ?_ (Below.mono (by assumption) ?_)) | (with_reducible exact Nat.le_refl _) | omega | (simp only [World.size_alloc, World.size_setCell, World.size_drew]; omega) | (simp; omega) | (simp; done)))
  clear hW
  go_loopw [11] (fun i wr => ∃ j : Nat, j ≤ l.length ∧ i = .int .i64 j ∧ Blk wr w.heap.size #[.float .f32 (L j).r, .float .f32 (L j).g, .float .f32 (L j).b] 26 ∧ Blk wr (w.heap.size + 1) #[.float .f32 0, .float .f32 0, .float .f32 0] 26 ∧ Below w.heap.size w wr) (fun i _ => l.length - (intOf i).toNat)
  case atStart => exact ⟨0, by omega, rfl, C0, R0, hB⟩
  case round =>
    obtain ⟨j, hj, rfl, hC, hR0, hbel⟩ := hrel
    have HB : Hid (Below w.heap.size w wr) := hbel
    have CC : Hid (Blk wr w.heap.size #[.float .f32 (L j).r, .float .f32 (L j).g, .float .f32 (L j).b] 26) := hC
    have RR : Hid (Blk wr (w.heap.size + 1) #[.float .f32 0, .float .f32 0, .float .f32 0] 26) := hR0
    have hbs := hbel.size
    have lr := hR0.lt
    have lr0 : w.heap.size < wr.heap.size := by omega
    clear C0 R0 hB hC hR0
    have k0 := Blk.cellAt (i := 0) CC.out rfl
    have k1 := Blk.cellAt (i := 1) CC.out rfl
    have k2 := Blk.cellAt (i := 2) CC.out rfl
    simp only [List.getElem_toArray, List.getElem_cons_zero, List.getElem_cons_succ] at k0 k1 k2
    by_cases hlt : j < l.length
    · have K := HK'.out j hlt
      rcases HR.out with hnil | ⟨b, off, rfl, hRR⟩
      · exfalso; rw [hnil] at hlt; simp at hlt
      have hrow := (ShRow.below hRR hbel) j hlt
      have hqq := cBelow hbel HQ.out
      generalize l.getD j default = s at hrow K
      generalize hd : L (j + 1) = d at K
      generalize L j = c at *
      obtain ⟨d0, d1, d2, d3, d4, d5, d6⟩ := hrow
      have HQQ : Hid ((wr.alloc (.cells #[.complex .f32 s.a1 s.a2, .complex .f32 s.b1 s.b2, .complex .f32 s.c1 s.c2, .float .f32 s.r, .float .f32 s.g, .float .f32 s.b, .float .f32 s.k] 36)).cell? ⟨q, 0, Option.none⟩ = some (.complex .f32 x y)) := cAlloc hqq
      clear hbel hRR hqq
      go_wp2_with fail
      refine (K.call q _ HQQ.out).mono ?_
      rintro e w2 ⟨rfl, hb⟩
      have HB2 : Hid (Below w.heap.size w w2) := (HB.out.alloc (by omega) _).trans (hb.mono (by simp; omega))
      have C2 : Hid (Blk w2 w.heap.size #[.float .f32 c.r, .float .f32 c.g, .float .f32 c.b] 26) := CC.out.alloc.below hb
      have R2 : Hid (Blk w2 (w.heap.size + 1) #[.float .f32 0, .float .f32 0, .float .f32 0] 26) := RR.out.alloc.below hb
      clear hb d0 d1 d2 d3 d4 d5 d6 k0 k1 k2 HQQ CC RR HB
      have HD : Hid (L (j + 1) = d) := hd
      clear hd
      have l2 := R2.out.lt
      have l20 := C2.out.lt
      have o0 := Blk.cellAt (i := 0) C2.out rfl
      have o1 := Blk.cellAt (i := 1) C2.out rfl
      have o2 := Blk.cellAt (i := 2) C2.out rfl
      have f0 := C2.out.free 0
      have f1 := C2.out.free 1
      have f2 := C2.out.free 2
      simp only [List.getElem_toArray, List.getElem_cons_zero, List.getElem_cons_succ] at o0 o1 o2
      go_wp2
      go_roundw
      case rel =>
        have hbb := HB2.out
        exact ⟨j + 1, by omega, by go_num, by rw [HD.out]; exact Blk.setAt (b := w.heap.size) rfl (Blk.setAt (b := w.heap.size) rfl (Blk.setAt (b := w.heap.size) rfl C2.out rfl) rfl) rfl, ((R2.out.other (by dsimp only; omega)).other (by dsimp only; omega)).other (by dsimp only; omega), by (repeat' (first | (with_reducible exact Below.refl _ _) | (with_reducible assumption) | (with_reducible refine Below.alloc ?_ ?_ _) | (with_reducible refine Below.drew ?_) | (with_reducible refine Below.setCell ?_ ?_ _) | (with_reducible refine Below.trans ?_ (Below.mono (by assumption) ?_)) | (with_reducible exact Nat.le_refl _) | omega | (simp only [World.size_alloc, World.size_setCell, World.size_drew]; omega) | (simp; omega) | (simp; done)))⟩
      case measure => simp [intOf]; omega
    · have hjm : j = l.length := by omega
      subst hjm
      clear hbel
      have o0 := Blk.cellAt (i := 0) RR.out rfl
      have o1 := Blk.cellAt (i := 1) RR.out rfl
      have o2 := Blk.cellAt (i := 2) RR.out rfl
      have f0 := RR.out.free 0
      have f1 := RR.out.free 1
      have f2 := RR.out.free 2
      simp only [List.getElem_toArray, List.getElem_cons_zero, List.getElem_cons_succ] at o0 o1 o2
      go_wp2
      have hbb := HB.out
      (have d0 := (RR.out.set (i := 0) (v := .float .f32 (L l.length).r)).cell 0; have d1 := ((RR.out.set (i := 0) (v := .float .f32 (L l.length).r)).set (i := 1) (v := .float .f32 (L l.length).g)).cell 1; have d2 := (((RR.out.set (i := 0) (v := .float .f32 (L l.length).r)).set (i := 1) (v := .float .f32 (L l.length).g)).set (i := 2) (v := .float .f32 (L l.length).b)).cell 2; simp only [List.setIfInBounds_toArray, List.set_cons_zero, List.set_cons_succ, List.getElem?_toArray, List.getElem?_cons_zero, List.getElem?_cons_succ] at d0 d1 d2; exact bodyPost_ret (v := .agg #[.float .f32 (L l.length).r, .float .f32 (L l.length).g, .float .f32 (L l.length).b]) (by simp [results, Tryz.results112, go_sem, d0, d1, d2]) rfl ⟨rfl, by (repeat' (first | (with_reducible exact Below.refl _ _) | (with_reducible assumption) | (with_reducible refine Below.alloc ?_ ?_ _) | (with_reducible refine Below.drew ?_) | (with_reducible refine Below.setCell ?_ ?_ _) | (with_reducible refine Below.trans ?_ (Below.mono (by assumption) ?_)) | (with_reducible exact Nat.le_refl _) | omega | (simp only [World.size_alloc, World.size_setCell, World.size_drew]; omega) | (simp; omega) | (simp; done)))⟩)⟩
theorem seenIsD {a : Option Addr} {cap x y : Nat} {l : List Shd} {c : Lit} (hlen : l.length ≤ 12) (hok : ∀ s ∈ l, s.Ok) (hc : c.Ok) (hx : inB x = true) (hy : inB y = true) : SeenIs a l.length cap l x y c (lightOf x y l c) :=
  seen_of ⟨(areIs hlen hok).call⟩ (ptYes hx hy) (colYes (.inl hc.r) (.inl hc.g) (.inl hc.b)) (foldShD hlen hok hc hx hy)
end Go.Proofs.YtfdgijmmgllmgaaGreat
namespace Go.Proofs.YtfdgijmmgllmgaaGreat
open Go.ChangeShapes Go.WideShapes Go.ChangeAt Go.RowKit Go.Joins
set_option linter.unusedSimpArgs false
set_option linter.unusedVariables false
set_option maxRecDepth 100000
attribute [local go_sem] store_f
open Ieee
noncomputable def foldP {kind : Int} (h0 : 0 ≤ kind) (h3 : kind ≤ 3) (p : PtW) : PtW := Classical.choose (fold_of h0 h3 p)
theorem foldP_in {kind : Int} (h0 : 0 ≤ kind) (h3 : kind ≤ 3) (p : PtW) : ∃ s ∈ symsTo kind 8, foldP h0 h3 p = actP s p ∧ wed kind (foldP h0 h3 p) = true := (Classical.choose_spec (fold_of h0 h3 p)).1
theorem foldP_call {kind : Int} (h0 : 0 ≤ kind) (h3 : kind ≤ 3) (p : PtW) : ∃ t f, FoldM kind p.1.1 p.1.2 (foldP h0 h3 p).1.1 (foldP h0 h3 p).1.2 t f := (Classical.choose_spec (fold_of h0 h3 p)).2
theorem foldP_img {kind : Int} (h0 : 0 ≤ kind) (h3 : kind ≤ 3) (p : PtW) {s : Int × Bool} (hs : s ∈ symsTo kind 8) : foldP h0 h3 (actP s p) = foldP h0 h3 p :=
  fold_img h0 h3 hs (foldP_in h0 h3 p) (foldP_in h0 h3 (actP s p))
theorem same_act {kind : Int} (h0 : 0 ≤ kind) (h3 : kind ≤ 3) {n : Nat} (h8 : n ≤ 8) {col : Nat → Lit} (h : ∀ k, k < n * n → ∀ s ∈ symsTo kind 8, col (cellN n s.1.toNat s.2 k) = col k) {s : Int × Bool} (hs : s ∈ symsTo kind 8) : actL n s (colsTo col (n * n)) = colsTo col (n * n) := by
  obtain ⟨t, ht, h4⟩ := symsTo_in kind s hs
  have hb := syms_back kind h0 h3 s hs
  obtain ⟨s1, f⟩ := s
  simp only [] at ht hb
  subst ht
  have hJ := back_in ⟨t, h4⟩ f
  dsimp only at hJ
  have hc := fun k hk => h k hk _ hb
  simp only [] at hc
  apply list_ext (by rw [actL_len, colsTo_len])
  intro k hk
  rw [actL_len] at hk
  rw [show actL n ((t : Int), f) (colsTo col (n * n)) = actCols n t f (colsTo col (n * n)) from rfl, act_get hk, colsTo_get (cell_lt' h8 hk hJ.2), colsTo_get hk]
  exact hc k hk
theorem foldMin_mem (n k : Nat) (L : List (Int × Bool)) : ∀ m, L.foldl (fun m p => min m (cellN n p.1.toNat p.2 k)) m = m ∨ ∃ s ∈ L, L.foldl (fun m p => min m (cellN n p.1.toNat p.2 k)) m = cellN n s.1.toNat s.2 k := by
  induction L with
  | nil => intro m; exact .inl rfl
  | cons a L ih =>
    intro m
    rw [List.foldl_cons]
    rcases ih (min m (cellN n a.1.toNat a.2 k)) with h | ⟨s, hs, h⟩
    · rw [h]
      rcases Nat.le_total m (cellN n a.1.toNat a.2 k) with g | g
      · left; exact Nat.min_eq_left g
      · right; exact ⟨a, List.mem_cons_self, Nat.min_eq_right g⟩
    · exact .inr ⟨s, List.mem_cons_of_mem _ hs, h⟩
theorem leastN_mem (kind : Int) (n k : Nat) : leastN kind n k = k ∨ ∃ s ∈ symsTo kind 8, leastN kind n k = cellN n s.1.toNat s.2 k := foldMin_mem n k _ k
theorem same_spread {kind : Int} {n : Nat} {col : Nat → Lit} (h : ∀ k, k < n * n → ∀ s ∈ symsTo kind 8, col (cellN n s.1.toNat s.2 k) = col k) : spreadCols kind n (colsTo col (n * n)) = colsTo col (n * n) := by
  apply list_ext (by unfold spreadCols; rw [colsTo_len, colsTo_len])
  intro k hk
  unfold spreadCols at hk ⊢
  rw [colsTo_len] at hk
  rw [colsTo_get hk, colsTo_get hk, colsTo_get (show leastN kind n k < n * n from Nat.lt_of_le_of_lt (leastL_le n k (symsTo kind 8)) hk)]
  rcases leastN_mem kind n k with e | ⟨s, hs, e⟩
  · rw [e]
  · rw [e]; exact h k hk s hs
noncomputable def colT {kind : Int} (h0 : 0 ≤ kind) (h3 : kind ≤ 3) {i n : Nat} (hi : i < 5) (h1 : 1 ≤ n) (h8 : n ≤ 8) (l : List Shd) (c : Lit) (k : Nat) : Lit :=
  if hk : k < n * n then lightOf (foldP h0 h3 (zOf i n k hi h1 h8 hk)).1.1 (foldP h0 h3 (zOf i n k hi h1 h8 hk)).1.2 l c else default
section
variable {kind : Int} (h0 : 0 ≤ kind) (h3 : kind ≤ 3) {i n : Nat} (hi : i < 5) (h1 : 1 ≤ n) (h8 : n ≤ 8) (l : List Shd) (c : Lit)
theorem colT_at {k : Nat} (hk : k < n * n) : colT h0 h3 hi h1 h8 l c k = lightOf (foldP h0 h3 (zOf i n k hi h1 h8 hk)).1.1 (foldP h0 h3 (zOf i n k hi h1 h8 hk)).1.2 l c := by
  unfold colT; rw [dif_pos hk]
theorem colT_act {k : Nat} (hk : k < n * n) {s : Int × Bool} (hs : s ∈ symsTo kind 8) : colT h0 h3 hi h1 h8 l c (cellN n s.1.toNat s.2 k) = colT h0 h3 hi h1 h8 l c k := by
  obtain ⟨t, ht, h4⟩ := symsTo_in kind s hs
  obtain ⟨s1, f⟩ := s
  simp only [] at ht
  subst ht
  have e : ((t : Int)).toNat = t := rfl
  simp only [e]
  rw [colT_at h0 h3 hi h1 h8 l c (cell_lt' h8 hk h4), colT_at h0 h3 hi h1 h8 l c hk, ← zOf_act hi h1 h8 hk h4, foldP_img h0 h3 _ hs]
theorem colT_ok (hl : ∀ s ∈ l, s.Ok) (hc : c.Ok) {k : Nat} (hk : k < n * n) : (colT h0 h3 hi h1 h8 l c k).Ok := by
  rw [colT_at h0 h3 hi h1 h8 l c hk]
  exact lightOf_ok l hl hc
noncomputable def takeCols : List Lit := colsTo (colT h0 h3 hi h1 h8 l c) (n * n)
theorem take_len : (takeCols h0 h3 hi h1 h8 l c).length = n * n := by unfold takeCols; rw [colsTo_len]
theorem take_oks (hl : ∀ s ∈ l, s.Ok) (hc : c.Ok) : Oks (takeCols h0 h3 hi h1 h8 l c) := by
  intro d hd
  unfold takeCols colsTo at hd
  obtain ⟨k, hk, rfl⟩ := List.mem_map.1 hd
  exact colT_ok h0 h3 hi h1 h8 l c hl hc (List.mem_range.1 hk)
theorem take_act {s : Int × Bool} (hs : s ∈ symsTo kind 8) : actL n s (takeCols h0 h3 hi h1 h8 l c) = takeCols h0 h3 hi h1 h8 l c :=
  same_act h0 h3 h8 (fun k hk s hs => colT_act h0 h3 hi h1 h8 l c hk hs) hs
theorem take_spread : spreadCols kind n (takeCols h0 h3 hi h1 h8 l c) = takeCols h0 h3 hi h1 h8 l c :=
  same_spread fun k hk s hs => colT_act h0 h3 hi h1 h8 l c hk hs
theorem take_syms (hl : ∀ s ∈ l, s.Ok) (hc : c.Ok) {s : Int × Bool} (hs : s ∈ symsTo kind 8) (hs8 : s ∈ symsTo 3 8) : s ∈ picSyms n (takeCols h0 h3 hi h1 h8 l c) :=
  (picSyms_iff h8 (take_len h0 h3 hi h1 h8 l c) (take_oks h0 h3 hi h1 h8 l c hl hc)).2 ⟨hs8, take_act h0 h3 hi h1 h8 l c hs⟩
end
theorem syms_all {kind : Int} (h0 : 0 ≤ kind) (h3 : kind ≤ 3) : ∀ s ∈ symsTo kind 8, s ∈ symsTo 3 8 := by
  rcases (by omega : kind = 0 ∨ kind = 1 ∨ kind = 2 ∨ kind = 3) with rfl | rfl | rfl | rfl <;> decide +kernel
theorem takes {kind : Int} (h0 : 0 ≤ kind) (h3 : kind ≤ 3) {i n : Nat} (hi : i < 5) (h1 : 1 ≤ n) (h8 : n ≤ 8) {g lc : Nat} {l : List Shd} {c : Lit} (hlen : l.length ≤ 12) (hok : ∀ s ∈ l, s.Ok) (hc : c.Ok) :
    TakeM kind g lc l n (stepB i) c (takeCols h0 h3 hi h1 h8 l c) :=
  takeM (by unfold kindB; simp; omega) h1 h8 hlen hok hc (stepIs hi) fun k hk => by
    obtain ⟨a, b⟩ := pl_bd h1 hk
    obtain ⟨t, f, F⟩ := foldP_call h0 h3 (zOf i n k hi h1 h8 hk)
    have q := (foldP h0 h3 (zOf i n k hi h1 h8 hk)).2
    refine ⟨_, _, foldCell (cellPl_yes h1 h8 hk) (joinM (prodM hi (by omega) (by omega)) (prodM hi (by omega) (by omega))) F, ?_⟩
    rw [colT_at h0 h3 hi h1 h8 l c hk]
    exact seenIsD hlen hok hc (ok_in q.1.ok) (ok_in q.2.ok)
end Go.Proofs.YtfdgijmmgllmgaaGreat
