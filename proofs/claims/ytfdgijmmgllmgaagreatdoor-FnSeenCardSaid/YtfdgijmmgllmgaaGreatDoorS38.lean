/-
  Texts Gi Hj Hk Me Hp Gz, joined.
-/
import Derived.Test.YtfdgijmmgllmgaaGreatDoorS36
import Derived.Test.YtfdgijmmgllmgaaGreatDoorS37
import Derived.Test.YtfdgijmmgllmgaaGreatDoorS10
import Derived.Test.YtfdgijmmgllmgaaGreatDoorS16
import Derived.Deep.QuietTactic
import Derived.BigQuiet
import Derived.Test.YtfdgijmmgllmgaaGreatDoorS19
import Derived.Deep.RegionHeld3
import Derived.Deep.AppendLies
import Derived.Test.YtfdgijmmgllmgaaGreatDoorS25
import Derived.Deep.RegionLaw
namespace Go.Proofs.YtfdgijmmgllmgaaGreatDoor
open Go.ChangeShapes Go.WideShapes Go.ChangeAt Go.RowKit Go.Joins
set_option linter.unusedSimpArgs false
set_option linter.unusedVariables false
set_option maxRecDepth 100000
attribute [local go_sem] store_f
open Ieee
theorem move_yes {s t : Shd} {z1 z2 : Nat} (S : ShdIs s true) (P : PtIs z1 z2 true) (M : MovesTo s z1 z2 t) (T : ShdIs t true) : MoveIs s z1 z2 t true := by
  have H := move_of true S P M T
  rwa [if_pos rfl] at H
theorem move_no {s t : Shd} {z1 z2 : Nat} (S : ShdIs s true) (P : PtIs z1 z2 true) (M : MovesTo s z1 z2 t) (T : ShdIs t false) : MoveIs s z1 z2 s false := by
  have H := move_of false S P M T
  rwa [if_neg (by decide)] at H
theorem shdYesM {s : Shd} (h : shardB s = true) : ShdIs s true := by
  have S := shdIs s
  rwa [h] at S
theorem shdNoM {s : Shd} (h : shardB s = false) : ShdIs s false := by
  have S := shdIs s
  rwa [h] at S
end Go.Proofs.YtfdgijmmgllmgaaGreatDoor
namespace Go.Proofs.YtfdgijmmgllmgaaGreatDoor
open Go.ChangeShapes Go.WideShapes Go.ChangeAt Go.RowKit Go.Joins
set_option linter.unusedSimpArgs false
set_option linter.unusedVariables false
set_option maxRecDepth 100000
attribute [local go_sem] store_f
open Ieee
def colEq (c d : Lit) : Bool := (FloatKind.f32.format.order c.r d.r == some .eq) && ((FloatKind.f32.format.order c.g d.g == some .eq) && (FloatKind.f32.format.order c.b d.b == some .eq))
def colsEq (l k : List Lit) : Bool := decide (l.length = k.length) && (List.range l.length).all fun i => colEq (l.getD i default) (k.getD i default)
theorem colsEq_len {l k : List Lit} (h : l.length ≠ k.length) : colsEq l k = false := by simp [colsEq, h]
theorem colsEq_iff {l k : List Lit} (h : l.length = k.length) : colsEq l k = true ↔ ∀ i, i < l.length → colEq (l.getD i default) (k.getD i default) = true := by
  unfold colsEq
  rw [h]
  simp [List.all_eq_true]
theorem run_eq_lit (c d : Lit) (w : World) : (Op.equalIn 10000 26 (.agg #[.float .f32 c.r, .float .f32 c.g, .float .f32 c.b]) (.agg #[.float .f32 d.r, .float .f32 d.g, .float .f32 d.b])).run Tryz.prog w = .ok (colEq c d) w := run_eq_colg c.r c.g c.b d.r d.g d.b w
structure EqCols (a : Option Addr) (ca : Nat) (l : List Lit) (b : Option Addr) (cb : Nat) (k : List Lit) (p : Bool) : Prop where
  call : ∀ w : World, LitsAt w a l → LitsAt w b k → Calls Tryz.prog 54 #[.slice a l.length ca, .slice b k.length cb] w fun e w' => e = .returned (.bool p) ∧ Below w.heap.size w w'
set_option maxHeartbeats 4000000 in
theorem eqCols_len {a : Option Addr} {ca : Nat} {l : List Lit} {b : Option Addr} {cb : Nat} {k : List Lit} (h : l.length ≠ k.length) : EqCols a ca l b cb k false := ⟨fun w _ _ => by
  have h1 : ((l.length : Int) == (k.length : Int)) = false := by simp; omega
  have h2 : decide (l.length = k.length) = false := by simp [h]
  go_enter Tryz.func54, Tryz.ntmps54
  go_wp2
  go_ret
  exact ⟨rfl, by (repeat' (first | (with_reducible exact Below.refl _ _) | (with_reducible assumption) | (with_reducible refine Below.alloc ?_ ?_ _) | (with_reducible refine Below.drew ?_) | (with_reducible refine Below.setCell ?_ ?_ _) | (with_reducible refine Below.trans ?_ (Below.mono (by assumption) ?_)) | (with_reducible exact Nat.le_refl _) | omega | (simp only [World.size_alloc, World.size_setCell, World.size_drew]; omega) | (simp; omega) | (simp; done)))⟩⟩
set_option maxHeartbeats 8000000 in
theorem eqCols_all {a : Option Addr} {ca : Nat} {l : List Lit} {b : Option Addr} {cb : Nat} {k : List Lit} (h : l.length = k.length) (hb : l.length ≤ 1000000000) : EqCols a ca l b cb k (colsEq l k) := ⟨fun w hr1 hr2 => by
  have R1 : Hid (LitsAt w a l) := hr1
  have R2 : Hid (LitsAt w b k) := hr2
  obtain ⟨N, hN⟩ : ∃ N : Nat, N = l.length := ⟨_, rfl⟩
  have HN1 : Hid (N = l.length) := hN
  have HN2 : Hid (N = k.length) := hN.trans h
  have HI : Hid (colsEq l k = true ↔ ∀ i, i < N → colEq (l.getD i default) (k.getD i default) = true) := by rw [hN]; exact colsEq_iff h
  have hNb : N ≤ 1000000000 := by omega
  rw [← hN, ← HN2.out]
  clear hr1 hr2 h hb hN
  generalize colsEq l k = p at HI ⊢
  go_enter Tryz.func54, Tryz.ntmps54
  go_wp2
  go_loopw [13] (fun i wr => ∃ j : Nat, j ≤ N ∧ i = .int .i64 j ∧ (∀ i, i < j → colEq (l.getD i default) (k.getD i default) = true) ∧ Below w.heap.size w wr) (fun i _ => N - (intOf i).toNat)
  case atStart => exact ⟨0, by omega, rfl, fun i hi => absurd hi (by omega), Below.refl _ _⟩
  case round =>
    obtain ⟨j, hj, rfl, hall, hbel⟩ := hrel
    have HB : Hid (Below w.heap.size w wr) := hbel
    have HL : Hid (∀ i, i < j → colEq (l.getD i default) (k.getD i default) = true) := hall
    have hbs := hbel.size
    clear hall
    by_cases hlt : j < N
    · rcases R1.out with hnil | ⟨b1, o1, rfl, hR1⟩
      · exfalso
        have := HN1.out
        rw [hnil] at this
        simp at this
        omega
      rcases R2.out with hnil | ⟨b2, o2, rfl, hR2⟩
      · exfalso
        have := HN2.out
        rw [hnil] at this
        simp at this
        omega
      obtain ⟨d0, d1, d2⟩ := (LitRow.below hR1 hbel) j (by have := HN1.out; omega)
      obtain ⟨e0, e1, e2⟩ := (LitRow.below hR2 hbel) j (by have := HN2.out; omega)
      have HS : Hid (colEq (l.getD j default) (k.getD j default) = true → ∀ i, i < j + 1 → colEq (l.getD i default) (k.getD i default) = true) := fun h i hi => by
        rcases (by omega : i < j ∨ i = j) with h1 | rfl
        · exact HL.out i h1
        · exact h
      have HX : Hid (colEq (l.getD j default) (k.getD j default) = false → p = false) := fun h => by
        cases hp : p
        · rfl
        · have := (HI.out.1 hp) j hlt
          rw [h] at this
          exact absurd this (by decide)
      have op := fun w => run_eq_lit (l.getD j default) (k.getD j default) w
      generalize colEq (l.getD j default) (k.getD j default) = q at op HS HX
      generalize l.getD j default = c at *
      generalize k.getD j default = d at *
      have hj0 : (0 : Int) ≤ (j : Int) := by omega
      have hj1 : (j : Int) < (N : Int) := by omega
      clear hR1 hR2
      cases q
      · have hp : p = false := HX.out rfl
        subst hp
        clear HX HS HI
        go_wp2_with fail
        go_quiet (fail)
        go_wp2
        go_ret
        exact ⟨rfl, hbel.trans (below_draws _ _ _)⟩
      · clear HX
        go_wp2_with fail
        go_quiet (fail)
        go_wp2
        have hds := hbel.size
        go_roundw
        case rel => exact ⟨j + 1, by omega, by go_num, HS.out (by simp), hbel.trans (below_draws _ _ _)⟩
        case measure => simp [intOf]; omega
    · have hjm : j = N := by omega
      subst hjm
      have hp : p = true := HI.out.2 HL.out
      subst hp
      go_wp2
      go_ret
      exact ⟨rfl, hbel⟩⟩
theorem eqCols {a : Option Addr} {ca : Nat} {l : List Lit} {b : Option Addr} {cb : Nat} {k : List Lit} (hb : l.length ≤ 1000000000) : EqCols a ca l b cb k (colsEq l k) := by
  by_cases h : l.length = k.length
  · exact eqCols_all h hb
  · rw [colsEq_len h]
    exact eqCols_len h
structure SameM (n : Int) (a : Option Addr) (ca : Nat) (l : List Lit) (m : Int) (b : Option Addr) (cb : Nat) (k : List Lit) (p : Bool) : Prop where
  call : ∀ w : World, LitsAt w a l → LitsAt w b k → Calls Tryz.prog 21 #[.agg #[.int .i64 n, .slice a l.length ca], .agg #[.int .i64 m, .slice b k.length cb]] w fun e w' => e = .returned (.bool p) ∧ Below w.heap.size w w'
set_option maxHeartbeats 4000000 in
theorem sameM {n : Int} {a : Option Addr} {ca : Nat} {l : List Lit} {m : Int} {b : Option Addr} {cb : Nat} {k : List Lit} (hb : l.length ≤ 1000000000) : SameM n a ca l m b cb k (n == m && colsEq l k) := ⟨fun w hr1 hr2 => by
  have E := eqCols (a := a) (ca := ca) (l := l) (b := b) (cb := cb) (k := k) hb
  generalize colsEq l k = p at E ⊢
  have R1 : Hid (LitsAt w a l) := hr1
  have R2 : Hid (LitsAt w b k) := hr2
  clear hr1 hr2 hb
  by_cases h : n = m
  · subst h
    have e : (n == n && p) = p := by simp
    rw [e]
    go_enter Tryz.func21, Tryz.ntmps21
    go_wp2_with fail
    refine (E.call _ ((R1.out.alloc).alloc) ((R2.out.alloc).alloc)).mono ?_
    rintro e w2 ⟨rfl, hb⟩
    go_wp2
    go_ret
    exact ⟨rfl, by (repeat' (first | (with_reducible exact Below.refl _ _) | (with_reducible assumption) | (with_reducible refine Below.alloc ?_ ?_ _) | (with_reducible refine Below.drew ?_) | (with_reducible refine Below.setCell ?_ ?_ _) | (with_reducible refine Below.trans ?_ (Below.mono (by assumption) ?_)) | (with_reducible exact Nat.le_refl _) | omega | (simp only [World.size_alloc, World.size_setCell, World.size_drew]; omega) | (simp; omega) | (simp; done)))⟩
  · have hne : (n == m) = false := by simpa using h
    have e : (n == m && p) = false := by simp [h]
    rw [e]
    go_enter Tryz.func21, Tryz.ntmps21
    go_wp2
    go_ret
    exact ⟨rfl, by (repeat' (first | (with_reducible exact Below.refl _ _) | (with_reducible assumption) | (with_reducible refine Below.alloc ?_ ?_ _) | (with_reducible refine Below.drew ?_) | (with_reducible refine Below.setCell ?_ ?_ _) | (with_reducible refine Below.trans ?_ (Below.mono (by assumption) ?_)) | (with_reducible exact Nat.le_refl _) | omega | (simp only [World.size_alloc, World.size_setCell, World.size_drew]; omega) | (simp; omega) | (simp; done)))⟩⟩
end Go.Proofs.YtfdgijmmgllmgaaGreatDoor
namespace Go.Proofs.YtfdgijmmgllmgaaGreatDoor
open Go.ChangeShapes Go.WideShapes Go.ChangeAt Go.RowKit Go.Joins
set_option linter.unusedSimpArgs false
set_option linter.unusedVariables false
set_option maxRecDepth 100000
attribute [local go_sem] store_f
open Ieee
def keepsB (n : Nat) (l : List Lit) (p : Int × Bool) : Bool := colsEq (actCols n p.1.toNat p.2 l) l
def picSyms (n : Nat) (l : List Lit) : List (Int × Bool) := (symsTo 3 8).filter (keepsB n l)
theorem filter_snoc {α : Type} (P : α → Bool) (z : α) {l : List α} {j : Nat} (h : j < l.length) : (l.take (j + 1)).filter P = (l.take j).filter P ++ (if P (l.getD j z) then [l.getD j z] else []) := by
  have e : l.getD j z = l[j] := by simp [List.getD, h]
  rw [List.take_succ_eq_append_getElem h, List.filter_append, e]
  cases hp : P l[j] <;> simp [hp]
theorem SymRow.grownBy {W w1 : World} {g : Nat} {r : Option Nat} {l : List (Int × Bool)} (h : SymRow W g l) (hg : W.grownBy w1 r) (hne : r ≠ some g) : SymRow w1 g l := fun k hk => by
  obtain ⟨h0, h1⟩ := h k hk
  have hl := cell_lt h0
  have e : ∀ i, w1.cell? ⟨g, i, Option.none⟩ = W.cell? ⟨g, i, Option.none⟩ := fun i => World.cell?_of_block (hg.block g hl (fun e => hne e.symm))
  rw [e, e]
  exact ⟨h0, h1⟩
structure SymsMade (B : Nat) (e : Ending) (w' : World) (l : List (Int × Bool)) (g cap : Nat) : Prop where
  ret : e = .returned (.slice (some ⟨g, 0, Option.none⟩) l.length cap)
  own : w'.ownsRow B 52 2 (.slice (some ⟨g, 0, Option.none⟩) l.length cap) l.length (symCells l)
structure PicSymsM (n : Int) (a : Option Addr) (cap : Nat) (l : List Lit) (m : List (Int × Bool)) : Prop where
  call : ∀ w : World, LitsAt w a l → Calls Tryz.prog 8 #[.agg #[.int .i64 n, .slice a l.length cap]] w fun e w' => (∃ g cp, SymsMade w.heap.size e w' m g cp) ∧ Below w.heap.size w w'
structure KeepM (n : Nat) (a : Option Addr) (cap : Nat) (l : List Lit) (t : Int) (f : Bool) (m : List Lit) (q : Bool) : Prop where
  act : ActPic t f n a cap l m
  same : ∀ g cp, SameM n (some ⟨g, 0, Option.none⟩) cp m n a cap l q
set_option maxHeartbeats 16000000 in
theorem picSymsM {n : Nat} {a : Option Addr} {cap : Nat} {l : List Lit} (hp : picB n l = true) : PicSymsM n a cap l (picSyms n l) := ⟨fun w hrow => by
  have IP := picIs n a cap l
  rw [hp] at IP
  have HK : Hid (∀ j, j < (symsTo 3 8).length → ∃ m, KeepM n a cap l ((symsTo 3 8).getD j (0, false)).1 ((symsTo 3 8).getD j (0, false)).2 m (keepsB n l ((symsTo 3 8).getD j (0, false)))) := fun j hj => by
    obtain ⟨t, ht, h4⟩ := symsTo_in 3 ((symsTo 3 8).getD j (0, false)) (by simp [List.getD, hj])
    have e : keepsB n l ((symsTo 3 8).getD j (0, false)) = colsEq (actCols n t ((symsTo 3 8).getD j (0, false)).2 l) l := by
      unfold keepsB; rw [ht]; rfl
    rw [e, ht]
    refine ⟨_, actPic _ h4 hp, fun g cp => ?_⟩
    obtain ⟨_, _, _, h8, _, _⟩ := pic_cases hp
    have hl : (actCols n t ((symsTo 3 8).getD j (0, false)).2 l).length ≤ 1000000000 := by
      obtain ⟨m, hm, h1, h8, _, _⟩ := pic_cases hp
      obtain rfl : n = m := by omega
      have : n * n ≤ 8 * 8 := Nat.mul_le_mul h8 h8
      unfold actCols
      rw [colsTo_len]
      omega
    have h := sameM (n := n) (a := some ⟨g, 0, Option.none⟩) (ca := cp) (m := n) (b := a) (cb := cap) (k := l) hl
    simpa using h
  have HY : Hid (∀ j, j < (symsTo 3 8).length → ((symsTo 3 8).take (j + 1)).filter (keepsB n l) = ((symsTo 3 8).take j).filter (keepsB n l) ++ (if keepsB n l ((symsTo 3 8).getD j (0, false)) then [(symsTo 3 8).getD j (0, false)] else [])) := fun j hj => filter_snoc _ _ hj
  have HZ : Hid (((symsTo 3 8).take (symsTo 3 8).length).filter (keepsB n l) = picSyms n l) := by rw [List.take_length]; rfl
  have hl8 := symsTo_le 3 8
  have HLE : Hid (∀ j, (((symsTo 3 8).take j).filter (keepsB n l)).length ≤ 8) := fun j => by
    have h1 := List.length_filter_le (keepsB n l) ((symsTo 3 8).take j)
    have h2 := List.length_take_le' j (symsTo 3 8)
    omega
  have SY := fun w => symsOf_i 3 w
  have HR : Hid (LitsAt w a l) := hrow
  generalize hM : (fun j : Nat => ((symsTo 3 8).take j).filter (keepsB n l)) = M
  have HY' : Hid (∀ j, j < (symsTo 3 8).length → M (j + 1) = M j ++ (if keepsB n l ((symsTo 3 8).getD j (0, false)) then [(symsTo 3 8).getD j (0, false)] else [])) := by rw [← hM]; exact HY.out
  have HZ' : M (symsTo 3 8).length = picSyms n l := by rw [← hM]; exact HZ.out
  have H0 : Hid (M 0 = []) := by rw [← hM]; rfl
  have HLE' : Hid (∀ j, (M j).length ≤ 8) := by rw [← hM]; exact HLE.out
  clear hM HY HZ HLE hrow hp
  generalize picSyms n l = z at HZ' ⊢
  generalize hPB : keepsB n l = PB at *
  generalize symsTo 3 8 = s at *
  subst HZ'
  clear hPB
  obtain ⟨i0, hi, hz0, hz1, hz2⟩ := info_parts infoSym
  go_enter Tryz.func8, Tryz.ntmps8
  go_wp2_with fail
  generalize hW : (w.alloc (.cells #[.int .i64 n, .slice a l.length cap] 43)).alloc (.cells #[] 52) = X
  have P0 : Hid (PicBox X w.heap.size n a cap l) := by rw [← hW]; exact ⟨(Blk.new _ _ _).alloc, (HR.out.alloc).alloc⟩
  have O0 : Hid (X.ownsRow (w.heap.size + 1) 52 2 (.slice (some ⟨w.heap.size + 1, 0, Option.none⟩) 0 0) 0 []) := by
    rw [← hW]
    have h := World.ownsRow_lit (w.alloc (.cells #[.int .i64 n, .slice a l.length cap] 43)) (base := w.heap.size + 1) (e := 52) (size := 2) #[] 0 (by simp) (by unfold maxLen; omega) rfl
    simp only [World.size_alloc] at h
    exact h
  have hB : Below w.heap.size w X := by rw [← hW]; (repeat' (first | (with_reducible exact Below.refl _ _) | (with_reducible assumption) | (with_reducible refine Below.alloc ?_ ?_ _) | (with_reducible refine Below.drew ?_) | (with_reducible refine Below.setCell ?_ ?_ _) | (with_reducible refine Below.trans ?_ (Below.mono (by assumption) ?_)) | (with_reducible exact Nat.le_refl _) | omega | (simp only [World.size_alloc, World.size_setCell, World.size_drew]; omega) | (simp; omega) | (simp; done)))
  have HB : Hid (Below w.heap.size w X) := hB
  have hs : X.heap.size = w.heap.size + 2 := by rw [← hW]; simp
  clear hW hB
  refine (IP.call _ P0.out.row).mono ?_
  rintro e w1 ⟨rfl, hb⟩
  have P1 : Hid (PicBox w1 w.heap.size n a cap l) := P0.out.below hb
  have O1 : Hid (w1.ownsRow (w.heap.size + 1) 52 2 (.slice (some ⟨w.heap.size + 1, 0, Option.none⟩) 0 0) 0 []) := ownsBelow hb O0.out
  have HB1 : Hid (Below w.heap.size w w1) := HB.out.trans (hb.mono (by omega))
  have hs1 : w.heap.size + 2 ≤ w1.heap.size := by have := hb.size; omega
  clear hb P0 O0 HB hs IP
  go_wp2_with fail
  refine (SY _).mono ?_
  rintro e w2 ⟨gs, cs, rfl, own, hb⟩
  have HS : Hid (SymRow w2 gs s) := symRow_of own rfl
  have P2 : Hid (PicBox w2 w.heap.size n a cap l) := P1.out.below hb
  have O2 : Hid (w2.ownsRow (w.heap.size + 1) 52 2 (.slice (some ⟨w.heap.size + 1, 0, Option.none⟩) 0 0) 0 []) := ownsBelow hb O1.out
  have HB2 : Hid (Below w.heap.size w w2) := HB1.out.trans (hb.mono (by omega))
  have hs2 : w.heap.size + 2 ≤ w2.heap.size := by have := hb.size; omega
  have hgl := (own.lt _ rfl)
  dsimp only at hgl
  have hg0 : w.heap.size + 2 ≤ gs := by omega
  have hg1 : gs < w2.heap.size := by omega
  clear hb own P1 O1 HB1 hs1 SY hgl
  go_wp2_with fail
  go_loopw [3, 13] (fun v i wr => ∃ j : Nat, j ≤ s.length ∧ i = .int .i64 j ∧ (wr.ownsRow (w.heap.size + 1) 52 2 v (M j).length (symCells (M j)) ∧ v ≠ .slice Option.none 0 0 ∧ v.ownBlock ≠ some gs) ∧ SymRow wr gs s ∧ PicBox wr w.heap.size n a cap l ∧ Below w.heap.size w wr ∧ w2.heap.size ≤ wr.heap.size)
    (fun _ i _ => s.length - (intOf i).toNat)
  case atStart => exact ⟨0, by omega, rfl, ⟨by rw [H0.out]; exact O2.out, by simp, by simp [Value.ownBlock]; omega⟩, HS.out, P2.out, HB2.out, Nat.le_refl _⟩
  case round =>
    obtain ⟨j, hj, rfl, ⟨hown, hnn, hng⟩, hS, hP, hbel, hsz⟩ := hrel
    have HNN : Hid (u3 ≠ .slice Option.none 0 0) := hnn
    have HNG : Hid (u3.ownBlock ≠ some gs) := hng
    have HO : Hid (wr.ownsRow (w.heap.size + 1) 52 2 u3 (M j).length (symCells (M j))) := hown
    have HSR : Hid (SymRow wr gs s) := hS
    have HPR : Hid (PicBox wr w.heap.size n a cap l) := hP
    have HBR : Hid (Below w.heap.size w wr) := hbel
    have hml := HLE'.out j
    clear hown hnn hng hS hP hbel P2 O2 HB2 HS
    by_cases hlt : j < s.length
    · obtain ⟨m, K⟩ := HK.out j hlt
      have HYJ := HY'.out j hlt
      obtain ⟨c0, c1⟩ := HSR.out j hlt
      generalize s.getD j (0, false) = p at K HYJ c0 c1
      generalize PB p = q at K HYJ
      obtain ⟨t, f⟩ := p
      simp only [] at c0 c1 K
      have HYH : Hid (M (j + 1) = M j ++ (if q then [(t, f)] else [])) := HYJ
      clear HYJ
      go_wp2_with fail
      generalize hV : wr.alloc (.cells #[.int .i64 t, .bool f] 52) = V
      have N0 : Blk V wr.heap.size #[.int .i64 t, .bool f] 52 := by rw [← hV]; exact Blk.new _ _ _
      have HOV : Hid (V.ownsRow (w.heap.size + 1) 52 2 u3 (M j).length (symCells (M j))) := by rw [← hV]; exact World.ownsRow.alloc HO.out _
      have HSV : Hid (SymRow V gs s) := by rw [← hV]; exact HSR.out.alloc
      have HPV : Hid (PicBox V w.heap.size n a cap l) := by rw [← hV]; exact ⟨HPR.out.blk.alloc, HPR.out.row.alloc⟩
      have HBV : Hid (Below w.heap.size w V) := by rw [← hV]; exact HBR.out.alloc (by omega) _
      have hVs : V.heap.size = wr.heap.size + 1 := by rw [← hV]; simp
      have hBV : Below V.heap.size V V := Below.refl _ _
      have n0 := Blk.cellAt (i := 0) N0 rfl
      have n1 := Blk.cellAt (i := 1) N0 rfl
      have p0 := Blk.cellAt (i := 0) HPV.out.blk rfl
      have p1 := Blk.cellAt (i := 1) HPV.out.blk rfl
      simp only [List.getElem_toArray, List.getElem_cons_zero, List.getElem_cons_succ] at n0 n1 p0 p1
      have hRV := HPV.out.row
      have lN := N0.lt
      have lP : w.heap.size < V.heap.size := by omega
      have lV := Nat.le_refl V.heap.size
      clear hV c0 c1 HO HSR HPR HBR N0
      generalize wr.heap.size = ng at *
      go_region_held3 (fun wx => LitsAt wx a l ∧ Below V.heap.size V wx ∧ V.heap.size ≤ wx.heap.size ∧ ng < wx.heap.size ∧ w.heap.size < wx.heap.size ∧ wx.cell? ⟨ng, 0, Option.none⟩ = some (.int .i64 (t)) ∧ wx.cell? ⟨ng, 1, Option.none⟩ = some (.bool (f)) ∧ wx.cell? ⟨w.heap.size, 0, Option.none⟩ = some (.int .i64 n) ∧ wx.cell? ⟨w.heap.size, 1, Option.none⟩ = some (.slice a l.length cap))
        (((repeat' apply And.intro) <;> first | (with_reducible assumption) | ((repeat (first | (with_reducible assumption) | (with_reducible exact And.left (by assumption)) | (with_reducible exact And.left (And.right (by assumption))) | (with_reducible exact And.left (And.right (And.right (by assumption)))) | (with_reducible refine LitsAt.drew ?_) | (with_reducible refine LitsAt.below ?_ hb) | (with_reducible refine LitsAt.alloc ?_))); done) | (((repeat (first | (with_reducible assumption) | (with_reducible exact cNewAt (by first | rfl | (simp only [World.size_alloc, World.size_setCell, World.size_drew]; done) | omega) rfl) | (with_reducible exact sNewAt (by first | rfl | (simp only [World.size_alloc, World.size_setCell, World.size_drew]; done) | omega) rfl) | (simp; done) | (with_reducible apply cAlloc) | (with_reducible apply cDrew) | (with_reducible refine cSet (by dsimp only; omega) ?_) | (with_reducible refine cSetOff (by dsimp only; omega) ?_) | (with_reducible apply cSame) | (with_reducible refine cBelow (by assumption) ?_) | (with_reducible apply sAlloc) | (with_reducible apply sDrew) | (with_reducible refine sBelow (by assumption) ?_) | (with_reducible refine sSet (by dsimp only; omega) ?_))); first | done | (simp [*]; done)); done) | (simp only [World.size_alloc, World.size_setCell, World.size_drew]; omega) | omega | (go_keep; done) | ((repeat' (first | (with_reducible exact Below.refl _ _) | (with_reducible assumption) | (with_reducible refine Below.alloc ?_ ?_ _) | (with_reducible refine Below.drew ?_) | (with_reducible refine Below.setCell ?_ ?_ _) | (with_reducible refine Below.trans ?_ (Below.mono (by assumption) ?_)) | (with_reducible exact Nat.le_refl _) | omega | (simp only [World.size_alloc, World.size_setCell, World.size_drew]; omega) | (simp; omega) | (simp; done))); done)))
        (first | (go_at_call 22; (with_reducible refine (K.act.call _ ?_).mono ?_); (next => exact And.left (by assumption)); rintro e w4 ⟨⟨g, cp, ⟨rfl, hown4⟩⟩, hb⟩; have hLm : LitsAt w4 (some ⟨g, 0, Option.none⟩) m := Or.inr ⟨g, 0, rfl, litRow_of hown4 rfl⟩; have hbs := hb.size; try simp only [World.size_alloc, World.size_setCell, World.size_drew] at hbs) | (go_at_call 21; (with_reducible refine ((K.same _ _).call _ ?_ ?_).mono ?_); (next => exact hLm); (next => exact And.left (by assumption)); rintro e w5 ⟨rfl, hb⟩; have hbs := hb.size; try simp only [World.size_alloc, World.size_setCell, World.size_drew] at hbs))
      rename_i hHeld
      have hbV : Below V.heap.size V w5 := hHeld.2.1
      have q0 := hHeld.2.2.2.2.2.1
      have q1 := hHeld.2.2.2.2.2.2.1
      have lq := hHeld.2.2.2.1
      have HO5 : Hid (w5.ownsRow (w.heap.size + 1) 52 2 u3 (M j).length (symCells (M j))) := ownsBelow hbV HOV.out
      have HS5 : Hid (SymRow w5 gs s) := HSV.out.below hbV
      have HP5 : Hid (PicBox w5 w.heap.size n a cap l) := HPV.out.below hbV
      have HB5 : Hid (Below w.heap.size w w5) := HBV.out.trans (hbV.mono (by omega))
      have hs5 : w2.heap.size ≤ w5.heap.size := by have := hbV.size; omega
      clear hHeld hbV n0 n1 p0 p1 hRV hBV HOV HSV HPV HBV hLm hown4
      cases q
      · go_wp2
        go_roundw
        case rel => exact ⟨j + 1, by omega, by go_num, ⟨by rw [HYH.out]; simpa using HO5.out, HNN.out, HNG.out⟩, HS5.out, HP5.out, HB5.out, hs5⟩
        case measure => simp [intOf]; omega
      · go_wp2_with (at_builtin; go_loud (refine wpList_append_lies _ rfl _ _ 47 rfl (w.heap.size + 1) 52 i0 (.agg #[.int .i64 0, .bool false]) 2 16 Tryz.underlying47 hi hz0 hz1 hz2 rfl (by decide) u3 (M j).length (symCells (M j)) rfl (World.ownsRow.alloc HO5.out _) ⟨w5.heap.size, 0, Option.none⟩ 1 1 [.int .i64 t, .bool f] rfl rfl (World.news_of_block (cs := #[.int .i64 t, .bool f]) (t := 52) (fr := (0, 0)) (heap_alloc_new w5 _)) (by simp [Value.oneCell']) (by omega) (by unfold maxLen; omega) (by omega) (by simp; omega) (w5.heap.size + 1) (by simp) ?_))
        intro gg cap' w6 hown6 hgrow hat hlt6
        have HNG6 : Hid (gg ≠ gs) := by
          show gg ≠ gs
          rcases hat with h | h
          · intro e
            subst e
            exact HNG.out h
          · omega
        have HS6 : Hid (SymRow w6 gs s) := SymRow.grownBy (HS5.out.alloc) hgrow HNG.out
        have hne : u3.ownBlock ≠ some w.heap.size := fun e => by
          have := (HO5.out.lt _ e).1
          omega
        have HB6 : Hid (Below w.heap.size w w6) := Below.grown (HB5.out.alloc (by omega) _) hgrow (by simp; omega) (fun q hq => by have := (HO5.out.lt q hq).1; omega)
        have HP6 : Hid (PicBox w6 w.heap.size n a cap l) := ⟨(hgrow.block w.heap.size (by simp; omega) (fun e => hne e.symm)).trans (Blk.alloc HP5.out.blk), HR.out.below HB6.out⟩
        have HO6 : Hid (w6.ownsRow (w.heap.size + 1) 52 2 (.slice (some ⟨gg, 0, Option.none⟩) ((M j).length + 1) cap') ((M j).length + 1) (symCells (M j) ++ [.int .i64 t, .bool f])) := hown6
        have hs6 : w2.heap.size ≤ w6.heap.size := by have := hgrow.size; simp at this; omega
        clear hown6 hgrow hat hne q0 q1
        go_wp2
        go_roundw
        case rel => exact ⟨j + 1, by omega, by go_num, ⟨by rw [HYH.out]; simpa [symCells_snoc] using HO6.out, by simp, by simpa [Value.ownBlock] using HNG6.out⟩, HS6.out, HP6.out, HB6.out, hs6⟩
        case measure => simp [intOf]; omega
    · have hjm : j = s.length := by omega
      subst hjm
      rcases ownsRow_forms HO.out with ⟨e, _⟩ | ⟨g, cap', rfl⟩
      · exact absurd e HNN.out
      go_wp2
      go_ret
      exact ⟨⟨g, cap', rfl, ownsLess HO.out (by omega)⟩, HBR.out⟩⟩
end Go.Proofs.YtfdgijmmgllmgaaGreatDoor
namespace Go.Proofs.YtfdgijmmgllmgaaGreatDoor
open Go.ChangeShapes Go.WideShapes Go.ChangeAt Go.RowKit Go.Joins
set_option linter.unusedSimpArgs false
set_option linter.unusedVariables false
set_option maxRecDepth 100000
attribute [local go_sem] store_f
open Ieee
def Oks (l : List Lit) : Prop := ∀ c ∈ l, c.Ok
theorem isB_ok {c : Lit} (h : c.Ok) : c.isB = true := by
  have e1 := part_share (x := c.r) (.inl h.r)
  have e2 := part_share (x := c.g) (.inl h.g)
  have e3 := part_share (x := c.b) (.inl h.b)
  unfold Lit.isB colB
  rw [e1, e2, e3]; rfl
theorem picB_ok {n : Nat} {l : List Lit} (h1 : 1 ≤ n) (h8 : n ≤ 8) (hl : l.length = n * n) (hok : Oks l) : picB n l = true := by
  unfold picB
  have e1 : sizeB (n : Int) = true := by unfold sizeB; simp; omega
  have e2 : ((l.length : Nat) : Int) = (n : Int) * n := by rw [hl]; simp
  have e3 : l.all Lit.isB = true := List.all_eq_true.2 fun c hc => isB_ok (hok c hc)
  rw [e1, e3, e2]; simp
theorem owns_room {W : World} {B n g c size : Nat} {t : TypeId} {xs : List Value} (h : W.ownsRow B t size (.slice (some ⟨g, 0, Option.none⟩) n c) n xs) : n ≤ c := by
  rcases h.2 with ⟨e, _⟩ | ⟨g', cap, cur, e, _, _, hle, _⟩
  · simp at e
  · simp only [Value.slice.injEq] at e
    omega
end Go.Proofs.YtfdgijmmgllmgaaGreatDoor
namespace Go.Proofs.YtfdgijmmgllmgaaGreatDoor
open Go.ChangeShapes Go.WideShapes Go.ChangeAt Go.RowKit Go.Joins
set_option linter.unusedSimpArgs false
set_option linter.unusedVariables false
set_option maxRecDepth 100000
attribute [local go_sem] store_f
open Ieee
theorem val_inj {x y : Nat} (hx : x < 2147483648) (hy : y < 2147483648) (h : valOf F32 x = valOf F32 y) : x = y := by
  rw [val_of_lt hx, val_of_lt hy] at h
  rcases Nat.lt_trichotomy x y with g | g | g
  · have := magOf_lt F32 g; omega
  · exact g
  · have := magOf_lt F32 g; omega
theorem part_eq {x y : Nat} (hx : x ≤ 1065353216) (hy : y ≤ 1065353216) : (FloatKind.f32.format.order x y == some .eq) = decide (x = y) := by
  show (F32.order x y == some .eq) = _
  rw [order_fin F32 (fin_of_lt (by omega)) (fin_of_lt (by omega)), cmp_eq, decide_eq_decide]
  exact ⟨fun h => val_inj (by omega) (by omega) h, fun h => by rw [h]⟩
theorem colEq_ok {c d : Lit} (hc : c.Ok) (hd : d.Ok) : colEq c d = true ↔ c = d := by
  unfold colEq
  rw [part_eq hc.r hd.r, part_eq hc.g hd.g, part_eq hc.b hd.b]
  simp only [Bool.and_eq_true, decide_eq_true_eq]
  constructor
  · rintro ⟨h1, h2, h3⟩
    cases c; cases d
    simp only [] at h1 h2 h3
    rw [h1, h2, h3]
  · rintro rfl; exact ⟨rfl, rfl, rfl⟩
theorem getD_memL {l : List Lit} {i : Nat} (h : i < l.length) : l.getD i default ∈ l := by simp [List.getD, h]
theorem list_ext {l k : List Lit} (h : l.length = k.length) (hi : ∀ i, i < l.length → l.getD i default = k.getD i default) : l = k := by
  apply List.ext_getElem h
  intro i h1 h2
  have := hi i h1
  simpa [List.getD, h1, h2] using this
theorem colsEq_ok {l k : List Lit} (hl : Oks l) (hk : Oks k) (h : l.length = k.length) : colsEq l k = true ↔ l = k := by
  rw [colsEq_iff h]
  constructor
  · intro hi
    exact list_ext h fun i h1 => (colEq_ok (hl _ (getD_memL h1)) (hk _ (getD_memL (by omega)))).1 (hi i h1)
  · rintro rfl i h1
    exact (colEq_ok (hl _ (getD_memL h1)) (hl _ (getD_memL h1))).2 rfl
theorem colsTo_get {col : Nat → Lit} {N k : Nat} (h : k < N) : (colsTo col N).getD k default = col k := by
  unfold colsTo
  simp [List.getD, h]
theorem act_len (n t : Nat) (f : Bool) (l : List Lit) : (actCols n t f l).length = n * n := by unfold actCols; rw [colsTo_len]
theorem act_get {n t k : Nat} {f : Bool} {l : List Lit} (h : k < n * n) : (actCols n t f l).getD k default = l.getD (cellN n (backT t f).toNat (backF t f) k) default := by
  unfold actCols; rw [colsTo_get h]
theorem act_oks {n t : Nat} {f : Bool} {l : List Lit} (h8 : n ≤ 8) (ht : t < 4) (hl : l.length = n * n) (hok : Oks l) : Oks (actCols n t f l) := by
  intro c hc
  unfold actCols colsTo at hc
  obtain ⟨k, hk, rfl⟩ := List.mem_map.1 hc
  have hJ := back_in ⟨t, ht⟩ f
  dsimp only at hJ
  exact hok _ (getD_memL (by rw [hl]; exact cell_lt' h8 (List.mem_range.1 hk) hJ.2))
theorem act_zero {n : Nat} {l : List Lit} (h8 : n ≤ 8) (hl : l.length = n * n) : actCols n 0 false l = l := by
  apply list_ext (by rw [act_len, hl])
  intro k hk
  rw [act_len] at hk
  have e1 : (backT ((0 : Nat) : Int) false).toNat = 0 := rfl
  have e2 : backF ((0 : Nat) : Int) false = false := rfl
  rw [act_get hk, e1, e2, cell_none h8 hk]
def actL (n : Nat) (p : Int × Bool) (l : List Lit) : List Lit := actCols n p.1.toNat p.2 l
theorem all_in : ∀ p ∈ symsTo 3 8, ∃ t : Nat, p.1 = t ∧ t < 4 := symsTo_in 3
theorem all_zero : ((0, false) : Int × Bool) ∈ symsTo 3 8 := by decide +kernel
theorem actL_len (n : Nat) (p : Int × Bool) (l : List Lit) : (actL n p l).length = n * n := act_len _ _ _ _
theorem actL_oks {n : Nat} {p : Int × Bool} {l : List Lit} (h8 : n ≤ 8) (hp : p ∈ symsTo 3 8) (hl : l.length = n * n) (hok : Oks l) : Oks (actL n p l) := by
  obtain ⟨t, e1, h1⟩ := all_in p hp
  unfold actL
  rw [e1]
  exact act_oks h8 h1 hl hok
theorem actL_zero {n : Nat} {l : List Lit} (h8 : n ≤ 8) (hl : l.length = n * n) : actL n (0, false) l = l := act_zero h8 hl
theorem keeps_iff {n : Nat} {p : Int × Bool} {l : List Lit} (h8 : n ≤ 8) (hp : p ∈ symsTo 3 8) (hl : l.length = n * n) (hok : Oks l) : keepsB n l p = true ↔ actL n p l = l :=
  colsEq_ok (actL_oks h8 hp hl hok) hok (by rw [act_len, hl])
theorem picSyms_iff {n : Nat} {p : Int × Bool} {l : List Lit} (h8 : n ≤ 8) (hl : l.length = n * n) (hok : Oks l) : p ∈ picSyms n l ↔ p ∈ symsTo 3 8 ∧ actL n p l = l := by
  unfold picSyms
  rw [List.mem_filter]
  constructor
  · rintro ⟨h1, h2⟩; exact ⟨h1, (keeps_iff h8 h1 hl hok).1 h2⟩
  · rintro ⟨h1, h2⟩; exact ⟨h1, (keeps_iff h8 h1 hl hok).2 h2⟩
theorem picSyms_zero {n : Nat} {l : List Lit} (h8 : n ≤ 8) (hl : l.length = n * n) (hok : Oks l) : ((0, false) : Int × Bool) ∈ picSyms n l :=
  (picSyms_iff h8 hl hok).2 ⟨all_zero, actL_zero h8 hl⟩
theorem picSyms_le (n : Nat) (l : List Lit) : (picSyms n l).length ≤ 8 := by
  have h1 := List.length_filter_le (keepsB n l) (symsTo 3 8)
  have h2 := symsTo_le 3 8
  unfold picSyms
  omega
end Go.Proofs.YtfdgijmmgllmgaaGreatDoor
namespace Go.Proofs.YtfdgijmmgllmgaaGreatDoor
open Go.ChangeShapes Go.WideShapes Go.ChangeAt Go.RowKit Go.Joins
set_option linter.unusedSimpArgs false
set_option linter.unusedVariables false
set_option maxRecDepth 100000
attribute [local go_sem] store_f
open Ieee
attribute [local go_sem] store_c
set_option maxHeartbeats 4000000 in
theorem joinD_of {a1 a2 b1 b2 x y : Nat} (X : Op2 115 a1 b1 x) (Y : Op2 115 a2 b2 y) : Join 115 a1 a2 b1 b2 x y := ⟨fun w => by
  go_enter Tryz.func84, Tryz.ntmps84
  go_wp2_with (go_at_call 115; (first | (with_reducible refine (X.call _).mono ?_) | (with_reducible refine (Y.call _).mono ?_)); rintro e w1 ⟨rfl, rfl⟩)
  go_ret
  exact ⟨rfl, rfl⟩⟩
theorem sideIsD {a1 a2 b1 b2 p1 p2 : Nat} (ha1 : inB a1 = true) (ha2 : inB a2 = true) (hb1 : inB b1 = true) (hb2 : inB b2 = true) (hp1 : inB p1 = true) (hp2 : inB p2 = true) :
    SideIs a1 a2 b1 b2 p1 p2 (sideW a1 a2 b1 b2 p1 p2) := by
  have f1 := inB_fin ha1
  have f2 := inB_fin ha2
  have f3 := inB_fin hb1
  have f4 := inB_fin hb2
  have f5 := inB_fin hp1
  have f6 := inB_fin hp2
  exact side_of (ptYes ha1 ha2) (ptYes hb1 hb2) (ptYes hp1 hp2) (joinD_of (diff2 f3 f1) (diff2 f4 f2)) (joinD_of (diff2 f5 f1) (diff2 f6 f2))
    (prod2 (clT_cl _).fin (clT_cl _).fin) (prod2 (clT_cl _).fin (clT_cl _).fin) (diff2 (clM_cl _).fin (clM_cl _).fin)
theorem inIsD {s : Shd} {p1 p2 : Nat} (hs : shardB s = true) (h1 : inB p1 = true) (h2 : inB p2 = true) : InIs s p1 p2 (inSh s p1 p2) := by
  have hs' := hs
  unfold shardB ptB at hs'
  simp only [Bool.and_eq_true] at hs'
  obtain ⟨⟨⟨⟨⟨a1, a2⟩, b1, b2⟩, c1, c2⟩, _⟩, _⟩ := hs'
  have X := sideIsD a1 a2 b1 b2 h1 h2
  have Y := sideIsD b1 b2 c1 c2 h1 h2
  have Z := sideIsD c1 c2 a1 a2 h1 h2
  have D := sides_of ⟨fun w => cornersOf_i s w⟩ X Y Z
  have S := shdIs s
  rw [hs] at S
  have fx := (side_cl s.a1 s.a2 s.b1 s.b2 p1 p2).fin
  have fy := (side_cl s.b1 s.b2 s.c1 s.c2 p1 p2).fin
  have fz := (side_cl s.c1 s.c2 s.a1 s.a2 p1 p2).fin
  unfold inSh
  generalize sideW s.a1 s.a2 s.b1 s.b2 p1 p2 = x at *
  generalize sideW s.b1 s.b2 s.c1 s.c2 p1 p2 = y at *
  generalize sideW s.c1 s.c2 s.a1 s.a2 p1 p2 = z at *
  obtain ⟨m, m1, m2, _, m3, m4, m5⟩ := min_val fx fy
  obtain ⟨n, n1, n2, _, n3, n4, n5⟩ := min_val m2 fz
  obtain ⟨u, u1, u2, _, u3, u4, u5⟩ := max_val fx fy
  obtain ⟨v, v1, v2, _, v3, v4, v5⟩ := max_val u2 fz
  have H := in_of S (ptYes h1 h2) D ⟨fun w g cap R => slMin ⟨m1⟩ ⟨n1⟩ w g cap R⟩ ⟨fun w g cap R => slMax ⟨u1⟩ ⟨v1⟩ w g cap R⟩ rfl rfl
  rw [order_zero n2, order_zero v2, cmp_eq, cmp_eq, cmp_lt, cmp_gt] at H
  have e : (decide (0 < valOf F32 n) || decide (valOf F32 n = 0) || (decide (valOf F32 v < 0) || decide (valOf F32 v = 0))) = inZ (valOf F32 x) (valOf F32 y) (valOf F32 z) := by
    unfold inZ
    rw [Bool.eq_iff_iff]
    simp only [Bool.or_eq_true, decide_eq_true_eq]
    omega
  rwa [e] at H
theorem stepMD {x y : Nat} {c : Lit} {s : Shd} (hs : s.Ok) (hc : c.Ok) (hx : inB x = true) (hy : inB y = true) : StepM x y c s (stepC x y c s) := by
  have I := inIsD hs.yes hx hy
  cases h : inSh s x y
  · rw [h] at I
    rw [stepC_no h]
    exact step_no I
  · rw [h] at I
    rw [stepC_yes h]
    exact step_yes I (filM (.inl hc.r) (.inl hc.g) (.inl hc.b) hs.r hs.g hs.b) (mixN (Part.mul (.inl hc.r) hs.r) (Part.mul (.inl hc.g) hs.g) (Part.mul (.inl hc.b) hs.b) (.inl hc.r) (.inl hc.g) (.inl hc.b) hs.k)
set_option maxHeartbeats 8000000 in
theorem foldShD {a : Option Addr} {cap x y : Nat} {l : List Shd} {c : Lit} (hlen : l.length ≤ 12) (hok : ∀ s ∈ l, s.Ok) (hc : c.Ok) (hx : inB x = true) (hy : inB y = true) : FoldSh a l.length cap l x y c (lightOf x y l c) := ⟨fun q w hrow hq => by
  have HK : Hid (∀ j, j < l.length → StepM x y (lightOf x y (l.take j) c) (l.getD j default) (lightOf x y (l.take (j + 1)) c)) := fun j hj => by
    rw [lightOf_snoc hj]
    exact stepMD (hok _ (by simp [List.getD, hj])) (lightOf_ok _ (fun s hs => hok s (List.mem_of_mem_take hs)) hc) hx hy
  have H0 : Hid (lightOf x y (l.take 0) c = c) := by rw [List.take_zero]; exact lightOf_nil x y c
  have he : lightOf x y (l.take l.length) c = lightOf x y l c := by rw [List.take_length]
  have HE : Hid (lightOf x y (l.take l.length) c = lightOf x y l c) := he
  clear he
  have HR : Hid (RowAt w a l) := hrow
  have HQ : Hid (w.cell? ⟨q, 0, Option.none⟩ = some (.complex .f32 x y)) := hq
  clear hrow hq hok hc hx hy
  generalize lightOf x y l c = z at HE ⊢
  generalize hL : (fun j : Nat => lightOf x y (l.take j) c) = L
  have HK' : Hid (∀ j, j < l.length → StepM x y (L j) (l.getD j default) (L (j + 1))) := by rw [← hL]; exact HK.out
  have H0' : L 0 = c := by rw [← hL]; exact H0.out
  have HE' : L l.length = z := by rw [← hL]; exact HE.out
  clear HK H0 HE hL
  subst H0' HE'
  go_enter Tryz.func78, Tryz.ntmps78
  go_wp2_with fail
  generalize hW : (w.alloc (.cells #[.float .f32 (L 0).r, .float .f32 (L 0).g, .float .f32 (L 0).b] 26)).alloc (.cells #[.float .f32 0, .float .f32 0, .float .f32 0] 26) = X
  have C0 : Blk X w.heap.size #[.float .f32 (L 0).r, .float .f32 (L 0).g, .float .f32 (L 0).b] 26 := by rw [← hW]; exact (Blk.new _ _ _).alloc
  have R0 : Blk X (w.heap.size + 1) #[.float .f32 0, .float .f32 0, .float .f32 0] 26 := by rw [← hW]; exact Blk.newAt (by simp)
  have hB : Below w.heap.size w X := by rw [← hW]; (repeat' (first | (with_reducible exact Below.refl _ _) | (with_reducible assumption) | (with_reducible refine Below.alloc ?_ ?_ _) | (with_reducible refine Below.drew ?_) | (with_reducible refine Below.setCell ?_ ?_ _) | (with_reducible refine Below.trans ?_ (Below.mono (by assumption) ?_)) | (with_reducible exact Nat.le_refl _) | omega | (simp only [World.size_alloc, World.size_setCell, World.size_drew]; omega) | (simp; omega) | (simp; done)))
  clear hW
  go_loopw [11] (fun i wr => ∃ j : Nat, j ≤ l.length ∧ i = .int .i64 j ∧ Blk wr w.heap.size #[.float .f32 (L j).r, .float .f32 (L j).g, .float .f32 (L j).b] 26 ∧ Blk wr (w.heap.size + 1) #[.float .f32 0, .float .f32 0, .float .f32 0] 26 ∧ Below w.heap.size w wr) (fun i _ => l.length - (intOf i).toNat)
  case atStart => exact ⟨0, by omega, rfl, C0, R0, hB⟩
  case round =>
    obtain ⟨j, hj, rfl, hC, hR0, hbel⟩ := hrel
    have HB : Hid (Below w.heap.size w wr) := hbel
    have CC : Hid (Blk wr w.heap.size #[.float .f32 (L j).r, .float .f32 (L j).g, .float .f32 (L j).b] 26) := hC
    have RR : Hid (Blk wr (w.heap.size + 1) #[.float .f32 0, .float .f32 0, .float .f32 0] 26) := hR0
    have hbs := hbel.size
    have lr := hR0.lt
    have lr0 : w.heap.size < wr.heap.size := by omega
    clear C0 R0 hB hC hR0
    have k0 := Blk.cellAt (i := 0) CC.out rfl
    have k1 := Blk.cellAt (i := 1) CC.out rfl
    have k2 := Blk.cellAt (i := 2) CC.out rfl
    simp only [List.getElem_toArray, List.getElem_cons_zero, List.getElem_cons_succ] at k0 k1 k2
    by_cases hlt : j < l.length
    · have K := HK'.out j hlt
      rcases HR.out with hnil | ⟨b, off, rfl, hRR⟩
      · exfalso; rw [hnil] at hlt; simp at hlt
      have hrow := (ShRow.below hRR hbel) j hlt
      have hqq := cBelow hbel HQ.out
      generalize l.getD j default = s at hrow K
      generalize hd : L (j + 1) = d at K
      generalize L j = c at *
      obtain ⟨d0, d1, d2, d3, d4, d5, d6⟩ := hrow
      have HQQ : Hid ((wr.alloc (.cells #[.complex .f32 s.a1 s.a2, .complex .f32 s.b1 s.b2, .complex .f32 s.c1 s.c2, .float .f32 s.r, .float .f32 s.g, .float .f32 s.b, .float .f32 s.k] 36)).cell? ⟨q, 0, Option.none⟩ = some (.complex .f32 x y)) := cAlloc hqq
      clear hbel hRR hqq
      go_wp2_with fail
      refine (K.call q _ HQQ.out).mono ?_
      rintro e w2 ⟨rfl, hb⟩
      have HB2 : Hid (Below w.heap.size w w2) := (HB.out.alloc (by omega) _).trans (hb.mono (by simp; omega))
      have C2 : Hid (Blk w2 w.heap.size #[.float .f32 c.r, .float .f32 c.g, .float .f32 c.b] 26) := CC.out.alloc.below hb
      have R2 : Hid (Blk w2 (w.heap.size + 1) #[.float .f32 0, .float .f32 0, .float .f32 0] 26) := RR.out.alloc.below hb
      clear hb d0 d1 d2 d3 d4 d5 d6 k0 k1 k2 HQQ CC RR HB
      have HD : Hid (L (j + 1) = d) := hd
      clear hd
      have l2 := R2.out.lt
      have l20 := C2.out.lt
      have o0 := Blk.cellAt (i := 0) C2.out rfl
      have o1 := Blk.cellAt (i := 1) C2.out rfl
      have o2 := Blk.cellAt (i := 2) C2.out rfl
      have f0 := C2.out.free 0
      have f1 := C2.out.free 1
      have f2 := C2.out.free 2
      simp only [List.getElem_toArray, List.getElem_cons_zero, List.getElem_cons_succ] at o0 o1 o2
      go_wp2
      go_roundw
      case rel =>
        have hbb := HB2.out
        exact ⟨j + 1, by omega, by go_num, by rw [HD.out]; exact Blk.setAt (b := w.heap.size) rfl (Blk.setAt (b := w.heap.size) rfl (Blk.setAt (b := w.heap.size) rfl C2.out rfl) rfl) rfl, ((R2.out.other (by dsimp only; omega)).other (by dsimp only; omega)).other (by dsimp only; omega), by (repeat' (first | (with_reducible exact Below.refl _ _) | (with_reducible assumption) | (with_reducible refine Below.alloc ?_ ?_ _) | (with_reducible refine Below.drew ?_) | (with_reducible refine Below.setCell ?_ ?_ _) | (with_reducible refine Below.trans ?_ (Below.mono (by assumption) ?_)) | (with_reducible exact Nat.le_refl _) | omega | (simp only [World.size_alloc, World.size_setCell, World.size_drew]; omega) | (simp; omega) | (simp; done)))⟩
      case measure => simp [intOf]; omega
    · have hjm : j = l.length := by omega
      subst hjm
      clear hbel
      have o0 := Blk.cellAt (i := 0) RR.out rfl
      have o1 := Blk.cellAt (i := 1) RR.out rfl
      have o2 := Blk.cellAt (i := 2) RR.out rfl
      have f0 := RR.out.free 0
      have f1 := RR.out.free 1
      have f2 := RR.out.free 2
      simp only [List.getElem_toArray, List.getElem_cons_zero, List.getElem_cons_succ] at o0 o1 o2
      go_wp2
      have hbb := HB.out
      (have d0 := (RR.out.set (i := 0) (v := .float .f32 (L l.length).r)).cell 0; have d1 := ((RR.out.set (i := 0) (v := .float .f32 (L l.length).r)).set (i := 1) (v := .float .f32 (L l.length).g)).cell 1; have d2 := (((RR.out.set (i := 0) (v := .float .f32 (L l.length).r)).set (i := 1) (v := .float .f32 (L l.length).g)).set (i := 2) (v := .float .f32 (L l.length).b)).cell 2; simp only [List.setIfInBounds_toArray, List.set_cons_zero, List.set_cons_succ, List.getElem?_toArray, List.getElem?_cons_zero, List.getElem?_cons_succ] at d0 d1 d2; exact bodyPost_ret (v := .agg #[.float .f32 (L l.length).r, .float .f32 (L l.length).g, .float .f32 (L l.length).b]) (by simp [results, Tryz.results78, go_sem, d0, d1, d2]) rfl ⟨rfl, by (repeat' (first | (with_reducible exact Below.refl _ _) | (with_reducible assumption) | (with_reducible refine Below.alloc ?_ ?_ _) | (with_reducible refine Below.drew ?_) | (with_reducible refine Below.setCell ?_ ?_ _) | (with_reducible refine Below.trans ?_ (Below.mono (by assumption) ?_)) | (with_reducible exact Nat.le_refl _) | omega | (simp only [World.size_alloc, World.size_setCell, World.size_drew]; omega) | (simp; omega) | (simp; done)))⟩)⟩
theorem seenIsD {a : Option Addr} {cap x y : Nat} {l : List Shd} {c : Lit} (hlen : l.length ≤ 12) (hok : ∀ s ∈ l, s.Ok) (hc : c.Ok) (hx : inB x = true) (hy : inB y = true) : SeenIs a l.length cap l x y c (lightOf x y l c) :=
  seen_of ⟨(areIs hlen hok).call⟩ (ptYes hx hy) (colYes (.inl hc.r) (.inl hc.g) (.inl hc.b)) (foldShD hlen hok hc hx hy)
end Go.Proofs.YtfdgijmmgllmgaaGreatDoor
