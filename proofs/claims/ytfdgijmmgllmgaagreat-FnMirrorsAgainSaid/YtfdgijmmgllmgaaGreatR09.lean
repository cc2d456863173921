/-
  Texts Kk Tf Tg Th Ti Ff Ta Tj, joined.
-/
import Derived.Test.YtfdgijmmgllmgaaGreatR01
import Derived.Test.YtfdgijmmgllmgaaGreatR08
import Derived.WalkSpells
import Derived.Test.YtfdgijmmgllmgaaGreatR07
import Derived.Test.YtfdgijmmgllmgaaGreatR05
import Derived.Lib.Hide
namespace Go.Proofs.YtfdgijmmgllmgaaGreat
open Go.ChangeShapes Go.WideShapes Go.ChangeAt Go.RowKit Go.Joins
set_option linter.unusedSimpArgs false
set_option linter.unusedVariables false
set_option maxRecDepth 100000
attribute [local go_sem] store_f
def kindB (k : Int) : Bool := decide (0 ≤ k ∧ k ≤ 3)
theorem isKind_i (n : Int) (w : World) : Calls Tryz.prog 44 #[.int .i64 n] w fun e w' => e = .returned (.bool (kindB n)) ∧ w' = w := by
  by_cases h1 : 0 ≤ n
  · by_cases h2 : n ≤ 3
    · have e : kindB n = true := by unfold kindB; simp; omega
      rw [e]
      go_enter Tryz.func44, Tryz.ntmps44
      go_wp2
      go_ret
      exact ⟨rfl, rfl⟩
    · have e : kindB n = false := by unfold kindB; simp; omega
      rw [e]
      have hd : decide (n ≤ 3) = false := by simpa using h2
      go_enter Tryz.func44, Tryz.ntmps44
      go_wp2
      go_ret
      exact ⟨rfl, rfl⟩
  · have e : kindB n = false := by unfold kindB; simp; omega
    rw [e]
    have hd : decide (0 ≤ n) = false := by simpa using h1
    go_enter Tryz.func44, Tryz.ntmps44
    go_wp2
    go_ret
    exact ⟨rfl, rfl⟩
end Go.Proofs.YtfdgijmmgllmgaaGreat
namespace Go.Proofs.YtfdgijmmgllmgaaGreat
open Go.ChangeShapes Go.WideShapes Go.ChangeAt Go.RowKit Go.Joins
set_option linter.unusedSimpArgs false
set_option linter.unusedVariables false
set_option maxRecDepth 100000
attribute [local go_sem] store_f
open Ieee Go.Lib
attribute [local go_sem] store_c
structure CopB (B : Nat) (w : World) (e : Ending) (w' : World) (L : List Bw) (a : Option Addr) (c : Nat) : Prop where
  ret : e = .returned (.slice a L.length c)
  own : w'.ownsRow B 59 2 (.slice a L.length c) L.length (bwCells L)
  below : Below w.heap.size w w'
structure CloneM (L : List Bw) : Prop where
  call : ∀ (w : World) (a : Option Addr) (cap : Nat), BwIn w a L → Calls Tryz.prog 99 #[.slice a L.length cap] w fun e w' => ∃ a' c', CopB w.heap.size w e w' L a' c'
set_option maxHeartbeats 8000000 in
theorem cloneM {L : List Bw} (hn : L.length ≤ 8) : CloneM L := ⟨fun w a cap hr => by
  obtain ⟨i0, hi, hz0, hz1, hz2⟩ := info_parts infoB
  cases a with
  | none =>
    have hL : L = [] := by
      rcases hr with h | ⟨g, e, _⟩
      · exact h
      · cases e
    subst hL
    clear hr
    have hnil := fun (W : World) => Lib.run_eql_slice_nil (P := Tryz.prog) W 29 59 Option.none 0 cap 0 0 Tryz.underlying29
    show Calls _ _ #[.slice Option.none 0 cap] _ _
    go_enter Tryz.func99, Tryz.ntmps99
    go_wp2
    go_ret
    exact ⟨Option.none, 0, ⟨rfl, World.ownsRow_nil _ _ _ _, Below.refl _ _⟩⟩
  | some ad =>
    have hnil := fun (W : World) => Lib.run_eql_slice_nil (P := Tryz.prog) W 29 59 (some ad) L.length cap 0 0 Tryz.underlying29
    have HN : Hid (∀ (o : Obj) j u, (bwCells L)[j]? = some u → (w.alloc o).cell? (ad.add j) = some u) := by
      rcases hr with h | ⟨g, e, h⟩
      · subst h
        intro o j u hj
        simp [bwCells] at hj
      · cases e
        intro o j u hj
        have hjl : j < L.length * 2 := by
          have := (List.getElem?_eq_some_iff.1 hj).1
          rwa [bwCells_len] at this
        rw [Go.WideShapes.add_plain, Nat.zero_add]
        have hg := bwCells_get L (j / 2) (by omega)
        have hc := h (j / 2) (by omega)
        rcases (by omega : j = j / 2 * 2 ∨ j = j / 2 * 2 + 1) with e | e
        · rw [e] at hj ⊢
          rw [hg.1] at hj
          rw [← hj]; exact cAlloc hc.1
        · rw [e] at hj ⊢
          rw [hg.2] at hj
          rw [← hj]; exact cAlloc hc.2
    clear hr
    go_enter Tryz.func99, Tryz.ntmps99
    go_wp2_with (at_builtin; go_loud (refine wpList_append_own _ rfl _ _ 29 rfl w.heap.size 59 i0 (.agg #[.complex .f32 0 0, .complex .f32 0 0]) 2 16 Tryz.underlying29 hi hz0 hz1 hz2 rfl (by decide) _ 0 [] rfl ?_ ad L.length cap (bwCells L) rfl ?_ ?_ ?_ ?_ ?_ ?_ ?_))
    · exact World.ownsRow_lit _ #[] 0 (by simp) (by unfold maxLen; omega) rfl
    · exact bwCells_len L
    · intro j u hj
      exact HN.out _ j u hj
    · intro u hu
      simp only [bwCells, List.mem_flatMap, Bw.cells] at hu
      obtain ⟨b, _, hu⟩ := hu
      simp at hu
      rcases hu with rfl | rfl <;> rfl
    · unfold maxLen; omega
    · omega
    · first | omega | (simp only [World.size_alloc, World.size_setCell, World.size_drew]; omega)
    intro v' w2 hown' hgrow hvn
    have HB2 : Hid (Below w.heap.size w w2) := Below.grown (by (repeat' (first | (with_reducible exact Below.refl _ _) | (with_reducible assumption) | (with_reducible refine Below.alloc ?_ ?_ _) | (with_reducible refine Below.drew ?_) | (with_reducible refine Below.setCell ?_ ?_ _) | (with_reducible refine Below.trans ?_ (Below.mono (by assumption) ?_)) | (with_reducible exact Nat.le_refl _) | omega | (simp only [World.size_alloc, World.size_setCell, World.size_drew]; omega) | (simp; omega) | (simp; done)))) hgrow (by simp) (fun q hq => by cases hq; simp)
    try simp only [Nat.zero_add, List.nil_append] at hown'
    have HO : Hid (w2.ownsRow w.heap.size 59 2 v' L.length (bwCells L)) := hown'
    clear hown' hgrow hvn
    rcases ownsRow_forms HO.out with ⟨rfl, h0⟩ | ⟨g, c', rfl⟩
    · go_wp2
      go_ret
      have hL : L = [] := List.eq_nil_of_length_eq_zero (by simpa using h0)
      subst hL
      exact ⟨_, _, ⟨rfl, HO.out, HB2.out⟩⟩
    · go_wp2
      go_ret
      exact ⟨_, _, ⟨rfl, HO.out, HB2.out⟩⟩⟩
end Go.Proofs.YtfdgijmmgllmgaaGreat
namespace Go.Proofs.YtfdgijmmgllmgaaGreat
open Go.ChangeShapes Go.WideShapes Go.ChangeAt Go.RowKit Go.Joins
set_option linter.unusedSimpArgs false
set_option linter.unusedVariables false
set_option maxRecDepth 100000
attribute [local go_sem] store_f
open Ieee Go.Lib
attribute [local go_sem] store_c
structure CopT (B : Nat) (w : World) (e : Ending) (w' : World) (kind : Int) (g1 g2 ls N : Nat) (L : List Bw) (a : Option Addr) (c : Nat) : Prop where
  ret : e = .returned (.agg #[.int .i64 kind, .complex .f32 g1 g2, .float .f32 ls, .slice a N c])
  own : w'.ownsRow B 59 2 (.slice a N c) N (bwCells L)
  below : Below w.heap.size w w'
structure CopyM (F : FuncId) (kind : Int) (g1 g2 ls N : Nat) (L : List Bw) : Prop where
  call : ∀ (w : World) (a : Option Addr) (cap : Nat), BwIn w a L → Calls Tryz.prog F #[.agg #[.int .i64 kind, .complex .f32 g1 g2, .float .f32 ls, .slice a N cap]] w fun e w' => ∃ a' c', CopT w.heap.size w e w' kind g1 g2 ls N L a' c'
theorem owns_less {W : World} {B C e size n : Nat} {v : Value} {xs : List Value} (h : W.ownsRow B e size v n xs) (hC : C ≤ B) : W.ownsRow C e size v n xs := by
  obtain ⟨h1, h2⟩ := h
  refine ⟨h1, ?_⟩
  rcases h2 with h2 | ⟨g', cap', cur, e1, e2, e3⟩
  · exact .inl h2
  · exact .inr ⟨g', cap', cur, e1, by omega, e3⟩
theorem owns_set {W : World} {B e size n : Nat} {v u : Value} {xs : List Value} {a : Addr} (h : W.ownsRow B e size v n xs) (ha : a.block < B) : (W.setCell a u).ownsRow B e size v n xs := by
  obtain ⟨h1, h2⟩ := h
  refine ⟨h1, ?_⟩
  rcases h2 with h2 | ⟨g', cap', cur, e1, e2, e3, e4⟩
  · exact .inl h2
  · exact .inr ⟨g', cap', cur, e1, e2, (Below.heap_setCell _ _ _ _ (by omega)).trans e3, e4⟩
set_option maxHeartbeats 8000000 in
theorem copyT {kind : Int} {g1 g2 ls N : Nat} {L : List Bw} (hL : L.length = N) (hn : N ≤ 8) : CopyM 67 kind g1 g2 ls N L := ⟨fun w a cap hr => by
  have CL := cloneM (L := L) (by omega)
  have HC : Hid (∀ (w : World) (a : Option Addr) (cap : Nat), BwIn w a L → Calls Tryz.prog 99 #[.slice a N cap] w fun e w' => ∃ a' c', e = .returned (.slice a' N c') ∧ w'.ownsRow w.heap.size 59 2 (.slice a' N c') N (bwCells L) ∧ Below w.heap.size w w') := fun w a cap h => by
    have := CL.call w a cap h
    rw [hL] at this
    refine this.mono ?_
    rintro e w' ⟨a', c', h1, h2, h3⟩
    rw [hL] at h1 h2
    exact ⟨a', c', h1, h2, h3⟩
  have HR : Hid (BwIn w a L) := hr
  clear CL hr hL
  go_enter Tryz.func67, Tryz.ntmps67
  go_wp2_with fail
  generalize hW : (w.alloc (.cells #[.int .i64 kind, .complex .f32 g1 g2, .float .f32 ls, .slice a N cap] 31)).alloc (.cells #[.int .i64 0, .complex .f32 0 0, .float .f32 0, .slice Option.none 0 0] 31) = X
  have M0 : Hid (Blk X w.heap.size #[.int .i64 kind, .complex .f32 g1 g2, .float .f32 ls, .slice a N cap] 31) := by rw [← hW]; exact (Blk.new _ _ _).alloc
  have R0 : Hid (Blk X (w.heap.size + 1) #[.int .i64 0, .complex .f32 0 0, .float .f32 0, .slice Option.none 0 0] 31) := by rw [← hW]; exact Blk.newAt (by simp)
  have B0 : Hid (BwIn X a L) := by rw [← hW]; exact HR.out.alloc.alloc
  have G0 : Hid (Below w.heap.size w X) := by rw [← hW]; show Below w.heap.size w _; (repeat' (first | (with_reducible exact Below.refl _ _) | (with_reducible assumption) | (with_reducible refine Below.alloc ?_ ?_ _) | (with_reducible refine Below.drew ?_) | (with_reducible refine Below.setCell ?_ ?_ _) | (with_reducible refine Below.trans ?_ (Below.mono (by assumption) ?_)) | (with_reducible exact Nat.le_refl _) | omega | (simp only [World.size_alloc, World.size_setCell, World.size_drew]; omega) | (simp; omega) | (simp; done)))
  have sX : w.heap.size + 2 ≤ X.heap.size := by rw [← hW]; simp
  clear hW HR
  refine (HC.out _ _ _ B0.out).mono ?_
  rintro e w1 ⟨a', c', rfl, hown, hb⟩
  have M1 : Hid (Blk w1 w.heap.size #[.int .i64 kind, .complex .f32 g1 g2, .float .f32 ls, .slice a N cap] 31) := M0.out.below hb
  have R1 : Hid (Blk w1 (w.heap.size + 1) #[.int .i64 0, .complex .f32 0 0, .float .f32 0, .slice Option.none 0 0] 31) := R0.out.below hb
  have G1 : Hid (Below w.heap.size w w1) := G0.out.trans (hb.mono (by omega))
  have O1 : Hid (w1.ownsRow X.heap.size 59 2 (.slice a' N c') N (bwCells L)) := hown
  have s1 := hb.size
  clear hb hown M0 R0 G0 B0 HC
  (obtain ⟨m0, m1, m2, m3⟩ := blk4 (M1.out))
  (obtain ⟨r0, r1, r2, r3⟩ := blk4 (R1.out))
  have fm := M1.out.free 3
  have f0 := R1.out.free 0
  have f1 := R1.out.free 1
  have f2 := R1.out.free 2
  have f3 := R1.out.free 3
  have l0 := M1.out.lt
  have l1 := R1.out.lt
  have RS := (((((R1.out.other (a := ⟨w.heap.size, 3, Option.none⟩) (v := .slice a' N c') (by dsimp only; omega)).set (i := 0) (v := .int .i64 kind)).set (i := 1) (v := .complex .f32 g1 g2)).set (i := 2) (v := .float .f32 ls)).set (i := 3) (v := .slice a' N c'))
  have e0 := RS.cell 0
  have e1 := RS.cell 1
  have e2 := RS.cell 2
  have e3 := RS.cell 3
  simp only [List.setIfInBounds_toArray, List.set_cons_zero, List.set_cons_succ, List.getElem?_toArray, List.getElem?_cons_zero, List.getElem?_cons_succ] at e0 e1 e2 e3
  have E0 := Lib.hid e0
  have E1 := Lib.hid e1
  have E2 := Lib.hid e2
  have E3 := Lib.hid e3
  clear RS e0 e1 e2 e3
  go_wp2_with fail
  have e0 := E0.out
  have e1 := E1.out
  have e2 := E2.out
  have e3 := E3.out
  refine bodyPost_ret (v := .agg #[.int .i64 kind, .complex .f32 g1 g2, .float .f32 ls, .slice a' N c']) (by simp [results, Tryz.results67, go_sem, e0, e1, e2, e3]) rfl ⟨a', c', ⟨rfl, ?_, ?_⟩⟩
  · exact owns_less (owns_set (owns_set (owns_set (owns_set (owns_set O1.out (by dsimp only; omega)) (by dsimp only; omega)) (by dsimp only; omega)) (by dsimp only; omega)) (by dsimp only; omega)) (by omega)
  · exact ((((G1.out.setCell (by dsimp only; omega) _).setCell (by dsimp only; omega) _).setCell (by dsimp only; omega) _).setCell (by dsimp only; omega) _).setCell (by dsimp only; omega) _⟩
structure TumOk (kind : Int) (g1 g2 ls N : Nat) (L : List Bw) : Prop where
  kin : kindB kind = true
  pt : PtIs g1 g2 true
  share : shareB ls = true
  few : N ≤ 8
  len : L.length = N
  wed : ∀ k, k < N → WedM kind (L.getD k default).a1 (L.getD k default).a2 true
  speed : ∀ k, k < N → PtIs (L.getD k default).v1 (L.getD k default).v2 true
structure IsT (F : FuncId) (kind : Int) (g1 g2 ls N : Nat) (L : List Bw) : Prop where
  call : ∀ (w : World) (a : Option Addr) (cap : Nat), BwIn w a L → Calls Tryz.prog F #[.agg #[.int .i64 kind, .complex .f32 g1 g2, .float .f32 ls, .slice a N cap]] w fun e w' => e = .returned (.bool true) ∧ Below w.heap.size w w'
set_option maxHeartbeats 16000000 in
theorem isT {kind : Int} {g1 g2 ls N : Nat} {L : List Bw} (T : TumOk kind g1 g2 ls N L) : IsT 34 kind g1 g2 ls N L := ⟨fun w a cap hr => by
  have YK := fun w => isKind_i kind w
  rw [T.kin] at YK
  have YP := T.pt
  have YS := fun w => isShare_i ls w
  rw [T.share] at YS
  have hn := T.few
  have HW : Hid (∀ k, k < N → WedM kind (L.getD k default).a1 (L.getD k default).a2 true) := T.wed
  have HS : Hid (∀ k, k < N → PtIs (L.getD k default).v1 (L.getD k default).v2 true) := T.speed
  have HL : Hid (L.length = N) := T.len
  have HR : Hid (BwIn w a L) := hr
  clear T hr
  go_enter Tryz.func34, Tryz.ntmps34
  go_wp2_with (first | (go_at_call 44; (with_reducible refine (YK _).mono ?_); rintro e w3 ⟨rfl, rfl⟩) | (go_at_call 49; (with_reducible refine (YP.call _).mono ?_); rintro e w4 ⟨rfl, rfl⟩) | (go_at_call 71; (with_reducible refine (YS _).mono ?_); rintro e w4 ⟨rfl, rfl⟩))
  generalize hW : w.alloc (.cells #[.int .i64 kind, .complex .f32 g1 g2, .float .f32 ls, .slice a N cap] 31) = X
  have M0 : Hid (Blk X w.heap.size #[.int .i64 kind, .complex .f32 g1 g2, .float .f32 ls, .slice a N cap] 31) := by rw [← hW]; exact Blk.new _ _ _
  have B0 : Hid (BwIn X a L) := by rw [← hW]; exact HR.out.alloc
  have G0 : Hid (Below w.heap.size w X) := by rw [← hW]; show Below w.heap.size w _; (repeat' (first | (with_reducible exact Below.refl _ _) | (with_reducible assumption) | (with_reducible refine Below.alloc ?_ ?_ _) | (with_reducible refine Below.drew ?_) | (with_reducible refine Below.setCell ?_ ?_ _) | (with_reducible refine Below.trans ?_ (Below.mono (by assumption) ?_)) | (with_reducible exact Nat.le_refl _) | omega | (simp only [World.size_alloc, World.size_setCell, World.size_drew]; omega) | (simp; omega) | (simp; done)))
  clear hW HR YK YP YS
  go_loopw [30] (fun i wr => ∃ k : Nat, k ≤ N ∧ i = .int .i64 k ∧ Below X.heap.size X wr) (fun i _ => N - (intOf i).toNat)
  case atStart => exact ⟨0, by omega, rfl, Below.refl _ _⟩
  case round =>
    obtain ⟨k, hk, rfl, hbel⟩ := hrel
    have HB : Hid (Below X.heap.size X wr) := hbel
    have M1 := M0.out.below hbel
    by_cases hlt : k < N
    · have KW := HW.out k hlt
      have KS := HS.out k hlt
      rcases B0.out with hnil | ⟨g, rfl, hrow⟩
      · exfalso; have := HL.out; rw [hnil] at this; simp at this; omega
      obtain ⟨c0, c1⟩ := hrow.below hbel k (by have := HL.out; omega)
      generalize L.getD k default = b at KW KS c0 c1
      have lm := M1.lt
      have hs := hbel.size
      (obtain ⟨m0, m1, m2, m3⟩ := blk4 (M1))
      clear M1 hrow hbel
      go_wp2_with (first | (go_at_call 20; (with_reducible refine (KW.call _).mono ?_); rintro e w3 ⟨rfl, rfl⟩) | (go_at_call 49; (with_reducible refine (KS.call _).mono ?_); rintro e w4 ⟨rfl, rfl⟩))
      go_roundw
      case rel => exact ⟨k + 1, by omega, by go_num, HB.out.alloc hs _⟩
      case measure => simp [intOf]; omega
    · have hkm : k = N := by omega
      subst hkm
      clear M1 hbel
      go_wp2
      go_ret
      exact ⟨rfl, G0.out.trans (HB.out.mono G0.out.size)⟩⟩
end Go.Proofs.YtfdgijmmgllmgaaGreat
namespace Go.Proofs.YtfdgijmmgllmgaaGreat
open Go.ChangeShapes Go.WideShapes Go.ChangeAt Go.RowKit Go.Joins
set_option linter.unusedSimpArgs false
set_option linter.unusedVariables false
set_option maxRecDepth 100000
attribute [local go_sem] store_f
open Ieee Go.Lib
attribute [local go_sem] store_c
theorem isRun_i (n : Nat) (hn : n ≤ 64) (w : World) : Calls Tryz.prog 201 #[.int .i64 n] w fun e w' => e = .returned (.bool true) ∧ w' = w := by
  have hd : decide ((n : Int) ≤ 64) = true := by simp; omega
  go_enter Tryz.func201, Tryz.ntmps201
  go_wp2
  go_ret
  exact ⟨by first | rfl | (simp; omega), rfl⟩
theorem BwIn.grownAt {W w1 : World} {a : Option Addr} {L : List Bw} {R : Nat} {z : Int} (h : BwIn W a L) (hg : W.grownBy w1 (some R)) (hc : W.cell? ⟨R, 0, Option.none⟩ = some (.int .i64 z)) : BwIn w1 a L := by
  rcases h with h | ⟨g, e, h⟩
  · exact .inl h
  · by_cases h0 : L = []
    · exact .inl h0
    · refine .inr ⟨g, e, h.grown hg fun e => ?_⟩
      cases e
      have h1 := (h 0 (List.length_pos_iff.2 h0)).1
      rw [Nat.zero_mul, hc] at h1
      cases h1
theorem IntsAt.ne {W : World} {g N R : Nat} {f : Nat → Nat} {cs : Array Value} (h : IntsAt W g N f) (hb : Blk W R cs 31) : g ≠ R := fun e => by
  obtain ⟨cur, h1, _⟩ := h
  subst e
  have h2 := h1.symm.trans hb
  simp at h2
theorem grown_set4 {W : World} {R : Nat} {u0 u1 u2 u3 : Value} : W.grownBy ((((W.setCell ⟨R, 0, Option.none⟩ u0).setCell ⟨R, 1, Option.none⟩ u1).setCell ⟨R, 2, Option.none⟩ u2).setCell ⟨R, 3, Option.none⟩ u3) (some R) :=
  grownBy_set (grownBy_set (grownBy_set (grownBy_set (grownBy_refl _ _))))
structure Ran (w : World) (e : Ending) (w' : World) (kind : Int) (g1 g2 ls N : Nat) (M : List Bw) (C : Nat → Nat) (a : Option Addr) (c gc : Nat) : Prop where
  ret : e = .returned (.tuple #[.agg #[.int .i64 kind, .complex .f32 g1 g2, .float .f32 ls, .slice a N c], .slice (some ⟨gc, 0, Option.none⟩) N N, .bool true])
  row : BwIn w' a M
  ints : IntsAt w' gc N C
  below : Below w.heap.size w w'
structure RanM (kind : Int) (g1 g2 ls n N : Nat) (L M : List Bw) (C : Nat → Nat) : Prop where
  call : ∀ (w : World) (a : Option Addr) (cap : Nat), BwIn w a L → Calls Tryz.prog 200 #[.agg #[.int .i64 kind, .complex .f32 g1 g2, .float .f32 ls, .slice a N cap], .int .i64 n] w fun e w' => ∃ a' c' gc, Ran w e w' kind g1 g2 ls N M C a' c' gc
set_option maxHeartbeats 16000000 in
theorem ranM {kind : Int} {g1 g2 ls n N : Nat} {S : Nat → List Bw} {Qs : Nat → List Bool} (T : Ticks kind g1 g2 ls n N S Qs) (hn : n ≤ 64) (K : TumOk kind g1 g2 ls N (S 0)) : RanM kind g1 g2 ls n N (S 0) (S n) (cntQ Qs n) := ⟨fun w a cap hr => by
  have CT := copyT (kind := kind) (g1 := g1) (g2 := g2) (ls := ls) K.len K.few
  have IT := isT K
  have YR := fun w => isRun_i n hn w
  have HCB : Hid (∀ (B cap : Nat) (a : Option Addr) (w : World), Blk w B #[.int .i64 kind, .complex .f32 g1 g2, .float .f32 ls, .slice a N cap] 31 → BwIn w a (S 0) → Calls Tryz.prog 202 #[.int .i64 N, .int .i64 n, .func (.func 203) #[.pointer (some ⟨B, 0, Option.none⟩)] #[]] w fun e w' => ∃ a' cap' gc, Counted w e w' B kind g1 g2 ls N (S n) (cntQ Qs n) a' cap' gc) := fun B cap a w h1 h2 => count_i T hn w h1 h2
  have HR : Hid (BwIn w a (S 0)) := hr
  clear hr T K
  generalize S 0 = L at *
  generalize S n = M at *
  generalize cntQ Qs n = C at *
  go_enter Tryz.func200, Tryz.ntmps200
  go_wp2_with fail
  generalize hW : (w.alloc (.cells #[.int .i64 kind, .complex .f32 g1 g2, .float .f32 ls, .slice a N cap] 31)).alloc (.cells #[.int .i64 0, .complex .f32 0 0, .float .f32 0, .slice Option.none 0 0] 31) = X
  have M0 : Hid (Blk X w.heap.size #[.int .i64 kind, .complex .f32 g1 g2, .float .f32 ls, .slice a N cap] 31) := by rw [← hW]; exact (Blk.new _ _ _).alloc
  have R0 : Hid (Blk X (w.heap.size + 1) #[.int .i64 0, .complex .f32 0 0, .float .f32 0, .slice Option.none 0 0] 31) := by rw [← hW]; exact Blk.newAt (by simp)
  have B0 : Hid (BwIn X a L) := by rw [← hW]; exact HR.out.alloc.alloc
  have G0 : Hid (Below w.heap.size w X) := by rw [← hW]; show Below w.heap.size w _; (repeat' (first | (with_reducible exact Below.refl _ _) | (with_reducible assumption) | (with_reducible refine Below.alloc ?_ ?_ _) | (with_reducible refine Below.drew ?_) | (with_reducible refine Below.setCell ?_ ?_ _) | (with_reducible refine Below.trans ?_ (Below.mono (by assumption) ?_)) | (with_reducible exact Nat.le_refl _) | omega | (simp only [World.size_alloc, World.size_setCell, World.size_drew]; omega) | (simp; omega) | (simp; done)))
  have sX : w.heap.size + 2 ≤ X.heap.size := by rw [← hW]; simp
  clear hW HR
  refine (CT.call _ _ _ B0.out).mono ?_
  rintro e w1 ⟨a1, c1, ⟨rfl, hown, hb⟩⟩
  have M1 : Hid (Blk w1 w.heap.size #[.int .i64 kind, .complex .f32 g1 g2, .float .f32 ls, .slice a N cap] 31) := M0.out.below hb
  have R1 : Hid (Blk w1 (w.heap.size + 1) #[.int .i64 0, .complex .f32 0 0, .float .f32 0, .slice Option.none 0 0] 31) := R0.out.below hb
  have B1 : Hid (BwIn w1 a L) := B0.out.below hb
  have C1 : Hid (BwIn w1 a1 L) := by
    rcases ownsRow_forms hown with ⟨e, h0⟩ | ⟨g, c', e⟩
    · exact .inl (List.eq_nil_of_length_eq_zero (by have := hown.1; rw [bwCells_len] at this; omega))
    · cases e
      exact .inr ⟨g, rfl, bwRow_of hown (by have := hown.1; rw [bwCells_len] at this; omega)⟩
  have G1 : Hid (Below w.heap.size w w1) := G0.out.trans (hb.mono (by omega))
  have s1 := hb.size
  clear hb hown M0 R0 G0 B0 CT
  (obtain ⟨m0, m1, m2, m3⟩ := blk4 (M1.out))
  have l0 := M1.out.lt
  go_wp2_with fail
  generalize hV : w1.alloc (.cells #[.int .i64 kind, .complex .f32 g1 g2, .float .f32 ls, .slice a1 N c1] 31) = V
  have M2 : Hid (Blk V w.heap.size #[.int .i64 kind, .complex .f32 g1 g2, .float .f32 ls, .slice a N cap] 31) := by rw [← hV]; exact M1.out.alloc
  have R2 : Hid (Blk V (w.heap.size + 1) #[.int .i64 0, .complex .f32 0 0, .float .f32 0, .slice Option.none 0 0] 31) := by rw [← hV]; exact R1.out.alloc
  have D2 : Hid (Blk V w1.heap.size #[.int .i64 kind, .complex .f32 g1 g2, .float .f32 ls, .slice a1 N c1] 31) := by rw [← hV]; exact Blk.new _ _ _
  have B2 : Hid (BwIn V a L) := by rw [← hV]; exact B1.out.alloc
  have C2 : Hid (BwIn V a1 L) := by rw [← hV]; exact C1.out.alloc
  have G2 : Hid (Below w.heap.size w V) := by rw [← hV]; exact G1.out.alloc (by omega) _
  have sV : w1.heap.size < V.heap.size := by rw [← hV]; simp
  clear hV M1 R1 B1 C1 G1 m0 m1 m2 m3 l0
  refine (IT.call _ _ _ B2.out).mono ?_
  rintro e w3 ⟨rfl, hb⟩
  have R3 : Hid (Blk w3 (w.heap.size + 1) #[.int .i64 0, .complex .f32 0 0, .float .f32 0, .slice Option.none 0 0] 31) := R2.out.below hb
  have D3 : Hid (Blk w3 w1.heap.size #[.int .i64 kind, .complex .f32 g1 g2, .float .f32 ls, .slice a1 N c1] 31) := D2.out.below hb
  have C3 : Hid (BwIn w3 a1 L) := C2.out.below hb
  have G3 : Hid (Below w.heap.size w w3) := G2.out.trans (hb.mono (by omega))
  have s3 := hb.size
  clear hb M2 R2 D2 B2 C2 G2 IT
  (obtain ⟨d0, d1, d2, d3⟩ := blk4 (D3.out))
  have l1 := D3.out.lt
  go_wp2_with (go_at_call 201; (with_reducible refine (YR _).mono ?_); rintro e w4 ⟨rfl, rfl⟩)
  refine (HCB.out _ _ _ _ D3.out C3.out).mono ?_
  rintro e w5 ⟨a5, c5, gc, ⟨rfl, hblk, hrow, hints, hgr⟩⟩
  have R5 : Hid (Blk w5 (w.heap.size + 1) #[.int .i64 0, .complex .f32 0 0, .float .f32 0, .slice Option.none 0 0] 31) := R3.out.grown hgr (by omega)
  have D5 : Hid (Blk w5 w1.heap.size #[.int .i64 kind, .complex .f32 g1 g2, .float .f32 ls, .slice a5 N c5] 31) := hblk
  have B5 : Hid (BwIn w5 a5 M) := hrow
  have I5 : Hid (IntsAt w5 gc N C) := hints
  have G5 : Hid (Below w.heap.size w w5) := G3.out.trans (below_of_grown hgr (by omega) (by omega))
  clear hblk hrow hints hgr R3 D3 C3 G3 d0 d1 d2 d3 l1 HCB YR
  (obtain ⟨d0, d1, d2, d3⟩ := blk4 (D5.out))
  (obtain ⟨r0, r1, r2, r3⟩ := blk4 (R5.out))
  have f0 := R5.out.free 0
  have f1 := R5.out.free 1
  have f2 := R5.out.free 2
  have f3 := R5.out.free 3
  have l0 := D5.out.lt
  have l1 := R5.out.lt
  have RS := ((((R5.out.set (i := 0) (v := .int .i64 kind)).set (i := 1) (v := .complex .f32 g1 g2)).set (i := 2) (v := .float .f32 ls)).set (i := 3) (v := .slice a5 N c5))
  have e0 := RS.cell 0
  have e1 := RS.cell 1
  have e2 := RS.cell 2
  have e3 := RS.cell 3
  simp only [List.setIfInBounds_toArray, List.set_cons_zero, List.set_cons_succ, List.getElem?_toArray, List.getElem?_cons_zero, List.getElem?_cons_succ] at e0 e1 e2 e3
  have E0 := Lib.hid e0
  have E1 := Lib.hid e1
  have E2 := Lib.hid e2
  have E3 := Lib.hid e3
  clear RS e0 e1 e2 e3
  go_wp2_with fail
  have e0 := E0.out
  have e1 := E1.out
  have e2 := E2.out
  have e3 := E3.out
  refine bodyPost_ret (v := .tuple #[.agg #[.int .i64 kind, .complex .f32 g1 g2, .float .f32 ls, .slice a5 N c5], .slice (some ⟨gc, 0, Option.none⟩) N N, .bool true]) (by simp [results, Tryz.results200, go_sem, e0, e1, e2, e3]) rfl ⟨a5, c5, gc, ⟨rfl, B5.out.grownAt grown_set4 r0, I5.out.grown grown_set4 (I5.out.ne R5.out), ?_⟩⟩
  exact (((G5.out.setCell (by dsimp only; omega) _).setCell (by dsimp only; omega) _).setCell (by dsimp only; omega) _).setCell (by dsimp only; omega) _⟩
end Go.Proofs.YtfdgijmmgllmgaaGreat
namespace Go.Proofs.YtfdgijmmgllmgaaGreat
open Go.ChangeShapes Go.WideShapes Go.ChangeAt Go.RowKit Go.Joins
set_option linter.unusedSimpArgs false
set_option linter.unusedVariables false
set_option maxRecDepth 100000
attribute [local go_sem] store_f
open Ieee Go.Lib
attribute [local go_sem] store_c
structure RunOut (w : World) (e : Ending) (w' : World) (kind : Int) (g1 g2 ls N : Nat) (M : List Bw) (a : Option Addr) (c : Nat) : Prop where
  ret : e = .returned (.tuple #[.agg #[.int .i64 kind, .complex .f32 g1 g2, .float .f32 ls, .slice a N c], .bool true])
  row : BwIn w' a M
  below : Below w.heap.size w w'
structure RunM (F : FuncId) (kind : Int) (g1 g2 ls n N : Nat) (L M : List Bw) : Prop where
  call : ∀ (w : World) (a : Option Addr) (cap : Nat), BwIn w a L → Calls Tryz.prog F #[.agg #[.int .i64 kind, .complex .f32 g1 g2, .float .f32 ls, .slice a N cap], .int .i64 n] w fun e w' => ∃ a' c', RunOut w e w' kind g1 g2 ls N M a' c'
set_option maxHeartbeats 8000000 in
theorem runM {kind : Int} {g1 g2 ls n N : Nat} {L M : List Bw} {C : Nat → Nat} (R : RanM kind g1 g2 ls n N L M C) : RunM 199 kind g1 g2 ls n N L M := ⟨fun w a cap hr => by
  have HR : Hid (BwIn w a L) := hr
  clear hr
  go_enter Tryz.func199, Tryz.ntmps199
  go_wp2_with fail
  generalize hW : (w.alloc (.cells #[.int .i64 kind, .complex .f32 g1 g2, .float .f32 ls, .slice a N cap] 31)).alloc (.cells #[.int .i64 0, .complex .f32 0 0, .float .f32 0, .slice Option.none 0 0] 31) = X
  have R0 : Hid (Blk X (w.heap.size + 1) #[.int .i64 0, .complex .f32 0 0, .float .f32 0, .slice Option.none 0 0] 31) := by rw [← hW]; exact Blk.newAt (by simp)
  have B0 : Hid (BwIn X a L) := by rw [← hW]; exact HR.out.alloc.alloc
  have G0 : Hid (Below w.heap.size w X) := by rw [← hW]; show Below w.heap.size w _; (repeat' (first | (with_reducible exact Below.refl _ _) | (with_reducible assumption) | (with_reducible refine Below.alloc ?_ ?_ _) | (with_reducible refine Below.drew ?_) | (with_reducible refine Below.setCell ?_ ?_ _) | (with_reducible refine Below.trans ?_ (Below.mono (by assumption) ?_)) | (with_reducible exact Nat.le_refl _) | omega | (simp only [World.size_alloc, World.size_setCell, World.size_drew]; omega) | (simp; omega) | (simp; done)))
  have sX : w.heap.size + 2 ≤ X.heap.size := by rw [← hW]; simp
  clear hW HR
  refine (R.call _ _ _ B0.out).mono ?_
  rintro e w1 ⟨a1, c1, gc, ⟨rfl, hrow, _, hb⟩⟩
  have R1 : Hid (Blk w1 (w.heap.size + 1) #[.int .i64 0, .complex .f32 0 0, .float .f32 0, .slice Option.none 0 0] 31) := R0.out.below hb
  have B1 : Hid (BwIn w1 a1 M) := hrow
  have G1 : Hid (Below w.heap.size w w1) := G0.out.trans (hb.mono (by omega))
  have s1 := hb.size
  clear hb hrow R0 G0 B0
  have RS := ((((R1.out.set (i := 0) (v := .int .i64 kind)).set (i := 1) (v := .complex .f32 g1 g2)).set (i := 2) (v := .float .f32 ls)).set (i := 3) (v := .slice a1 N c1))
  have E0 := Lib.hid (cAlloc (o := .cells #[.int .i64 kind, .complex .f32 g1 g2, .float .f32 ls, .slice a1 N c1] 31) (Blk.cellAt (i := 0) (v := .int .i64 kind) RS rfl))
  have E1 := Lib.hid (cAlloc (o := .cells #[.int .i64 kind, .complex .f32 g1 g2, .float .f32 ls, .slice a1 N c1] 31) (Blk.cellAt (i := 1) (v := .complex .f32 g1 g2) RS rfl))
  have E2 := Lib.hid (cAlloc (o := .cells #[.int .i64 kind, .complex .f32 g1 g2, .float .f32 ls, .slice a1 N c1] 31) (Blk.cellAt (i := 2) (v := .float .f32 ls) RS rfl))
  have E3 := Lib.hid (cAlloc (o := .cells #[.int .i64 kind, .complex .f32 g1 g2, .float .f32 ls, .slice a1 N c1] 31) (Blk.cellAt (i := 3) (v := .slice a1 N c1) RS rfl))
  have s2 : w.heap.size + 1 < w1.heap.size := R1.out.lt
  (obtain ⟨q0, q1, q2, q3⟩ := blk4 (R1.out))
  have P0 := Lib.hid q0
  have f0 := R1.out.free 0
  have f1 := R1.out.free 1
  have f2 := R1.out.free 2
  have f3 := R1.out.free 3
  clear RS
  go_wp2_with fail
  have e0 := E0.out
  have e1 := E1.out
  have e2 := E2.out
  have e3 := E3.out
  refine bodyPost_ret (v := .tuple #[.agg #[.int .i64 kind, .complex .f32 g1 g2, .float .f32 ls, .slice a1 N c1], .bool true]) (by simp [results, Tryz.results199, go_sem, e0, e1, e2, e3]) rfl ⟨a1, c1, ⟨rfl, (B1.out.grownAt grown_set4 P0.out).alloc, ?_⟩⟩
  exact ((((G1.out.setCell (by dsimp only; omega) _).setCell (by dsimp only; omega) _).setCell (by dsimp only; omega) _).setCell (by dsimp only; omega) _).alloc (by simp; omega) _⟩
end Go.Proofs.YtfdgijmmgllmgaaGreat
namespace Go.Proofs.YtfdgijmmgllmgaaGreat
open Go.ChangeShapes Go.WideShapes Go.ChangeAt Go.RowKit Go.Joins
set_option linter.unusedSimpArgs false
set_option linter.unusedVariables false
set_option maxRecDepth 100000
attribute [local go_sem] store_f
open Ieee Go.Lib
theorem first_some {P : Int × Bool → Bool} : ∀ {l : List (Int × Bool)}, (∃ s ∈ l, P s = true) → ∃ n, n < l.length ∧ P (l.getD n (0, false)) = true ∧ ∀ j, j < n → P (l.getD j (0, false)) = false
  | [], h => by obtain ⟨s, hs, _⟩ := h; cases hs
  | a :: l, h => by
    cases ha : P a with
    | true => exact ⟨0, by simp, by simpa using ha, fun j hj => by omega⟩
    | false =>
      have h2 : ∃ s ∈ l, P s = true := by
        obtain ⟨s, hs, hp⟩ := h
        rcases List.mem_cons.1 hs with rfl | hs
        · rw [ha] at hp; cases hp
        · exact ⟨s, hs, hp⟩
      obtain ⟨n, h1, h3, h4⟩ := first_some h2
      refine ⟨n + 1, by simpa using h1, by simpa using h3, fun j hj => ?_⟩
      rcases j with _ | j
      · simpa using ha
      · simpa using h4 j (by omega)
theorem first_of {kind : Int} (h0 : 0 ≤ kind) (h3 : kind ≤ 3) (p : PtW) : ∃ n, First kind (symsTo kind 8) p n := by
  obtain ⟨n, a, b, c⟩ := first_some (P := fun s => wed kind (actP s p)) (wed_some h0 h3 p)
  exact ⟨n, ⟨a, b, c⟩⟩
theorem fold_of {kind : Int} (h0 : 0 ≤ kind) (h3 : kind ≤ 3) (p : PtW) : ∃ q : PtW, (∃ s ∈ symsTo kind 8, q = actP s p ∧ wed kind q = true) ∧ ∃ t f, FoldM kind p.1.1 p.1.2 q.1.1 q.1.2 t f := by
  obtain ⟨n, F⟩ := first_of h0 h3 p
  have hrg := syms_range kind h0 h3
  have SM : SymsM kind (symsTo kind 8) := ⟨fun w => symsOf_i kind w⟩
  have PY : PtYes p.1.1 p.1.2 := ⟨fun w => isPoint_yes _ _ w (ok_in p.2.1.ok) (ok_in p.2.2.ok)⟩
  have FM := foldPoint_i SM (symsTo_le kind 8) PY (acts_pt hrg p) ⟨fun k hk => inWedge_p h0 h3 _⟩ F
  exact ⟨_, ⟨_, getD_memS F.lt, rfl, F.yes⟩, _, _, FM⟩
theorem fold_img {kind : Int} (h0 : 0 ≤ kind) (h3 : kind ≤ 3) {p q1 q2 : PtW} {s : Int × Bool} (hs : s ∈ symsTo kind 8) (h1 : ∃ r ∈ symsTo kind 8, q1 = actP r p ∧ wed kind q1 = true) (h2 : ∃ r ∈ symsTo kind 8, q2 = actP r (actP s p) ∧ wed kind q2 = true) : q2 = q1 := by
  obtain ⟨r1, m1, rfl, w1⟩ := h1
  obtain ⟨r2, m2, rfl, w2⟩ := h2
  exact fold_same h0 h3 p (actP s p) (List.mem_map.2 ⟨s, hs, rfl⟩) m1 m2 w1 w2
end Go.Proofs.YtfdgijmmgllmgaaGreat
namespace Go.Proofs.YtfdgijmmgllmgaaGreat
open Go.ChangeShapes Go.WideShapes Go.ChangeAt Go.RowKit Go.Joins
set_option linter.unusedSimpArgs false
set_option linter.unusedVariables false
set_option maxRecDepth 100000
attribute [local go_sem] store_f
open Ieee Go.Lib
def rK (K : Nat) : Nat := rn F32 (K * 2 ^ 149) 0
def rkOk (K : Nat) : Bool := decide (magOf F32 (rK K) = K * 2 ^ 149) && decide (rK K ≤ 1166016512)
theorem rk_all : chkTo (fun i => chkTo (fun j => rkOk (40 * i + j)) 40) 40 = true := by decide +kernel
theorem rk_of {K : Nat} (h : K < 1600) : magOf F32 (rK K) = K * 2 ^ 149 ∧ rK K ≤ 1166016512 := by
  have h1 := chkTo_at (chkTo_at rk_all (K / 40) (by omega)) (K % 40) (by omega)
  rw [Nat.div_add_mod] at h1
  unfold rkOk at h1
  rw [Bool.and_eq_true, decide_eq_true_eq, decide_eq_true_eq] at h1
  exact h1
theorem tv_le {T : Int} {R : Nat} (hR : R ≤ 1166016512) (h : T.natAbs ≤ magOf F32 R) : okB (clT T) = true ∧ (tv T).natAbs ≤ magOf F32 R := by
  refine ⟨clT_ok (Nat.le_trans h (magOf_le F32 hR)), ?_⟩
  unfold tv
  rw [abs_val]
  refine magOf_le F32 ?_
  have h1 : rn F32 T.natAbs 0 ≤ R := rn_le F32 (by simpa using h)
  unfold clT
  rw [rung_cw]
  split
  · exact Nat.zero_le _
  · exact h1
theorem mv_le {P : Int} {R : Nat} (hR : R ≤ 1166016512) (h : P.natAbs ≤ magOf F32 R * 2 ^ 149) : okB (clM P) = true ∧ (mv P).natAbs ≤ magOf F32 R := by
  have h1 : rn F32 P.natAbs 149 ≤ R := rn_le F32 h
  have h3 : rungOf F32 (clM P) ≤ R := by
    unfold clM; rw [rung_cw]; split <;> omega
  refine ⟨?_, ?_⟩
  · have h2 := (clM_cl P).lt
    unfold rungOf at h3
    rw [F32_sw] at h3
    simp only [okB, Bool.and_eq_true, decide_eq_true_eq]
    omega
  · unfold mv
    rw [abs_val]
    exact magOf_le F32 h3
structure Lim (K : Nat) (p : PtW) : Prop where
  x : (vX p).natAbs ≤ K * 2 ^ 149
  y : (vY p).natAbs ≤ K * 2 ^ 149
theorem Lim.mono {K L : Nat} {p : PtW} (h : Lim K p) (hl : K ≤ L) : Lim L p :=
  ⟨Nat.le_trans h.x (Nat.mul_le_mul_right _ hl), Nat.le_trans h.y (Nat.mul_le_mul_right _ hl)⟩
structure InSum (p q : PtW) : Prop where
  x : okB (clT (vX p + vX q)) = true
  y : okB (clT (vY p + vY q)) = true
def sumP (p q : PtW) : PtW :=
  if h : okB (clT (vX p + vX q)) = true ∧ okB (clT (vY p + vY q)) = true then ⟨(clT (vX p + vX q), clT (vY p + vY q)), ⟨clT_cl _, h.1⟩, ⟨clT_cl _, h.2⟩⟩ else default
theorem sumP_1 {p q : PtW} (h : InSum p q) : (sumP p q).1 = (clT (vX p + vX q), clT (vY p + vY q)) := by
  unfold sumP
  rw [dif_pos ⟨h.x, h.y⟩]
theorem vX_sum {p q : PtW} (h : InSum p q) : vX (sumP p q) = tv (vX p + vX q) := by
  show valOf F32 (sumP p q).1.1 = _
  rw [sumP_1 h]; rfl
theorem vY_sum {p q : PtW} (h : InSum p q) : vY (sumP p q) = tv (vY p + vY q) := by
  show valOf F32 (sumP p q).1.2 = _
  rw [sumP_1 h]; rfl
theorem add_le {a b : Int} {A B : Nat} (ha : a.natAbs ≤ A * 2 ^ 149) (hb : b.natAbs ≤ B * 2 ^ 149) : (a + b).natAbs ≤ (A + B) * 2 ^ 149 := by
  have h1 : (a + b).natAbs ≤ a.natAbs + b.natAbs := Int.natAbs_add_le a b
  rw [Nat.add_mul]
  omega
theorem lim_sum {A B : Nat} {p q : PtW} (hp : Lim A p) (hq : Lim B q) (h : A + B < 1600) : InSum p q ∧ Lim (A + B) (sumP p q) := by
  obtain ⟨e, hr⟩ := rk_of h
  have hx := tv_le hr (T := vX p + vX q) (by rw [e]; exact add_le hp.x hq.x)
  have hy := tv_le hr (T := vY p + vY q) (by rw [e]; exact add_le hp.y hq.y)
  have I : InSum p q := ⟨hx.1, hy.1⟩
  refine ⟨I, ?_, ?_⟩
  · rw [vX_sum I, ← e]; exact hx.2
  · rw [vY_sum I, ← e]; exact hy.2
structure Keep (k : Nat) : Prop where
  fin : Fin32 k
  lo : 0 ≤ valOf F32 k
  hi : valOf F32 k ≤ 2 ^ 149
structure InProd (p : PtW) (k : Nat) : Prop where
  x : okB (clM (vX p * valOf F32 k)) = true
  y : okB (clM (vY p * valOf F32 k)) = true
def prodP (p : PtW) (k : Nat) : PtW :=
  if h : okB (clM (vX p * valOf F32 k)) = true ∧ okB (clM (vY p * valOf F32 k)) = true then ⟨(clM (vX p * valOf F32 k), clM (vY p * valOf F32 k)), ⟨clM_cl _, h.1⟩, ⟨clM_cl _, h.2⟩⟩ else default
theorem prodP_1 {p : PtW} {k : Nat} (h : InProd p k) : (prodP p k).1 = (clM (vX p * valOf F32 k), clM (vY p * valOf F32 k)) := by
  unfold prodP
  rw [dif_pos ⟨h.x, h.y⟩]
theorem vX_prod {p : PtW} {k : Nat} (h : InProd p k) : vX (prodP p k) = mv (vX p * valOf F32 k) := by
  show valOf F32 (prodP p k).1.1 = _
  rw [prodP_1 h]; rfl
theorem vY_prod {p : PtW} {k : Nat} (h : InProd p k) : vY (prodP p k) = mv (vY p * valOf F32 k) := by
  show valOf F32 (prodP p k).1.2 = _
  rw [prodP_1 h]; rfl
theorem keep_mul {x k : Nat} (hk : Keep k) : (valOf F32 x * valOf F32 k).natAbs ≤ magOf F32 (rungOf F32 x) * 2 ^ 149 := by
  rw [Int.natAbs_mul, abs_val x]
  refine Nat.mul_le_mul_left _ ?_
  have h1 := hk.lo
  have h2 := hk.hi
  generalize valOf F32 k = v at h1 h2
  have : ((v.natAbs : Nat) : Int) ≤ ((2 ^ 149 : Nat) : Int) := by
    rw [Int.natAbs_of_nonneg h1]; simpa using h2
  exact Int.ofNat_le.1 this
theorem prodP_of {p : PtW} {k : Nat} (hk : Keep k) : InProd p k ∧ (vX (prodP p k)).natAbs ≤ (vX p).natAbs ∧ (vY (prodP p k)).natAbs ≤ (vY p).natAbs := by
  have hx := mv_le (ok_rung p.2.1.ok) (P := vX p * valOf F32 k) (keep_mul hk)
  have hy := mv_le (ok_rung p.2.2.ok) (P := vY p * valOf F32 k) (keep_mul hk)
  have I : InProd p k := ⟨hx.1, hy.1⟩
  refine ⟨I, ?_, ?_⟩
  · rw [vX_prod I]; refine Nat.le_trans hx.2 (Nat.le_of_eq ?_); exact (abs_val _).symm
  · rw [vY_prod I]; refine Nat.le_trans hy.2 (Nat.le_of_eq ?_); exact (abs_val _).symm
theorem vX_act (s : Int × Bool) (p : PtW) : vX (actP s p) = (actI s (vX p, vY p)).1 := congrArg Prod.fst (vP_act s p)
theorem vY_act (s : Int × Bool) (p : PtW) : vY (actP s p) = (actI s (vX p, vY p)).2 := congrArg Prod.snd (vP_act s p)
theorem actI_cases (s : Int × Bool) (x y : Int) : ∃ a b : Bool, ∃ c : Bool, (∀ u v : Int, actI s (u, v) = (if c then (if a then -v else v, if b then -u else u) else (if a then -u else u, if b then -v else v))) := by
  obtain ⟨t, f⟩ := s
  unfold actI
  dsimp only
  generalize t.toNat = n
  rcases n with _ | _ | _ | n <;> cases f
  · exact ⟨false, false, false, fun u v => rfl⟩
  · exact ⟨false, true, false, fun u v => rfl⟩
  · exact ⟨true, false, true, fun u v => rfl⟩
  · exact ⟨false, false, true, fun u v => rfl⟩
  · exact ⟨true, true, false, fun u v => rfl⟩
  · exact ⟨true, false, false, fun u v => rfl⟩
  · exact ⟨false, true, true, fun u v => rfl⟩
  · exact ⟨true, true, true, fun u v => rfl⟩
theorem lim_act {K : Nat} {p : PtW} (s : Int × Bool) (h : Lim K p) : Lim K (actP s p) := by
  obtain ⟨a, b, c, e⟩ := actI_cases s 0 0
  have hx := h.x
  have hy := h.y
  refine ⟨?_, ?_⟩
  · rw [vX_act, e]
    cases a <;> cases b <;> cases c <;> simp only [if_true, if_false, Bool.false_eq_true, Int.natAbs_neg] <;> assumption
  · rw [vY_act, e]
    cases a <;> cases b <;> cases c <;> simp only [if_true, if_false, Bool.false_eq_true, Int.natAbs_neg] <;> assumption
def zeroP : PtW := ⟨(0, 0), ⟨⟨cl_zero, ok_zero⟩, ⟨cl_zero, ok_zero⟩⟩⟩
theorem lim_zero (K : Nat) : Lim K zeroP := by
  have e1 : vX zeroP = 0 := val_zero
  have e2 : vY zeroP = 0 := val_zero
  exact ⟨by rw [e1]; exact Nat.zero_le _, by rw [e2]; exact Nat.zero_le _⟩
def keptW (loss : Nat) : Nat := clT (valOf F32 1065353216 - valOf F32 loss)
theorem val_one : valOf F32 1065353216 = 2 ^ 149 := by rw [val_of_lt (by omega), mag_unit]; rfl
theorem kept_keep {loss : Nat} (h : loss ≤ 1065353216) : Keep (keptW loss) := by
  have h1 : valOf F32 loss = (magOf F32 loss : Int) := val_of_lt (by omega)
  have h2 := magOf_le F32 h
  rw [mag_unit] at h2
  have hT : (valOf F32 1065353216 - valOf F32 loss).natAbs ≤ magOf F32 1065353216 := by
    rw [val_one, h1, mag_unit]; omega
  obtain ⟨_, h4⟩ := tv_le (R := 1065353216) (by omega) hT
  rw [mag_unit] at h4
  have h5 : 0 ≤ tv (valOf F32 1065353216 - valOf F32 loss) := by
    have hn : ¬ (valOf F32 1065353216 - valOf F32 loss < 0) := by rw [val_one, h1]; omega
    unfold tv clT
    rw [val_cw, decide_eq_false hn]
    simp only [Bool.false_eq_true, if_false]
    split <;> omega
  refine ⟨(clT_cl _).fin, h5, ?_⟩
  show tv _ ≤ _
  generalize tv (valOf F32 1065353216 - valOf F32 loss) = v at *
  omega
end Go.Proofs.YtfdgijmmgllmgaaGreat
namespace Go.Proofs.YtfdgijmmgllmgaaGreat
open Go.ChangeShapes Go.WideShapes Go.ChangeAt Go.RowKit Go.Joins
set_option linter.unusedSimpArgs false
set_option linter.unusedVariables false
set_option maxRecDepth 100000
attribute [local go_sem] store_f
open Ieee Go.Lib
set_option maxRecDepth 1000000
theorem mag_5 : magOf F32 1084227584 = 5 * 2 ^ 149 := by decide +kernel
theorem val_cleanM {x : Nat} (h : Fin32 x) : valOf F32 (cleanB x) = valOf F32 x := by
  rw [clean_eq h]
  by_cases h0 : rungOf F32 x = 0
  · rw [if_pos h0, val_zero, val_eq_zero.2 h0]
  · rw [if_neg h0]
structure SmallM (B q : Nat) (w : World) (e : Ending) (w' : World) (n : Nat) (o : Int) (m : Nat) : Prop where
  ret : e = .returned (.int .i64 ((m : Int) - o))
  lt : m < n
  cur : Cur B w' q
  grown : w.grownBy w' (some q)
set_option maxHeartbeats 1000000 in
theorem some_40 (B q : Nat) (w : World) (hcur : Cur B w q) :
    Calls Tryz.prog 58 #[.pointer (some ⟨q, 0, Option.none⟩), .int .i64 (-40), .int .i64 40] w fun e w' => ∃ m, SmallM B q w e w' 81 40 m := by
  have HC : Hid (Cur B w q) := hcur
  clear hcur
  go_enter Tryz.func58, Tryz.ntmps58
  go_wp2_with fail
  refine (l1Below_s B q 81 _ HC.out (by omega) (by omega)).mono ?_
  rintro e w1 ⟨x, rfl, hx0, hx1, hc1, hg1⟩
  obtain ⟨n, rfl⟩ : ∃ n : Nat, x = n := ⟨x.toNat, by omega⟩
  have HC1 : Hid (Cur B w1 q) := hc1
  have HG1 : Hid (w.grownBy w1 (some q)) := hg1
  have hn : n < 81 := by omega
  clear hc1 hg1
  go_wp2
  go_ret
  exact ⟨n, by first | rfl | (simp; omega), hn, HC1.out, HG1.out⟩
def overB (d : Nat) (z : Int) : Nat := match F32.div (floatOfInt .f32 z) d with | some r => r | none => 0
theorem sp_8 : ∀ m : Nat, m < 81 → F32.div (floatOfInt .f32 ((m : Int) - 40)) 1090519040 = some (overB 1090519040 ((m : Int) - 40)) ∧ overB 1090519040 ((m : Int) - 40) < 4294967296 ∧ overB 1090519040 ((m : Int) - 40) % 2147483648 ≤ 1084227584 ∧ (overB 1090519040 ((m : Int) - 40) % 2147483648 = 0 → overB 1090519040 ((m : Int) - 40) = 0) := by decide +kernel
theorem sp_10 : ∀ m : Nat, m < 81 → F32.div (floatOfInt .f32 ((m : Int) - 40)) 1092616192 = some (overB 1092616192 ((m : Int) - 40)) ∧ overB 1092616192 ((m : Int) - 40) < 4294967296 ∧ overB 1092616192 ((m : Int) - 40) % 2147483648 ≤ 1084227584 ∧ (overB 1092616192 ((m : Int) - 40) % 2147483648 = 0 → overB 1092616192 ((m : Int) - 40) = 0) := by decide +kernel
theorem pt_small {x R : Nat} (hR : R ≤ 1166016512) (h1 : x < 4294967296) (h2 : x % 2147483648 ≤ R) (h3 : x % 2147483648 = 0 → x = 0) : Pt x ∧ (valOf F32 x).natAbs ≤ magOf F32 R := by
  have hr : rungOf F32 x = x % 2147483648 := by unfold rungOf; rw [F32_sw]
  refine ⟨⟨⟨by unfold Fin32; rw [hr, F32_inf]; omega, h1, fun h => h3 (by rw [← hr]; exact h)⟩, ?_⟩, ?_⟩
  · simp only [okB, Bool.and_eq_true, decide_eq_true_eq]; omega
  · rw [abs_val]; exact magOf_le F32 (by rw [hr]; exact h2)
structure SpeedDrawn (B q : Nat) (w : World) (e : Ending) (w' : World) (K : Nat) (p : PtW) : Prop where
  ret : e = .returned (.complex .f32 p.1.1 p.1.2)
  lim : Lim K p
  cur : Cur B w' q
  grown : w.grownBy w' (some q)
set_option maxHeartbeats 2000000 in
theorem l5Speed_s (B q : Nat) (w : World) (hcur : Cur B w q) :
    Calls Tryz.prog 63 #[.pointer (some ⟨q, 0, Option.none⟩)] w fun e w' => ∃ p, SpeedDrawn B q w e w' 5 p := by
  have HC : Hid (Cur B w q) := hcur
  clear hcur
  go_enter Tryz.func63, Tryz.ntmps63
  go_wp2_with fail
  refine (some_40 B q _ HC.out).mono ?_
  rintro e w1 ⟨m, ⟨rfl, hm, hc1, hg1⟩⟩
  have HC1 : Hid (Cur B w1 q) := hc1
  have HG1 : Hid (w.grownBy w1 (some q)) := hg1
  obtain ⟨e1, a1, a2, a3⟩ := sp_8 m hm
  obtain ⟨P1, L1⟩ := pt_small (by omega) a1 a2 a3
  have hop1 := fun t w => run_float_arith (P := Tryz.prog) w .quo t .f32 (floatOfInt .f32 ((m : Int) - 40)) 1090519040 _ e1
  have HP1 := Lib.hid P1
  have HL1 := Lib.hid L1
  clear hc1 hg1 e1 a1 a2 a3 P1 L1
  generalize overB 1090519040 ((m : Int) - 40) = x at *
  go_wp2_with (simp only [hop1])
  refine (some_40 B q _ HC1.out).mono ?_
  rintro e w2 ⟨k, ⟨rfl, hk, hc2, hg2⟩⟩
  have HC2 : Hid (Cur B w2 q) := hc2
  have HG2 : Hid (w.grownBy w2 (some q)) := grownBy_trans HG1.out hg2
  obtain ⟨e1, a1, a2, a3⟩ := sp_10 k hk
  obtain ⟨P2, L2⟩ := pt_small (by omega) a1 a2 a3
  have hop2 := fun t w => run_float_arith (P := Tryz.prog) w .quo t .f32 (floatOfInt .f32 ((k : Int) - 40)) 1092616192 _ e1
  have HP2 := Lib.hid P2
  have HL2 := Lib.hid L2
  clear hc2 hg2 e1 a1 a2 a3 P2 L2 hop1
  generalize overB 1092616192 ((k : Int) - 40) = y at *
  go_wp2_with (simp only [hop2])
  go_ret
  exact ⟨⟨(x, y), HP1.out, HP2.out⟩, ⟨rfl, ⟨by rw [← mag_5]; exact HL1.out, by rw [← mag_5]; exact HL2.out⟩, HC2.out, HG2.out⟩⟩
end Go.Proofs.YtfdgijmmgllmgaaGreat
