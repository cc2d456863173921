/-
  Texts Tv Tw Tx Tz, joined.
-/
import Derived.Test.YtfdgijmmgllmgaaGreatR11
import Derived.Test.YtfdgijmmgllmgaaGreatR29
import Derived.Deep.RegionHeld3
import Derived.Deep.DeepCutAuto
namespace Go.Proofs.YtfdgijmmgllmgaaGreat
open Go.ChangeShapes Go.WideShapes Go.ChangeAt Go.RowKit Go.Joins
set_option linter.unusedSimpArgs false
set_option linter.unusedVariables false
set_option maxRecDepth 100000
attribute [local go_sem] store_f
open Ieee Go.Lib
attribute [local go_sem] store_c
structure JoinS (x y u v a b : Nat) : Prop where
  call : ∀ w : World, Calls Tryz.prog 97 #[.complex .f32 x y, .complex .f32 u v] w fun e w' => e = .returned (.complex .f32 a b) ∧ w' = w
theorem joinS {x y u v a b : Nat} (P : OpS 134 x u a) (Q : OpS 134 y v b) : JoinS x y u v a b := ⟨fun w => by
  go_enter Tryz.func97, Tryz.ntmps97
  go_wp2_with (go_at_call 134; (first | (with_reducible refine (P.call _).mono ?_) | (with_reducible refine (Q.call _).mono ?_)); rintro e w1 ⟨rfl, rfl⟩)
  go_ret
  exact ⟨rfl, rfl⟩⟩
theorem join_lim {A B : Nat} {p q : PtW} (hp : Lim A p) (hq : Lim B q) (h : A + B < 1600) : JoinS p.1.1 p.1.2 q.1.1 q.1.2 (sumP p q).1.1 (sumP p q).1.2 := by
  obtain ⟨I, _⟩ := lim_sum hp hq h
  obtain ⟨h1, h2⟩ := rk_of h
  rw [sumP_1 I]
  refine joinS (plusS (R := rK (A + B)) p.2.1.cl.fin q.2.1.cl.fin (by omega) ?_) (plusS (R := rK (A + B)) p.2.2.cl.fin q.2.2.cl.fin (by omega) ?_)
  · rw [h1]; exact add_le hp.x hq.x
  · rw [h1]; exact add_le hp.y hq.y
structure InWS (kind : Int) (x y : Nat) : Prop where
  call : ∀ w : World, Calls Tryz.prog 136 #[.int .i64 kind, .complex .f32 x y] w fun e w' => e = .returned (.bool true) ∧ Below w.heap.size w w'
theorem inWS {kind : Int} {x y : Nat} (P : PtS x y) (W : WedS kind x y true) : InWS kind x y := ⟨fun w => by
  go_enter Tryz.func136, Tryz.ntmps136
  go_wp2_with fail
  refine (P.call _).mono ?_
  rintro e w1 ⟨rfl, hb⟩
  have HB := Lib.hid hb
  clear hb
  go_wp2_with fail
  refine (W.call _).mono ?_
  rintro e w2 ⟨rfl, rfl⟩
  go_wp2
  go_ret
  exact ⟨rfl, HB.out⟩⟩
set_option maxHeartbeats 8000000 in
theorem copyS {kind : Int} {g1 g2 ls N : Nat} {L : List Bw} (hL : L.length = N) (hn : N ≤ 8) : CopyM 74 kind g1 g2 ls N L := ⟨fun w a cap hr => by
  obtain ⟨i0, hi, hz0, hz1, hz2⟩ := info_parts infoB
  cases a with
  | none =>
    have hLn : L = [] := by
      rcases hr with h | ⟨g, e, _⟩
      · exact h
      · cases e
    subst hLn
    obtain rfl : N = 0 := by simpa using hL.symm
    clear hr hL
    go_enter Tryz.func74, Tryz.ntmps74
    go_wp2_with fail
    refine bodyPost_ret (v := .agg #[.int .i64 kind, .complex .f32 g1 g2, .float .f32 ls, .slice (some ⟨w.heap.size + 1 + 1, 0, Option.none⟩) 0 0]) (by simp [results, Tryz.results74, go_sem]) rfl ⟨_, _, ⟨rfl, ?_, by show Below w.heap.size w _; (repeat' (first | (with_reducible exact Below.refl _ _) | (with_reducible assumption) | (with_reducible refine Below.alloc ?_ ?_ _) | (with_reducible refine Below.drew ?_) | (with_reducible refine Below.setCell ?_ ?_ _) | (with_reducible refine Below.trans ?_ (Below.mono (by assumption) ?_)) | (with_reducible exact Nat.le_refl _) | omega | (simp only [World.size_alloc, World.size_setCell, World.size_drew]; omega) | (simp; omega) | (simp; done)))⟩⟩
    have h := World.ownsRow_lit (base := w.heap.size) ((w.alloc (.cells #[.int .i64 kind, .complex .f32 g1 g2, .float .f32 ls, .slice (some ⟨w.heap.size + 1 + 1, 0, Option.none⟩) 0 0] 31)).alloc (.cells #[.int .i64 kind, .complex .f32 g1 g2, .float .f32 ls, .slice (some ⟨w.heap.size + 1 + 1, 0, Option.none⟩) 0 0] 31)) (e := 59) (size := 2) #[] 0 (by simp; omega) (by unfold maxLen; omega) rfl
    simpa [bwCells] using h
  | some ad =>
    have HN : Hid (∀ (o1 o2 o3 : Obj) j u, (bwCells L)[j]? = some u → (((w.alloc o1).alloc o2).alloc o3).cell? (ad.add j) = some u) := by
      rcases hr with h | ⟨g, e, h⟩
      · subst h
        intro o1 o2 o3 j u hj
        simp [bwCells] at hj
      · cases e
        intro o1 o2 o3 j u hj
        have hjl : j < L.length * 2 := by
          have := (List.getElem?_eq_some_iff.1 hj).1
          rwa [bwCells_len] at this
        rw [Go.WideShapes.add_plain, Nat.zero_add]
        have hg := bwCells_get L (j / 2) (by omega)
        have hc := h (j / 2) (by omega)
        rcases (by omega : j = j / 2 * 2 ∨ j = j / 2 * 2 + 1) with e | e
        · rw [e] at hj ⊢
          rw [hg.1] at hj
          rw [← hj]; exact cAlloc (cAlloc (cAlloc hc.1))
        · rw [e] at hj ⊢
          rw [hg.2] at hj
          rw [← hj]; exact cAlloc (cAlloc (cAlloc hc.2))
    have HL := Lib.hid hL
    clear hr hL
    go_enter Tryz.func74, Tryz.ntmps74
    go_wp2_with (at_builtin; go_loud (refine wpList_append_own _ rfl _ _ 29 rfl (w.heap.size + 1 + 1) 59 i0 (.agg #[.complex .f32 0 0, .complex .f32 0 0]) 2 16 Tryz.underlying29 hi hz0 hz1 hz2 rfl (by decide) _ 0 [] rfl ?_ ad N cap (bwCells L) rfl ?_ ?_ ?_ ?_ ?_ ?_ ?_))
    · have h := World.ownsRow_lit ((w.alloc (.cells #[.int .i64 kind, .complex .f32 g1 g2, .float .f32 ls, .slice (some ad) N cap] 31)).alloc (.cells #[.int .i64 0, .complex .f32 0 0, .float .f32 0, .slice Option.none 0 0] 31)) (e := 59) (size := 2) (base := w.heap.size + 1 + 1) #[] 0 (by simp) (by unfold maxLen; omega) rfl
      simp only [World.size_alloc] at h
      exact h
    · rw [bwCells_len, HL.out]
    · intro j u hj
      exact HN.out _ _ _ j u hj
    · intro u hu
      simp only [bwCells, List.mem_flatMap, Bw.cells] at hu
      obtain ⟨b, _, hu⟩ := hu
      simp at hu
      rcases hu with rfl | rfl <;> rfl
    · unfold maxLen; omega
    · omega
    · first | omega | (simp only [World.size_alloc, World.size_setCell, World.size_drew]; omega)
    intro v' w1 hown' hgrow hvn
    have hg : (((w.alloc (.cells #[.int .i64 kind, .complex .f32 g1 g2, .float .f32 ls, .slice (some ad) N cap] 31)).alloc (.cells #[.int .i64 0, .complex .f32 0 0, .float .f32 0, .slice Option.none 0 0] 31)).alloc (.cells #[] 59)).grownBy w1 (some (w.heap.size + 1 + 1)) := hgrow
    have M1 : Hid (Blk w1 w.heap.size #[.int .i64 kind, .complex .f32 g1 g2, .float .f32 ls, .slice (some ad) N cap] 31) := Blk.grown (((Blk.new _ _ _).alloc).alloc) hg (by omega)
    have R1 : Hid (Blk w1 (w.heap.size + 1) #[.int .i64 0, .complex .f32 0 0, .float .f32 0, .slice Option.none 0 0] 31) := Blk.grown ((Blk.newAt (by simp)).alloc) hg (by omega)
    have hB : Below w.heap.size w (((w.alloc (.cells #[.int .i64 kind, .complex .f32 g1 g2, .float .f32 ls, .slice (some ad) N cap] 31)).alloc (.cells #[.int .i64 0, .complex .f32 0 0, .float .f32 0, .slice Option.none 0 0] 31)).alloc (.cells #[] 59)) := by show Below w.heap.size w _; (repeat' (first | (with_reducible exact Below.refl _ _) | (with_reducible assumption) | (with_reducible refine Below.alloc ?_ ?_ _) | (with_reducible refine Below.drew ?_) | (with_reducible refine Below.setCell ?_ ?_ _) | (with_reducible refine Below.trans ?_ (Below.mono (by assumption) ?_)) | (with_reducible exact Nat.le_refl _) | omega | (simp only [World.size_alloc, World.size_setCell, World.size_drew]; omega) | (simp; omega) | (simp; done)))
    have hBs := hB.size
    have G1 : Hid (Below w.heap.size w w1) := hB.trans (below_of_grown hg (by omega) hBs)
    have h1 : w1.ownsRow (w.heap.size + 1 + 1) 59 2 v' N (bwCells L) := by simpa using hown'
    have O1 := Lib.hid h1
    clear hB hBs h1
    have s1 := hg.size
    simp only [World.size_alloc] at s1
    clear hown' hgrow hvn hg HN
    obtain ⟨a', c', rfl⟩ : ∃ a' c', v' = .slice a' N c' := by
      rcases ownsRow_forms O1.out with ⟨rfl, h0⟩ | ⟨g, c', rfl⟩
      · exact ⟨_, _, by rw [h0]⟩
      · exact ⟨_, _, rfl⟩
    (obtain ⟨m0, m1, m2, m3⟩ := blk4 (M1.out))
    (obtain ⟨r0, r1, r2, r3⟩ := blk4 (R1.out))
    have fm := M1.out.free 3
    have f0 := R1.out.free 0
    have f1 := R1.out.free 1
    have f2 := R1.out.free 2
    have f3 := R1.out.free 3
    have l0 := M1.out.lt
    have l1 := R1.out.lt
    have RS := (((((R1.out.other (a := ⟨w.heap.size, 3, Option.none⟩) (v := .slice a' N c') (by dsimp only; omega)).set (i := 0) (v := .int .i64 kind)).set (i := 1) (v := .complex .f32 g1 g2)).set (i := 2) (v := .float .f32 ls)).set (i := 3) (v := .slice a' N c'))
    have e0 := RS.cell 0
    have e1 := RS.cell 1
    have e2 := RS.cell 2
    have e3 := RS.cell 3
    simp only [List.setIfInBounds_toArray, List.set_cons_zero, List.set_cons_succ, List.getElem?_toArray, List.getElem?_cons_zero, List.getElem?_cons_succ] at e0 e1 e2 e3
    have E0 := Lib.hid e0
    have E1 := Lib.hid e1
    have E2 := Lib.hid e2
    have E3 := Lib.hid e3
    clear RS e0 e1 e2 e3
    go_wp2_with fail
    have e0 := E0.out
    have e1 := E1.out
    have e2 := E2.out
    have e3 := E3.out
    refine bodyPost_ret (v := .agg #[.int .i64 kind, .complex .f32 g1 g2, .float .f32 ls, .slice a' N c']) (by simp [results, Tryz.results74, go_sem, e0, e1, e2, e3]) rfl ⟨a', c', ⟨rfl, ?_, ?_⟩⟩
    · exact owns_less (owns_set (owns_set (owns_set (owns_set (owns_set O1.out (by dsimp only; omega)) (by dsimp only; omega)) (by dsimp only; omega)) (by dsimp only; omega)) (by dsimp only; omega)) (by omega)
    · exact ((((G1.out.setCell (by dsimp only; omega) _).setCell (by dsimp only; omega) _).setCell (by dsimp only; omega) _).setCell (by dsimp only; omega) _).setCell (by dsimp only; omega) _⟩
set_option maxHeartbeats 16000000 in
theorem isTS {kind : Int} {g1 g2 ls N : Nat} {L : List Bw} (h0 : 0 ≤ kind) (h3 : kind ≤ 3) (P : PtS g1 g2) (hs : shareB ls = true) (hlx : ls < 4294967296) (hL : L.length = N) (hn : N ≤ 8) (hw : ∀ k, k < N → InWS kind (L.getD k default).a1 (L.getD k default).a2) (hv : ∀ k, k < N → PtS (L.getD k default).v1 (L.getD k default).v2) : IsT 105 kind g1 g2 ls N L := ⟨fun w a cap hr => by
  have YK := fun w => l1In_s kind 0 3 w
  rw [lieB_yes h0 h3] at YK
  have YS := fun w => l2Part_is hs hlx w
  have HR := Lib.hid hr
  have HW := Lib.hid hw
  have HV := Lib.hid hv
  have HL := Lib.hid hL
  clear hr hL hw hv h0 h3 hs hlx
  go_enter Tryz.func105, Tryz.ntmps105
  go_wp2_with fail
  generalize hW : w.alloc (.cells #[.int .i64 kind, .complex .f32 g1 g2, .float .f32 ls, .slice a N cap] 31) = X
  have M0 : Hid (Blk X w.heap.size #[.int .i64 kind, .complex .f32 g1 g2, .float .f32 ls, .slice a N cap] 31) := by rw [← hW]; exact Blk.new _ _ _
  have B0 : Hid (BwIn X a L) := by rw [← hW]; exact HR.out.alloc
  have G0 : Hid (Below w.heap.size w X) := by rw [← hW]; show Below w.heap.size w _; (repeat' (first | (with_reducible exact Below.refl _ _) | (with_reducible assumption) | (with_reducible refine Below.alloc ?_ ?_ _) | (with_reducible refine Below.drew ?_) | (with_reducible refine Below.setCell ?_ ?_ _) | (with_reducible refine Below.trans ?_ (Below.mono (by assumption) ?_)) | (with_reducible exact Nat.le_refl _) | omega | (simp only [World.size_alloc, World.size_setCell, World.size_drew]; omega) | (simp; omega) | (simp; done)))
  clear hW HR
  refine (YK _).mono ?_
  rintro e w1 ⟨rfl, hb⟩
  have M1 := Lib.hid (M0.out.below hb)
  have B1 : Hid (BwIn w1 a L) := B0.out.below hb
  have G1 : Hid (Below w.heap.size w w1) := G0.out.trans (hb.mono G0.out.size)
  clear hb M0 B0 G0 YK
  (obtain ⟨m0, m1, m2, m3⟩ := blk4 (M1.out))
  go_wp2_with fail
  refine (P.call _).mono ?_
  rintro e w2 ⟨rfl, hb⟩
  have M2 := Lib.hid (M1.out.below hb)
  have B2 : Hid (BwIn w2 a L) := B1.out.below hb
  have G2 : Hid (Below w.heap.size w w2) := G1.out.trans (hb.mono G1.out.size)
  clear hb M1 B1 G1 m0 m1 m2 m3 P
  (obtain ⟨m0, m1, m2, m3⟩ := blk4 (M2.out))
  go_wp2_with fail
  refine (YS _).mono ?_
  rintro e w3 ⟨rfl, hb⟩
  have M3 := Lib.hid (M2.out.below hb)
  have B3 : Hid (BwIn w3 a L) := B2.out.below hb
  have G3 : Hid (Below w.heap.size w w3) := G2.out.trans (hb.mono G2.out.size)
  clear hb M2 B2 G2 m0 m1 m2 m3 YS
  (obtain ⟨m0, m1, m2, m3⟩ := blk4 (M3.out))
  have lm := M3.out.lt
  go_wp2_with fail
  go_loopw [30] (fun i wr => ∃ k : Nat, k ≤ N ∧ i = .int .i64 k ∧ Below w3.heap.size w3 wr) (fun i _ => N - (intOf i).toNat)
  case atStart => exact ⟨0, by omega, rfl, Below.refl _ _⟩
  case round =>
    obtain ⟨k, hk, rfl, hbel⟩ := hrel
    clear m0 m1 m2 m3 lm
    have HB := Lib.hid hbel
    have MR := Lib.hid (M3.out.below hbel)
    have hs := hbel.size
    by_cases hlt : k < N
    · have KW := HW.out k hlt
      have KV := HV.out k hlt
      rcases B3.out with hnil | ⟨g, rfl, hrow⟩
      · exfalso; have := HL.out; rw [hnil] at this; simp at this; omega
      obtain ⟨c0, c1⟩ := hrow.below hbel k (by have := HL.out; omega)
      generalize L.getD k default = b at KW KV c0 c1
      have lm := MR.out.lt
      (obtain ⟨m0, m1, m2, m3⟩ := blk4 (MR.out))
      clear hrow hbel
      go_wp2_with fail
      generalize hY : wr.alloc (.cells #[.complex .f32 b.a1 b.a2, .complex .f32 b.v1 b.v2] 59) = Y
      have Y0 : Hid (Blk Y wr.heap.size #[.complex .f32 b.a1 b.a2, .complex .f32 b.v1 b.v2] 59) := by rw [← hY]; exact Blk.new _ _ _
      have GY : Hid (Below w3.heap.size w3 Y) := by rw [← hY]; exact HB.out.alloc hs _
      clear hY c0 c1 m0 m1 m2 m3 lm
      refine (KW.call _).mono ?_
      rintro e w4 ⟨rfl, hb⟩
      have Y1 := Y0.out.below hb
      have G4 : Hid (Below w3.heap.size w3 w4) := GY.out.trans (hb.mono GY.out.size)
      (have y0 := Blk.cellAt (i := 0) Y1 rfl; have y1 := Blk.cellAt (i := 1) Y1 rfl; simp only [List.getElem_toArray, List.getElem_cons_zero, List.getElem_cons_succ] at y0 y1)
      clear Y1 hb GY Y0
      go_wp2_with fail
      refine (KV.call _).mono ?_
      rintro e w5 ⟨rfl, hb⟩
      have G5 : Hid (Below w3.heap.size w3 w5) := G4.out.trans (hb.mono G4.out.size)
      clear y0 y1 hb G4
      go_wp2
      go_roundw
      case rel => exact ⟨k + 1, by omega, by go_num, G5.out⟩
      case measure => simp [intOf]; omega
    · have hkm : k = N := by omega
      subst hkm
      clear hbel
      go_wp2
      go_ret
      exact ⟨rfl, G3.out.trans (HB.out.mono G3.out.size)⟩⟩
end Go.Proofs.YtfdgijmmgllmgaaGreat
namespace Go.Proofs.YtfdgijmmgllmgaaGreat
open Go.ChangeShapes Go.WideShapes Go.ChangeAt Go.RowKit Go.Joins
set_option linter.unusedSimpArgs false
set_option linter.unusedVariables false
set_option maxRecDepth 100000
attribute [local go_sem] store_f
open Ieee Go.Lib
attribute [local go_sem] store_c
structure MoveS (kind : Int) (g1 g2 ls : Nat) (b c : Bw) : Prop where
  call : ∀ (w : World) (a : Option Addr) (n cap : Nat), Calls Tryz.prog 163 #[.agg #[.int .i64 kind, .complex .f32 g1 g2, .float .f32 ls, .slice a n cap], .agg #[.complex .f32 b.a1 b.a2, .complex .f32 b.v1 b.v2]] w fun e w' => e = .returned (.tuple #[.agg #[.complex .f32 c.a1 c.a2, .complex .f32 c.v1 c.v2], .bool true]) ∧ Below w.heap.size w w'
structure MovesS (kind : Int) (g1 g2 ls : Nat) (b c : Bw) (x y z1 z2 : Nat) (t : Int) (f : Bool) (u v k : Nat) : Prop where
  j1 : JoinS b.v1 b.v2 g1 g2 x y
  j2 : JoinS b.a1 b.a2 x y z1 z2
  fold : FoldMS kind z1 z2 c.a1 c.a2 t f
  pt : PtS x y
  act : ActS' t f x y u v
  kept : OpS 162 1065353216 ls k
  same : t = 0 → f = false → c.v1 = u ∧ c.v2 = v
  less1 : ¬ (t = 0 ∧ f = false) → OpS 166 u k c.v1
  less2 : ¬ (t = 0 ∧ f = false) → OpS 166 v k c.v2
set_option maxHeartbeats 16000000 in
theorem move_s {kind : Int} {g1 g2 ls : Nat} {b c : Bw} {x y z1 z2 : Nat} {t : Int} {f : Bool} {u v k : Nat} (M : MovesS kind g1 g2 ls b c x y z1 z2 t f u v k) : MoveS kind g1 g2 ls b c := ⟨fun w a n cap => by
  have J1 := M.j1
  have J2 := M.j2
  have F := M.fold
  have P := M.pt
  have A := M.act
  have D := M.kept
  go_enter Tryz.func163, Tryz.ntmps163
  go_wp2_with (go_at_call 97; (with_reducible refine (J1.call _).mono ?_); rintro e w1 ⟨rfl, rfl⟩)
  generalize hW : ((w.alloc (.cells #[.int .i64 kind, .complex .f32 g1 g2, .float .f32 ls, .slice a n cap] 31)).alloc (.cells #[.complex .f32 b.a1 b.a2, .complex .f32 b.v1 b.v2] 59)).alloc (.cells #[.complex .f32 0 0, .complex .f32 0 0] 59) = X
  have T0 : Blk X w.heap.size #[.int .i64 kind, .complex .f32 g1 g2, .float .f32 ls, .slice a n cap] 31 := by rw [← hW]; exact ((Blk.new _ _ _).alloc).alloc
  have B0 : Blk X (w.heap.size + 1) #[.complex .f32 b.a1 b.a2, .complex .f32 b.v1 b.v2] 59 := by rw [← hW]; exact (Blk.newAt (by simp)).alloc
  have R0 : Hid (Blk X (w.heap.size + 1 + 1) #[.complex .f32 0 0, .complex .f32 0 0] 59) := by rw [← hW]; exact Blk.newAt (by simp)
  have HB : Hid (Below w.heap.size w X) := by rw [← hW]; show Below w.heap.size w _; (repeat' (first | (with_reducible exact Below.refl _ _) | (with_reducible assumption) | (with_reducible refine Below.alloc ?_ ?_ _) | (with_reducible refine Below.drew ?_) | (with_reducible refine Below.setCell ?_ ?_ _) | (with_reducible refine Below.trans ?_ (Below.mono (by assumption) ?_)) | (with_reducible exact Nat.le_refl _) | omega | (simp only [World.size_alloc, World.size_setCell, World.size_drew]; omega) | (simp; omega) | (simp; done)))
  have sX : X.heap.size = w.heap.size + 3 := by rw [← hW]; simp
  clear hW
  have HT : Hid (Blk X w.heap.size #[.int .i64 kind, .complex .f32 g1 g2, .float .f32 ls, .slice a n cap] 31) := T0
  (obtain ⟨t0, t1, t2, t3⟩ := blk4 (T0))
  (have b0 := Blk.cellAt (i := 0) B0 rfl; have b1 := Blk.cellAt (i := 1) B0 rfl; simp only [List.getElem_toArray, List.getElem_cons_zero, List.getElem_cons_succ] at b0 b1)
  clear T0 B0 t1 t2 t3 b1
  have hX0 : Below X.heap.size X X := Below.refl _ _
  have hX1 : X.heap.size ≤ X.heap.size := Nat.le_refl _
  have l0 : w.heap.size < X.heap.size := by omega
  have l1 : w.heap.size + 1 < X.heap.size := by omega
  have l2 : w.heap.size + 2 < X.heap.size := by omega
  clear sX
  go_cut [7, 8, 9] (fun p8 p9 p10 wx => p8 = .complex .f32 c.a1 c.a2 ∧ p10 = .bool true ∧ ∃ nh : Nat, p9 = .pointer (some ⟨nh, 0, Option.none⟩) ∧ nh < wx.heap.size ∧ wx.cell? ⟨nh, 0, Option.none⟩ = some (.int .i64 (t)) ∧ wx.cell? ⟨nh, 1, Option.none⟩ = some (.bool (f)) ∧ Below X.heap.size X wx ∧ X.heap.size ≤ wx.heap.size)
  case first =>
    go_region_held3 (fun wx => Below X.heap.size X wx ∧ X.heap.size ≤ wx.heap.size ∧ w.heap.size < wx.heap.size ∧ w.heap.size + 1 < wx.heap.size ∧ wx.cell? ⟨w.heap.size, 0, Option.none⟩ = some (.int .i64 kind) ∧ wx.cell? ⟨w.heap.size + 1, 0, Option.none⟩ = some (.complex .f32 b.a1 b.a2))
      (((repeat' apply And.intro) <;> first | (with_reducible assumption) | (((repeat (first | (with_reducible assumption) | (with_reducible exact cNewAt (by first | rfl | (simp only [World.size_alloc, World.size_setCell, World.size_drew]; done) | omega) rfl) | (with_reducible exact sNewAt (by first | rfl | (simp only [World.size_alloc, World.size_setCell, World.size_drew]; done) | omega) rfl) | (simp; done) | (with_reducible apply cAlloc) | (with_reducible apply cDrew) | (with_reducible refine cSet (by dsimp only; omega) ?_) | (with_reducible refine cSetOff (by dsimp only; omega) ?_) | (with_reducible apply cSame) | (with_reducible refine cBelow (by assumption) ?_) | (with_reducible apply sAlloc) | (with_reducible apply sDrew) | (with_reducible refine sBelow (by assumption) ?_) | (with_reducible refine sSet (by dsimp only; omega) ?_))); first | done | (simp [*]; done)); done) | (simp only [World.size_alloc, World.size_setCell, World.size_drew]; omega) | omega | (go_keep; done) | ((repeat' (first | (with_reducible exact Below.refl _ _) | (with_reducible assumption) | (with_reducible refine Below.alloc ?_ ?_ _) | (with_reducible refine Below.drew ?_) | (with_reducible refine Below.setCell ?_ ?_ _) | (with_reducible refine Below.trans ?_ (Below.mono (by assumption) ?_)) | (with_reducible exact Nat.le_refl _) | omega | (simp only [World.size_alloc, World.size_setCell, World.size_drew]; omega) | (simp; omega) | (simp; done))); done)))
      (first | (go_at_call 97; (with_reducible refine (J2.call _).mono ?_); rintro e w2 ⟨rfl, rfl⟩) | (go_at_call 109; (with_reducible refine (F.call _).mono ?_); rintro e w3 ⟨rfl, hb⟩; have hbs := hb.size; (try simp only [World.size_alloc, World.size_setCell, World.size_drew] at hbs); (try ((first | have hN := Blk.belowAt hb hN | have hN := Blk.belowAt hb (Blk.drew (Blk.new _ _ _)) | have hN := Blk.belowAt hb (Blk.new _ _ _)); (try simp only [World.size_drew] at hN); have y0 := Blk.cellAt (i := 0) hN rfl; have y1 := Blk.cellAt (i := 1) hN rfl; simp only [List.getElem_toArray, List.getElem_cons_zero, List.getElem_cons_succ] at y0 y1; have z0 := hN.free 0; have z1 := hN.free 1; have zl := hN.lt))))
    all_goals (go_wp2_with fail; go_meet; refine ⟨rfl, rfl, _, rfl, ?_⟩; ((repeat' apply And.intro) <;> first | (with_reducible assumption) | (((repeat (first | (with_reducible assumption) | (with_reducible exact cNewAt (by first | rfl | (simp only [World.size_alloc, World.size_setCell, World.size_drew]; done) | omega) rfl) | (with_reducible exact sNewAt (by first | rfl | (simp only [World.size_alloc, World.size_setCell, World.size_drew]; done) | omega) rfl) | (simp; done) | (with_reducible apply cAlloc) | (with_reducible apply cDrew) | (with_reducible refine cSet (by dsimp only; omega) ?_) | (with_reducible refine cSetOff (by dsimp only; omega) ?_) | (with_reducible apply cSame) | (with_reducible refine cBelow (by assumption) ?_) | (with_reducible apply sAlloc) | (with_reducible apply sDrew) | (with_reducible refine sBelow (by assumption) ?_) | (with_reducible refine sSet (by dsimp only; omega) ?_))); first | done | (simp [*]; done)); done) | (simp only [World.size_alloc, World.size_setCell, World.size_drew]; omega) | omega | (go_keep; done) | ((repeat' (first | (with_reducible exact Below.refl _ _) | (with_reducible assumption) | (with_reducible refine Below.alloc ?_ ?_ _) | (with_reducible refine Below.drew ?_) | (with_reducible refine Below.setCell ?_ ?_ _) | (with_reducible refine Below.trans ?_ (Below.mono (by assumption) ?_)) | (with_reducible exact Nat.le_refl _) | omega | (simp only [World.size_alloc, World.size_setCell, World.size_drew]; omega) | (simp; omega) | (simp; done))); done)))
  case rest =>
    obtain ⟨rfl, rfl, nh, rfl, hnh, s0, s1, hbel, hsz⟩ := hcut
    have HS : Hid (wc.cell? ⟨nh, 0, Option.none⟩ = some (.int .i64 (t)) ∧ wc.cell? ⟨nh, 1, Option.none⟩ = some (.bool (f))) := ⟨s0, s1⟩
    have HTC : Hid (Blk wc w.heap.size #[.int .i64 kind, .complex .f32 g1 g2, .float .f32 ls, .slice a n cap] 31) := HT.out.below hbel
    have HRC : Hid (Blk wc (w.heap.size + 1 + 1) #[.complex .f32 0 0, .complex .f32 0 0] 59) := R0.out.below hbel
    have HBC : Hid (Below w.heap.size w wc) := HB.out.trans (hbel.mono (by omega))
    have hls : w.heap.size ≤ wc.heap.size := by omega
    clear hbel t0 b0 hX0 HT R0 HB hX1 l0 l1 l2 hsz s0 s1
    go_wp2_with fail
    refine (P.call _).mono ?_
    rintro e w4 ⟨rfl, hb⟩
    have s0 := cBelow hb HS.out.1
    have s1 := cBelow hb HS.out.2
    have HS4 : Hid (w4.cell? ⟨nh, 0, Option.none⟩ = some (.int .i64 (t)) ∧ w4.cell? ⟨nh, 1, Option.none⟩ = some (.bool (f))) := ⟨s0, s1⟩
    have HT4 := Lib.hid (HTC.out.below hb)
    have HR4 := Lib.hid (HRC.out.below hb)
    have HB4 : Hid (Below w.heap.size w w4) := HBC.out.trans (hb.mono hls)
    have hn4 : nh < w4.heap.size := Nat.lt_of_lt_of_le hnh hb.size
    have hl4 : w.heap.size ≤ w4.heap.size := Nat.le_trans hls hb.size
    clear hb HS HTC HRC HBC hls hnh
    go_wp2_with fail
    refine (A.call _).mono ?_
    rintro e w5 ⟨rfl, hb⟩
    have q0 := cBelow hb HS4.out.1
    have q1 := cBelow hb HS4.out.2
    have HT5 : Hid (Blk w5 w.heap.size #[.int .i64 kind, .complex .f32 g1 g2, .float .f32 ls, .slice a n cap] 31) := HT4.out.below hb
    have HR5 : Hid (Blk w5 (w.heap.size + 1 + 1) #[.complex .f32 0 0, .complex .f32 0 0] 59) := HR4.out.below hb
    have HB5 : Hid (Below w.heap.size w w5) := HB4.out.trans (hb.mono hl4)
    have hn5 : nh < w5.heap.size := Nat.lt_of_lt_of_le hn4 hb.size
    have RS := (HR5.out.set (i := 0) (v := .complex .f32 c.a1 c.a2)).set (i := 1) (v := .complex .f32 c.v1 c.v2)
    have e0 := RS.cell 0
    have e1 := RS.cell 1
    simp only [List.setIfInBounds_toArray, List.set_cons_zero, List.set_cons_succ, List.getElem?_toArray, List.getElem?_cons_zero, List.getElem?_cons_succ] at e0 e1
    have E0 := Lib.hid e0
    have E1 := Lib.hid e1
    clear hb s0 s1 HS4 HT4 HR4 HB4 hl4 hn4 RS e0 e1
    (obtain ⟨t0, t1, t2, t3⟩ := blk4 (HT5.out))
    (have r0 := Blk.cellAt (i := 0) HR5.out rfl; have r1 := Blk.cellAt (i := 1) HR5.out rfl; simp only [List.getElem_toArray, List.getElem_cons_zero, List.getElem_cons_succ] at r0 r1)
    have f0 := HR5.out.free 0
    have f1 := HR5.out.free 1
    have lr := HR5.out.lt
    have lt5 := HT5.out.lt
    have SAME : Hid (t = 0 → f = false → c.v1 = u ∧ c.v2 = v) := M.same
    have LESS1 : Hid (¬ (t = 0 ∧ f = false) → OpS 166 u k c.v1) := M.less1
    have LESS2 : Hid (¬ (t = 0 ∧ f = false) → OpS 166 v k c.v2) := M.less2
    clear M t1 t3
    by_cases h0 : t = 0
    · subst h0
      cases f
      · obtain ⟨v1, v2⟩ := SAME.out rfl rfl
        have V1 := Lib.hid v1
        have V2 := Lib.hid v2
        clear v1 v2
        go_wp2_with fail
        have e0 := E0.out
        have e1 := E1.out
        rw [V1.out, V2.out] at *
        exact bodyPost_ret (v := .tuple #[.agg #[.complex .f32 c.a1 c.a2, .complex .f32 u v], .bool true]) (by simp [results, Tryz.results163, go_sem, e0, e1]) rfl ⟨by simp, (HB5.out.setCell (by dsimp only; omega) _).setCell (by dsimp only; omega) _⟩
      · have J3 := LESS1.out (by simp)
        have J4 := LESS2.out (by simp)
        go_wp2_with (first | (go_at_call 162; (with_reducible refine (D.call _).mono ?_); rintro e w6 ⟨rfl, rfl⟩) | (go_at_call 166; (first | (with_reducible refine (J3.call _).mono ?_) | (with_reducible refine (J4.call _).mono ?_)); rintro e w7 ⟨rfl, rfl⟩))
        have e0 := E0.out
        have e1 := E1.out
        exact bodyPost_ret (v := .tuple #[.agg #[.complex .f32 c.a1 c.a2, .complex .f32 c.v1 c.v2], .bool true]) (by simp [results, Tryz.results163, go_sem, e0, e1]) rfl ⟨by simp, (HB5.out.setCell (by dsimp only; omega) _).setCell (by dsimp only; omega) _⟩
    · have J3 := LESS1.out (fun h => h0 h.1)
      have J4 := LESS2.out (fun h => h0 h.1)
      have h0' : (t == 0) = false := by simpa using h0
      go_wp2_with (first | (go_at_call 162; (with_reducible refine (D.call _).mono ?_); rintro e w6 ⟨rfl, rfl⟩) | (go_at_call 166; (first | (with_reducible refine (J3.call _).mono ?_) | (with_reducible refine (J4.call _).mono ?_)); rintro e w7 ⟨rfl, rfl⟩))
      have e0 := E0.out
      have e1 := E1.out
      exact bodyPost_ret (v := .tuple #[.agg #[.complex .f32 c.a1 c.a2, .complex .f32 c.v1 c.v2], .bool true]) (by simp [results, Tryz.results163, go_sem, e0, e1]) rfl ⟨by simp, (HB5.out.setCell (by dsimp only; omega) _).setCell (by dsimp only; omega) _⟩⟩
end Go.Proofs.YtfdgijmmgllmgaaGreat
namespace Go.Proofs.YtfdgijmmgllmgaaGreat
open Go.ChangeShapes Go.WideShapes Go.ChangeAt Go.RowKit Go.Joins
set_option linter.unusedSimpArgs false
set_option linter.unusedVariables false
set_option maxRecDepth 100000
attribute [local go_sem] store_f
open Ieee Go.Lib
attribute [local go_sem] store_c
structure StepsS (kind : Int) (g1 g2 ls N : Nat) (L M : List Bw) : Prop where
  few : N ≤ 8
  len : L.length = N
  len' : M.length = N
  ist : IsT 105 kind g1 g2 ls N L
  move : ∀ k, k < N → MoveS kind g1 g2 ls (L.getD k default) (M.getD k default)
structure StepTuM (F : FuncId) (kind : Int) (g1 g2 ls N : Nat) (L M : List Bw) : Prop where
  call : ∀ (w : World) (a : Option Addr) (cap : Nat), BwIn w a L → Calls Tryz.prog F #[.agg #[.int .i64 kind, .complex .f32 g1 g2, .float .f32 ls, .slice a N cap]] w fun e w' => ∃ a' c', RunOut w e w' kind g1 g2 ls N M a' c'
set_option maxHeartbeats 32000000 in
theorem stepS {kind : Int} {g1 g2 ls N : Nat} {L M : List Bw} (K : StepsS kind g1 g2 ls N L M) : StepTuM 140 kind g1 g2 ls N L M := ⟨fun w a cap hr => by
  have CT := copyS (kind := kind) (g1 := g1) (g2 := g2) (ls := ls) K.len K.few
  have IT := K.ist
  have HV := Lib.hid K.move
  have hn := K.few
  have HL := Lib.hid K.len
  have HM := Lib.hid K.len'
  have HR := Lib.hid hr
  have HGA : Hid (0 < N → ∃ g, a = some ⟨g, 0, Option.none⟩ ∧ g < w.heap.size) := fun h => by
    rcases hr with h0 | ⟨g, e, h1⟩
    · exfalso; have := K.len; rw [h0] at this; simp at this; omega
    · exact ⟨g, e, cell_lt (h1 0 (by have := K.len; omega)).1⟩
  clear K hr
  go_enter Tryz.func140, Tryz.ntmps140
  go_wp2_with fail
  generalize hX : (w.alloc (.cells #[.int .i64 kind, .complex .f32 g1 g2, .float .f32 ls, .slice a N cap] 31)).alloc (.cells #[.int .i64 0, .complex .f32 0 0, .float .f32 0, .slice Option.none 0 0] 31) = X
  have M0 : Hid (Blk X w.heap.size #[.int .i64 kind, .complex .f32 g1 g2, .float .f32 ls, .slice a N cap] 31) := by rw [← hX]; exact (Blk.new _ _ _).alloc
  have R0 : Hid (Blk X (w.heap.size + 1) #[.int .i64 0, .complex .f32 0 0, .float .f32 0, .slice Option.none 0 0] 31) := by rw [← hX]; exact Blk.newAt (by simp)
  have B0 : Hid (BwIn X a L) := by rw [← hX]; exact HR.out.alloc.alloc
  have G0 : Hid (Below w.heap.size w X) := by rw [← hX]; show Below w.heap.size w _; (repeat' (first | (with_reducible exact Below.refl _ _) | (with_reducible assumption) | (with_reducible refine Below.alloc ?_ ?_ _) | (with_reducible refine Below.drew ?_) | (with_reducible refine Below.setCell ?_ ?_ _) | (with_reducible refine Below.trans ?_ (Below.mono (by assumption) ?_)) | (with_reducible exact Nat.le_refl _) | omega | (simp only [World.size_alloc, World.size_setCell, World.size_drew]; omega) | (simp; omega) | (simp; done)))
  have sX : w.heap.size + 2 ≤ X.heap.size := by rw [← hX]; simp
  clear hX
  refine (CT.call _ _ _ B0.out).mono ?_
  rintro e w1 ⟨a1, ct, ⟨rfl, hown, hb⟩⟩
  have M1 := Lib.hid (M0.out.below hb)
  have R1 := Lib.hid (R0.out.below hb)
  have B1 : Hid (BwIn w1 a L) := B0.out.below hb
  have G1 : Hid (Below w.heap.size w w1) := G0.out.trans (hb.mono (by omega))
  obtain ⟨gt, hgt⟩ : ∃ gt : Nat, (X.heap.size ≤ gt ∧ gt ≠ w1.heap.size ∧ (0 < N → a1 = some ⟨gt, 0, Option.none⟩ ∧ BwBlk w1 gt N (fun k => L.getD k default))) := by
    rcases ownsRow_forms hown with ⟨e, h0⟩ | ⟨g, c', e⟩
    · refine ⟨w1.heap.size + 1, by have := hb.size; omega, by omega, fun hN => ?_⟩
      exfalso
      omega
    · cases e
      exact ⟨g, (hown.lt _ rfl).1, Nat.ne_of_lt (hown.lt _ rfl).2, fun _ => ⟨rfl, bwBlk_of hown HL.out⟩⟩
  obtain ⟨hgX, hgne, hgN⟩ := hgt
  have GN := Lib.hid hgN
  have s1 := hb.size
  clear hb hown M0 R0 B0 G0 CT hgN
  (obtain ⟨m0, m1, m2, m3⟩ := blk4 (M1.out))
  have l0 := M1.out.lt
  go_wp2_with fail
  generalize hV : w1.alloc (.cells #[.int .i64 kind, .complex .f32 g1 g2, .float .f32 ls, .slice a1 N ct] 31) = V
  have M2 : Hid (Blk V w.heap.size #[.int .i64 kind, .complex .f32 g1 g2, .float .f32 ls, .slice a N cap] 31) := by rw [← hV]; exact M1.out.alloc
  have R2 : Hid (Blk V (w.heap.size + 1) #[.int .i64 0, .complex .f32 0 0, .float .f32 0, .slice Option.none 0 0] 31) := by rw [← hV]; exact R1.out.alloc
  have D2 : Hid (Blk V w1.heap.size #[.int .i64 kind, .complex .f32 g1 g2, .float .f32 ls, .slice a1 N ct] 31) := by rw [← hV]; exact Blk.new _ _ _
  have B2 : Hid (BwIn V a L) := by rw [← hV]; exact B1.out.alloc
  have G2 : Hid (Below w.heap.size w V) := by rw [← hV]; exact G1.out.alloc (by omega) _
  have N2 : Hid (0 < N → a1 = some ⟨gt, 0, Option.none⟩ ∧ BwBlk V gt N (fun k => L.getD k default) ∧ gt < w1.heap.size) := fun h => by
    have h1 := (GN.out h).2
    rw [← hV]; exact ⟨(GN.out h).1, h1.alloc, h1.lt⟩
  have sV : w1.heap.size < V.heap.size := by rw [← hV]; simp
  clear hV M1 R1 B1 G1 GN m0 m1 m2 m3 l0
  generalize w1.heap.size = tb at *
  refine (IT.call _ _ _ B2.out).mono ?_
  rintro e w3 ⟨rfl, hb⟩
  have M6 := Lib.hid (M2.out.below hb)
  have R6 := Lib.hid (R2.out.below hb)
  have D6 := Lib.hid (D2.out.below hb)
  have B6 : Hid (BwIn w3 a L) := B2.out.below hb
  have N6 : Hid (0 < N → a1 = some ⟨gt, 0, Option.none⟩ ∧ BwBlk w3 gt N (fun k => L.getD k default) ∧ gt < tb) := fun h => by
    obtain ⟨h1, h2, h3⟩ := N2.out h
    exact ⟨h1, h2.below hb, h3⟩
  have G6 : Hid (Below w.heap.size w w3) := G2.out.trans (hb.mono (by omega))
  have s3 := hb.size
  clear hb M2 R2 D2 B2 N2 G2 IT
  have htb : w.heap.size + 2 ≤ tb := by omega
  (obtain ⟨m0, m1, m2, m3⟩ := blk4 (M6.out))
  have l1 := M6.out.lt
  go_wp2_with fail
  go_loopw [18] (fun i wr => ∃ j : Nat, j ≤ N ∧ i = .int .i64 j ∧ (0 < N → BwBlk wr gt N (fun k => if k < j then M.getD k default else L.getD k default)) ∧ w3.grownBy wr (some gt)) (fun i _ => N - (intOf i).toNat)
  case atStart => exact ⟨0, by omega, rfl, fun h => by simpa using (N6.out h).2.1, grownBy_refl _ _⟩
  case round =>
    obtain ⟨j, hj, rfl, hblk, hgr⟩ := hrel
    have GR := Lib.hid hgr
    have BK := Lib.hid hblk
    have hsz := hgr.size
    clear hblk hgr m0 m1 m2 m3 l1
    by_cases hlt : j < N
    · have hN0 : 0 < N := by omega
      obtain ⟨rfl, _, hgtb⟩ := N6.out hN0
      obtain ⟨gm, rfl, hgm⟩ := HGA.out hN0
      have KV := HV.out j hlt
      have hrow : BwRow wr gm L := by
        rcases B6.out with h | ⟨g, e, h⟩
        · exfalso; have := HL.out; rw [h] at this; simp at this; omega
        · cases e
          exact h.grown GR.out (fun e => by cases e; omega)
      obtain ⟨c0, c1⟩ := hrow j (by have := HL.out; omega)
      have MR := M6.out.grown GR.out (by omega)
      have DR := D6.out.grown GR.out (by omega)
      have BJ := BK.out hN0
      generalize hb0 : L.getD j default = b at KV c0 c1
      generalize hc0 : M.getD j default = c at KV
      have HCC := Lib.hid hc0
      clear hb0 hc0 hrow
      have l1 : w.heap.size < wr.heap.size := by omega
      have HMR := Lib.hid MR
      have HDR := Lib.hid DR
      have HBJ := Lib.hid BJ
      have MA := MR.alloc (o := .cells #[.complex .f32 b.a1 b.a2, .complex .f32 b.v1 b.v2] 59)
      (obtain ⟨m0, m1, m2, m3⟩ := blk4 (MA))
      clear MA MR DR BJ
      go_wp2_with fail
      refine (KV.call _ _ _ _).mono ?_
      rintro e w7 ⟨rfl, hb⟩
      have hbs := hb.size
      simp only [World.size_alloc] at hbs
      have DY : Blk w7 tb #[.int .i64 kind, .complex .f32 g1 g2, .float .f32 ls, .slice (some ⟨gt, 0, Option.none⟩) N ct] 31 := HDR.out.alloc.below hb
      have BY : BwBlk w7 gt N (fun k => if k < j then M.getD k default else L.getD k default) := HBJ.out.alloc.below hb
      have GY : Hid (w3.grownBy w7 (some gt)) := grownBy_trans (grown_alloc GR.out _) ⟨hb.os, hb.tape, hb.output, hb.size, fun i hi _ => hb.block i hi⟩
      have HBY := Lib.hid BY
      have d3 := Blk.cellAt (i := 3) DY rfl
      simp only [List.getElem_toArray, List.getElem_cons_zero, List.getElem_cons_succ] at d3
      obtain ⟨e0, e1⟩ := BY.cell hlt
      have z0 := BY.free (j * 2)
      have z1 := BY.free (j * 2 + 1)
      simp only [Nat.lt_irrefl, if_false] at e0 e1
      generalize L.getD j default = bb at e0 e1
      have l2 : gt < w7.heap.size := by omega
      have l3 : tb < w7.heap.size := by omega
      clear hb m0 m1 m2 m3 HMR HDR HBJ c0 c1 DY BY
      have BN : BwBlk ((w7.setCell ⟨gt, j * 2, Option.none⟩ (.complex .f32 c.a1 c.a2)).setCell ⟨gt, j * 2 + 1, Option.none⟩ (.complex .f32 c.v1 c.v2)) gt N (fun k => if k < j + 1 then M.getD k default else L.getD k default) := HBY.out.set hlt (fun i _ => by
        have hcc := HCC.out
        by_cases e : i = j
        · subst e
          rw [if_pos rfl]
          show (if i < i + 1 then M.getD i default else L.getD i default) = c
          rw [if_pos (Nat.lt_succ_self _)]; exact hcc
        · rw [if_neg e]
          show (if i < j + 1 then M.getD i default else L.getD i default) = if i < j then M.getD i default else L.getD i default
          by_cases e2 : i < j
          · rw [if_pos e2, if_pos (Nat.lt_succ_of_lt e2)]
          · rw [if_neg e2, if_neg (by omega)])
      have HBN := Lib.hid BN
      have HGN : Hid (w3.grownBy ((w7.setCell ⟨gt, j * 2, Option.none⟩ (.complex .f32 c.a1 c.a2)).setCell ⟨gt, j * 2 + 1, Option.none⟩ (.complex .f32 c.v1 c.v2)) (some gt)) := grownBy_set (grownBy_set GY.out)
      clear BN
      go_wp2_with fail
      go_roundw
      case rel => exact ⟨j + 1, by omega, by go_num, fun _ => HBN.out.alloc, grown_alloc HGN.out _⟩
      case measure => simp [intOf]; omega
    · have hjN : j = N := by omega
      subst hjN
      have D7 : Hid (Blk wr tb #[.int .i64 kind, .complex .f32 g1 g2, .float .f32 ls, .slice a1 j ct] 31) := by
        by_cases h0 : 0 < j
        · exact D6.out.grown GR.out (by have := (N6.out h0).2.2; omega)
        · have hj0 : j = 0 := by omega
          exact D6.out.grown GR.out (by omega)
      have R7 : Hid (Blk wr (w.heap.size + 1) #[.int .i64 0, .complex .f32 0 0, .float .f32 0, .slice Option.none 0 0] 31) := R6.out.grown GR.out (by omega)
      have B7 : Hid (BwIn wr a1 M) := by
        by_cases h0 : 0 < j
        · refine .inr ⟨gt, (N6.out h0).1, (BK.out h0).row HM.out (fun k hk => ?_)⟩
          rw [if_pos hk]
        · exact .inl (List.eq_nil_of_length_eq_zero (by have := HM.out; omega))
      have G7 : Hid (Below w.heap.size w wr) := G6.out.trans (below_of_grown GR.out (by omega) (by omega))
      have s7 : w3.heap.size ≤ wr.heap.size := hsz
      clear D6 M6 R6 B6 N6 G6 GR BK
      (obtain ⟨d0, d1, d2, d3⟩ := blk4 (D7.out))
      (obtain ⟨r0, r1, r2, r3⟩ := blk4 (R7.out))
      have P0 := Lib.hid r0
      have f0 := R7.out.free 0
      have f1 := R7.out.free 1
      have f2 := R7.out.free 2
      have f3 := R7.out.free 3
      have l0 := D7.out.lt
      have l1 := R7.out.lt
      have RS := ((((R7.out.set (i := 0) (v := .int .i64 kind)).set (i := 1) (v := .complex .f32 g1 g2)).set (i := 2) (v := .float .f32 ls)).set (i := 3) (v := .slice a1 j ct))
      have e0 := RS.cell 0
      have e1 := RS.cell 1
      have e2 := RS.cell 2
      have e3 := RS.cell 3
      simp only [List.setIfInBounds_toArray, List.set_cons_zero, List.set_cons_succ, List.getElem?_toArray, List.getElem?_cons_zero, List.getElem?_cons_succ] at e0 e1 e2 e3
      have E0 := Lib.hid e0
      have E1 := Lib.hid e1
      have E2 := Lib.hid e2
      have E3 := Lib.hid e3
      clear RS e0 e1 e2 e3
      go_wp2_with fail
      have e0 := E0.out
      have e1 := E1.out
      have e2 := E2.out
      have e3 := E3.out
      refine bodyPost_ret (v := .tuple #[.agg #[.int .i64 kind, .complex .f32 g1 g2, .float .f32 ls, .slice a1 j ct], .bool true]) (by simp [results, Tryz.results140, go_sem, e0, e1, e2, e3]) rfl ⟨a1, ct, ⟨rfl, B7.out.grownAt grown_set4 P0.out, ?_⟩⟩
      exact (((G7.out.setCell (by dsimp only; omega) _).setCell (by dsimp only; omega) _).setCell (by dsimp only; omega) _).setCell (by dsimp only; omega) _⟩
end Go.Proofs.YtfdgijmmgllmgaaGreat
namespace Go.Proofs.YtfdgijmmgllmgaaGreat
open Go.ChangeShapes Go.WideShapes Go.ChangeAt Go.RowKit Go.Joins
set_option linter.unusedSimpArgs false
set_option linter.unusedVariables false
set_option maxRecDepth 100000
attribute [local go_sem] store_f
open Ieee Go.Lib
theorem ptOf_self (p : PtW) : ptOf p.2.1.ok p.2.2.ok = p := by
  apply ptW_inj
  · show valOf F32 (cleanB p.1.1) = valOf F32 p.1.1
    exact val_cleanM p.2.1.cl.fin
  · show valOf F32 (cleanB p.1.2) = valOf F32 p.1.2
    exact val_cleanM p.2.2.cl.fin
theorem actS_pt {s : Int × Bool} (h : isSymB s.1 = true) (p : PtW) : ActS' s.1 s.2 p.1.1 p.1.2 (actP s p).1.1 (actP s p).1.2 := by
  obtain ⟨h1, h2⟩ := isSymB_iff.1 h
  have h := actS_of (t := s.1.toNat) s.2 (by omega) p.2.1.ok p.2.2.ok
  rw [Int.toNat_of_nonneg h1, ptOf_self] at h
  exact h
theorem foldS_pt {kind : Int} (h0 : 0 ≤ kind) (h3 : kind ≤ 3) (p : PtW) : FoldMS kind p.1.1 p.1.2 (actP (foldS kind p) p).1.1 (actP (foldS kind p) p).1.2 (foldS kind p).1 (foldS kind p).2 := by
  have h := foldS_raw h0 h3 p.2.1.ok p.2.2.ok
  rw [ptOf_self] at h
  exact h
theorem times_kept {x k : Nat} (hx : okB x = true) (fx : Fin32 x) (hk : Keep k) : OpS 166 x k (clM (valOf F32 x * valOf F32 k)) := by
  refine timesS (R := rungOf F32 x) fx hk.fin (by have := ok_rung hx; omega) ?_
  have h := keep_mul (x := x) hk
  rw [Int.natAbs_mul, abs_val, abs_val] at h
  exact h
theorem keptS {ls : Nat} (h : ls ≤ 1065353216) : OpS 162 1065353216 ls (keptW ls) := by
  unfold keptW
  refine minusS (R := 1065353216) (fin_of_lt (by omega)) (fin_of_lt (by omega)) (by omega) ?_
  have h1 : valOf F32 ls = (magOf F32 ls : Int) := val_of_lt (by omega)
  have h2 := magOf_le F32 h
  rw [mag_unit] at h2
  rw [val_one, h1, mag_unit]; omega
theorem move_mkS {kind : Int} {g1 g2 ls k : Nat} {b : Bw} {v z p u r : PtW} {s : Int × Bool} (J1 : JoinS b.v1 b.v2 g1 g2 v.1.1 v.1.2) (J2 : JoinS b.a1 b.a2 v.1.1 v.1.2 z.1.1 z.1.2) (F : FoldMS kind z.1.1 z.1.2 p.1.1 p.1.2 s.1 s.2)
    (P : PtS v.1.1 v.1.2) (A : ActS' s.1 s.2 v.1.1 v.1.2 u.1.1 u.1.2) (D : OpS 162 1065353216 ls k) (T1 : OpS 166 u.1.1 k r.1.1) (T2 : OpS 166 u.1.2 k r.1.2) :
    MoveS kind g1 g2 ls b (wd (p, if decide (¬ (s.1 = 0 ∧ s.2 = false)) then r else u)) := by
  by_cases h : s.1 = 0 ∧ s.2 = false
  · have e : decide (¬ (s.1 = 0 ∧ s.2 = false)) = false := by simp [h]
    rw [e]
    exact move_s (c := ⟨p.1.1, p.1.2, u.1.1, u.1.2⟩) (t := s.1) (f := s.2) ⟨J1, J2, F, P, A, D, fun _ _ => ⟨rfl, rfl⟩, fun hh => absurd h hh, fun hh => absurd h hh⟩
  · have e : decide (¬ (s.1 = 0 ∧ s.2 = false)) = true := decide_eq_true h
    rw [e]
    exact move_s (c := ⟨p.1.1, p.1.2, r.1.1, r.1.2⟩) (t := s.1) (f := s.2) ⟨J1, J2, F, P, A, D, fun h1 h2 => absurd ⟨h1, h2⟩ h, fun _ => T1, fun _ => T2⟩
theorem move_of_s {kind : Int} {g : PtW} {ls V G A : Nat} {b : PtW × PtW} (h0 : 0 ≤ kind) (h3 : kind ≤ 3) (hl : ls ≤ 1065353216) (hg : Lim G g) (hv : Lim V b.2) (ha : Lim A b.1) (h : A + (V + G) < 1600) : MoveS kind g.1.1 g.1.2 ls (wd b) (wd (bstep kind g (keptW ls) b)) := by
  have F := foldS_pt h0 h3 (sumP b.1 (sumP b.2 g))
  have F2 := foldIs h0 h3 (sumP b.1 (sumP b.2 g))
  have hk := kept_keep hl
  obtain ⟨_, hs⟩ := lim_sum hv hg (by omega)
  have J1 := join_lim hv hg (by omega)
  have J2 := join_lim ha hs h
  have hA := actS_pt (syms_range kind h0 h3 _ F2.mem) (sumP b.2 g)
  rw [bstep_eq, hits_eq]
  have hP := prodP_1 (prodP_of (p := actP (foldS kind (sumP b.1 (sumP b.2 g))) (sumP b.2 g)) hk).1
  have T1 := times_kept (actP (foldS kind (sumP b.1 (sumP b.2 g))) (sumP b.2 g)).2.1.ok (actP (foldS kind (sumP b.1 (sumP b.2 g))) (sumP b.2 g)).2.1.cl.fin hk
  have T2 := times_kept (actP (foldS kind (sumP b.1 (sumP b.2 g))) (sumP b.2 g)).2.2.ok (actP (foldS kind (sumP b.1 (sumP b.2 g))) (sumP b.2 g)).2.2.cl.fin hk
  have e1 := congrArg Prod.fst hP
  have e2 := congrArg Prod.snd hP
  dsimp only at e1 e2
  exact move_mkS (b := wd b) J1 J2 F (ptS (sumP b.2 g).2.1.ok (sumP b.2 g).2.2.ok) hA (keptS hl) (r := prodP (actP (foldS kind (sumP b.1 (sumP b.2 g))) (sumP b.2 g)) (keptW ls)) (by rw [e1]; exact T1) (by rw [e2]; exact T2)
end Go.Proofs.YtfdgijmmgllmgaaGreat
