/-
  Texts Tb Kk Tg Th Ti Ff Ta Tj Tk Sone Sthree, joined.
-/
import Derived.Test.YtfdgijmmgllmgaaGreatDoorS06
import Derived.Test.YtfdgijmmgllmgaaGreatDoorS07
import Derived.Lib.Hide
import Derived.Test.YtfdgijmmgllmgaaGreatDoorS01
import Derived.Deep.RegionHeld3
import Derived.Deep.DeepCutAuto
import Derived.Deep.AppendLies
import Derived.WalkSpells
import Derived.Test.YtfdgijmmgllmgaaGreatDoorS05
import Derived.Maps.AppendAt
namespace Go.Proofs.YtfdgijmmgllmgaaGreatDoor
open Go.ChangeShapes Go.WideShapes Go.ChangeAt Go.RowKit Go.Joins
set_option linter.unusedSimpArgs false
set_option linter.unusedVariables false
set_option maxRecDepth 100000
attribute [local go_sem] store_f
open Ieee Go.Lib
structure Bw where
  a1 : Nat
  a2 : Nat
  v1 : Nat
  v2 : Nat
instance : Inhabited Bw := ⟨⟨0, 0, 0, 0⟩⟩
def Bw.cells (b : Bw) : List Value := [.complex .f32 b.a1 b.a2, .complex .f32 b.v1 b.v2]
def bwCells (l : List Bw) : List Value := l.flatMap Bw.cells
theorem bwCells_len (l : List Bw) : (bwCells l).length = l.length * 2 := by
  induction l with
  | nil => rfl
  | cons p l ih => simp [bwCells, Bw.cells] at ih ⊢; omega
theorem bwCells_snoc (l : List Bw) (b : Bw) : bwCells (l ++ [b]) = bwCells l ++ b.cells := by simp [bwCells]
def BwRow (W : World) (g : Nat) (l : List Bw) : Prop :=
  ∀ k, k < l.length → W.cell? ⟨g, k * 2, Option.none⟩ = some (.complex .f32 (l.getD k default).a1 (l.getD k default).a2) ∧ W.cell? ⟨g, k * 2 + 1, Option.none⟩ = some (.complex .f32 (l.getD k default).v1 (l.getD k default).v2)
def BwIn (W : World) (a : Option Addr) (l : List Bw) : Prop := l = [] ∨ ∃ g, a = some ⟨g, 0, Option.none⟩ ∧ BwRow W g l
theorem bwCells_get : ∀ (l : List Bw) (k : Nat), k < l.length → (bwCells l)[k * 2]? = some (.complex .f32 (l.getD k default).a1 (l.getD k default).a2) ∧ (bwCells l)[k * 2 + 1]? = some (.complex .f32 (l.getD k default).v1 (l.getD k default).v2)
  | p :: l, 0, _ => ⟨rfl, rfl⟩
  | p :: l, k + 1, h => by
    have ih := bwCells_get l k (by simpa using h)
    have e : bwCells (p :: l) = .complex .f32 p.a1 p.a2 :: .complex .f32 p.v1 p.v2 :: bwCells l := rfl
    rw [e, show (k + 1) * 2 = k * 2 + 1 + 1 by omega]
    simpa using ih
theorem bwRow_of {W : World} {base g n cap : Nat} {l : List Bw} (h : W.ownsRow base 74 2 (.slice (some ⟨g, 0, Option.none⟩) n cap) n (bwCells l)) (hn : l.length = n) : BwRow W g l := fun k hk => by
  have hg := bwCells_get l k hk
  rw [h.cellAt _ (by omega), h.cellAt _ (by omega)]
  exact hg
theorem BwRow.below {W w1 : World} {g : Nat} {l : List Bw} (h : BwRow W g l) (hb : Below W.heap.size W w1) : BwRow w1 g l :=
  fun k hk => ⟨cBelow hb (h k hk).1, cBelow hb (h k hk).2⟩
theorem BwRow.alloc {W : World} {g : Nat} {o : Obj} {l : List Bw} (h : BwRow W g l) : BwRow (W.alloc o) g l :=
  fun k hk => ⟨cAlloc (h k hk).1, cAlloc (h k hk).2⟩
theorem BwRow.set {W : World} {g : Nat} {a : Addr} {v : Value} {l : List Bw} (h : BwRow W g l) (hne : g ≠ a.block) : BwRow (W.setCell a v) g l :=
  fun k hk => ⟨cSet hne (h k hk).1, cSet hne (h k hk).2⟩
theorem BwRow.drew {W : World} {g : Nat} {l : List Bw} (h : BwRow W g l) : BwRow W.drew g l := h
theorem BwRow.grown {W w1 : World} {g : Nat} {l : List Bw} {r : Option Nat} (h : BwRow W g l) (hg : W.grownBy w1 r) (hne : r ≠ some g) : BwRow w1 g l := fun k hk => by
  obtain ⟨h0, h1⟩ := h k hk
  have hl := cell_lt h0
  have e : ∀ i, w1.cell? ⟨g, i, Option.none⟩ = W.cell? ⟨g, i, Option.none⟩ := fun i => World.cell?_of_block (hg.block g hl (fun e => hne e.symm))
  rw [e, e]
  exact ⟨h0, h1⟩
theorem BwIn.below {W w1 : World} {a : Option Addr} {l : List Bw} (h : BwIn W a l) (hb : Below W.heap.size W w1) : BwIn w1 a l := by
  rcases h with h | ⟨g, e, h⟩
  · exact .inl h
  · exact .inr ⟨g, e, h.below hb⟩
theorem BwIn.alloc {W : World} {a : Option Addr} {l : List Bw} {o : Obj} (h : BwIn W a l) : BwIn (W.alloc o) a l := by
  rcases h with h | ⟨g, e, h⟩
  · exact .inl h
  · exact .inr ⟨g, e, h.alloc⟩
theorem BwIn.drew {W : World} {a : Option Addr} {l : List Bw} (h : BwIn W a l) : BwIn W.drew a l := h
theorem infoB : (Tryz.prog.info? 74).map (fun i => (i.zero, i.size, i.bytes)) = some (some (.agg #[.complex .f32 0 0, .complex .f32 0 0]), 2, 16) := by kernel_rfl
end Go.Proofs.YtfdgijmmgllmgaaGreatDoor
namespace Go.Proofs.YtfdgijmmgllmgaaGreatDoor
open Go.ChangeShapes Go.WideShapes Go.ChangeAt Go.RowKit Go.Joins
set_option linter.unusedSimpArgs false
set_option linter.unusedVariables false
set_option maxRecDepth 100000
attribute [local go_sem] store_f
def kindB (k : Int) : Bool := decide (0 ≤ k ∧ k ≤ 3)
theorem isKind_i (n : Int) (w : World) : Calls Tryz.prog 45 #[.int .i64 n] w fun e w' => e = .returned (.bool (kindB n)) ∧ w' = w := by
  by_cases h1 : 0 ≤ n
  · by_cases h2 : n ≤ 3
    · have e : kindB n = true := by unfold kindB; simp; omega
      rw [e]
      go_enter Tryz.func45, Tryz.ntmps45
      go_wp2
      go_ret
      exact ⟨rfl, rfl⟩
    · have e : kindB n = false := by unfold kindB; simp; omega
      rw [e]
      have hd : decide (n ≤ 3) = false := by simpa using h2
      go_enter Tryz.func45, Tryz.ntmps45
      go_wp2
      go_ret
      exact ⟨rfl, rfl⟩
  · have e : kindB n = false := by unfold kindB; simp; omega
    rw [e]
    have hd : decide (0 ≤ n) = false := by simpa using h1
    go_enter Tryz.func45, Tryz.ntmps45
    go_wp2
    go_ret
    exact ⟨rfl, rfl⟩
end Go.Proofs.YtfdgijmmgllmgaaGreatDoor
namespace Go.Proofs.YtfdgijmmgllmgaaGreatDoor
open Go.ChangeShapes Go.WideShapes Go.ChangeAt Go.RowKit Go.Joins
set_option linter.unusedSimpArgs false
set_option linter.unusedVariables false
set_option maxRecDepth 100000
attribute [local go_sem] store_f
open Ieee Go.Lib
attribute [local go_sem] store_c
structure CopT (B : Nat) (w : World) (e : Ending) (w' : World) (kind : Int) (g1 g2 ls N : Nat) (L : List Bw) (a : Option Addr) (c : Nat) : Prop where
  ret : e = .returned (.agg #[.int .i64 kind, .complex .f32 g1 g2, .float .f32 ls, .slice a N c])
  own : w'.ownsRow B 74 2 (.slice a N c) N (bwCells L)
  below : Below w.heap.size w w'
structure CopyM (F : FuncId) (kind : Int) (g1 g2 ls N : Nat) (L : List Bw) : Prop where
  call : ∀ (w : World) (a : Option Addr) (cap : Nat), BwIn w a L → Calls Tryz.prog F #[.agg #[.int .i64 kind, .complex .f32 g1 g2, .float .f32 ls, .slice a N cap]] w fun e w' => ∃ a' c', CopT w.heap.size w e w' kind g1 g2 ls N L a' c'
theorem owns_less {W : World} {B C e size n : Nat} {v : Value} {xs : List Value} (h : W.ownsRow B e size v n xs) (hC : C ≤ B) : W.ownsRow C e size v n xs := by
  obtain ⟨h1, h2⟩ := h
  refine ⟨h1, ?_⟩
  rcases h2 with h2 | ⟨g', cap', cur, e1, e2, e3⟩
  · exact .inl h2
  · exact .inr ⟨g', cap', cur, e1, by omega, e3⟩
theorem owns_set {W : World} {B e size n : Nat} {v u : Value} {xs : List Value} {a : Addr} (h : W.ownsRow B e size v n xs) (ha : a.block < B) : (W.setCell a u).ownsRow B e size v n xs := by
  obtain ⟨h1, h2⟩ := h
  refine ⟨h1, ?_⟩
  rcases h2 with h2 | ⟨g', cap', cur, e1, e2, e3, e4⟩
  · exact .inl h2
  · exact .inr ⟨g', cap', cur, e1, e2, (Below.heap_setCell _ _ _ _ (by omega)).trans e3, e4⟩
structure TumOk (kind : Int) (g1 g2 ls N : Nat) (L : List Bw) : Prop where
  kin : kindB kind = true
  pt : PtIs g1 g2 true
  share : shareB ls = true
  few : N ≤ 8
  len : L.length = N
  wed : ∀ k, k < N → WedM kind (L.getD k default).a1 (L.getD k default).a2 true
  speed : ∀ k, k < N → PtIs (L.getD k default).v1 (L.getD k default).v2 true
structure IsT (F : FuncId) (kind : Int) (g1 g2 ls N : Nat) (L : List Bw) : Prop where
  call : ∀ (w : World) (a : Option Addr) (cap : Nat), BwIn w a L → Calls Tryz.prog F #[.agg #[.int .i64 kind, .complex .f32 g1 g2, .float .f32 ls, .slice a N cap]] w fun e w' => e = .returned (.bool true) ∧ Below w.heap.size w w'
set_option maxHeartbeats 16000000 in
theorem isT {kind : Int} {g1 g2 ls N : Nat} {L : List Bw} (T : TumOk kind g1 g2 ls N L) : IsT 43 kind g1 g2 ls N L := ⟨fun w a cap hr => by
  have YK := fun w => isKind_i kind w
  rw [T.kin] at YK
  have YP := T.pt
  have YS := fun w => isShare_i ls w
  rw [T.share] at YS
  have hn := T.few
  have HW : Hid (∀ k, k < N → WedM kind (L.getD k default).a1 (L.getD k default).a2 true) := T.wed
  have HS : Hid (∀ k, k < N → PtIs (L.getD k default).v1 (L.getD k default).v2 true) := T.speed
  have HL : Hid (L.length = N) := T.len
  have HR : Hid (BwIn w a L) := hr
  clear T hr
  go_enter Tryz.func43, Tryz.ntmps43
  go_wp2_with (first | (go_at_call 45; (with_reducible refine (YK _).mono ?_); rintro e w3 ⟨rfl, rfl⟩) | (go_at_call 75; (with_reducible refine (YP.call _).mono ?_); rintro e w4 ⟨rfl, rfl⟩) | (go_at_call 53; (with_reducible refine (YS _).mono ?_); rintro e w4 ⟨rfl, rfl⟩))
  generalize hW : w.alloc (.cells #[.int .i64 kind, .complex .f32 g1 g2, .float .f32 ls, .slice a N cap] 31) = X
  have M0 : Hid (Blk X w.heap.size #[.int .i64 kind, .complex .f32 g1 g2, .float .f32 ls, .slice a N cap] 31) := by rw [← hW]; exact Blk.new _ _ _
  have B0 : Hid (BwIn X a L) := by rw [← hW]; exact HR.out.alloc
  have G0 : Hid (Below w.heap.size w X) := by rw [← hW]; show Below w.heap.size w _; (repeat' (first | (with_reducible exact Below.refl _ _) | (with_reducible assumption) | (with_reducible refine Below.alloc ?_ ?_ _) | (with_reducible refine Below.drew ?_) | (with_reducible refine Below.setCell ?_ ?_ _) | (with_reducible refine Below.trans ?_ (Below.mono (by assumption) ?_)) | (with_reducible exact Nat.le_refl _) | omega | (simp only [World.size_alloc, World.size_setCell, World.size_drew]; omega) | (simp; omega) | (simp; done)))
  clear hW HR YK YP YS
  go_loopw [30] (fun i wr => ∃ k : Nat, k ≤ N ∧ i = .int .i64 k ∧ Below X.heap.size X wr) (fun i _ => N - (intOf i).toNat)
  case atStart => exact ⟨0, by omega, rfl, Below.refl _ _⟩
  case round =>
    obtain ⟨k, hk, rfl, hbel⟩ := hrel
    have HB : Hid (Below X.heap.size X wr) := hbel
    have M1 := M0.out.below hbel
    by_cases hlt : k < N
    · have KW := HW.out k hlt
      have KS := HS.out k hlt
      rcases B0.out with hnil | ⟨g, rfl, hrow⟩
      · exfalso; have := HL.out; rw [hnil] at this; simp at this; omega
      obtain ⟨c0, c1⟩ := hrow.below hbel k (by have := HL.out; omega)
      generalize L.getD k default = b at KW KS c0 c1
      have lm := M1.lt
      have hs := hbel.size
      (obtain ⟨m0, m1, m2, m3⟩ := blk4 (M1))
      clear M1 hrow hbel
      go_wp2_with (first | (go_at_call 76; (with_reducible refine (KW.call _).mono ?_); rintro e w3 ⟨rfl, rfl⟩) | (go_at_call 75; (with_reducible refine (KS.call _).mono ?_); rintro e w4 ⟨rfl, rfl⟩))
      go_roundw
      case rel => exact ⟨k + 1, by omega, by go_num, HB.out.alloc hs _⟩
      case measure => simp [intOf]; omega
    · have hkm : k = N := by omega
      subst hkm
      clear M1 hbel
      go_wp2
      go_ret
      exact ⟨rfl, G0.out.trans (HB.out.mono G0.out.size)⟩⟩
end Go.Proofs.YtfdgijmmgllmgaaGreatDoor
namespace Go.Proofs.YtfdgijmmgllmgaaGreatDoor
open Go.ChangeShapes Go.WideShapes Go.ChangeAt Go.RowKit Go.Joins
set_option linter.unusedSimpArgs false
set_option linter.unusedVariables false
set_option maxRecDepth 100000
attribute [local go_sem] store_f
open Ieee Go.Lib
attribute [local go_sem] store_c
theorem BwIn.grownAt {W w1 : World} {a : Option Addr} {L : List Bw} {R : Nat} {z : Int} (h : BwIn W a L) (hg : W.grownBy w1 (some R)) (hc : W.cell? ⟨R, 0, Option.none⟩ = some (.int .i64 z)) : BwIn w1 a L := by
  rcases h with h | ⟨g, e, h⟩
  · exact .inl h
  · by_cases h0 : L = []
    · exact .inl h0
    · refine .inr ⟨g, e, h.grown hg fun e => ?_⟩
      cases e
      have h1 := (h 0 (List.length_pos_iff.2 h0)).1
      rw [Nat.zero_mul, hc] at h1
      cases h1
theorem grown_set4 {W : World} {R : Nat} {u0 u1 u2 u3 : Value} : W.grownBy ((((W.setCell ⟨R, 0, Option.none⟩ u0).setCell ⟨R, 1, Option.none⟩ u1).setCell ⟨R, 2, Option.none⟩ u2).setCell ⟨R, 3, Option.none⟩ u3) (some R) :=
  grownBy_set (grownBy_set (grownBy_set (grownBy_set (grownBy_refl _ _))))
end Go.Proofs.YtfdgijmmgllmgaaGreatDoor
namespace Go.Proofs.YtfdgijmmgllmgaaGreatDoor
open Go.ChangeShapes Go.WideShapes Go.ChangeAt Go.RowKit Go.Joins
set_option linter.unusedSimpArgs false
set_option linter.unusedVariables false
set_option maxRecDepth 100000
attribute [local go_sem] store_f
open Ieee Go.Lib
attribute [local go_sem] store_c
structure RunOut (w : World) (e : Ending) (w' : World) (kind : Int) (g1 g2 ls N : Nat) (M : List Bw) (a : Option Addr) (c : Nat) : Prop where
  ret : e = .returned (.tuple #[.agg #[.int .i64 kind, .complex .f32 g1 g2, .float .f32 ls, .slice a N c], .bool true])
  row : BwIn w' a M
  below : Below w.heap.size w w'
end Go.Proofs.YtfdgijmmgllmgaaGreatDoor
namespace Go.Proofs.YtfdgijmmgllmgaaGreatDoor
open Go.ChangeShapes Go.WideShapes Go.ChangeAt Go.RowKit Go.Joins
set_option linter.unusedSimpArgs false
set_option linter.unusedVariables false
set_option maxRecDepth 100000
attribute [local go_sem] store_f
open Ieee Go.Lib
theorem first_some {P : Int × Bool → Bool} : ∀ {l : List (Int × Bool)}, (∃ s ∈ l, P s = true) → ∃ n, n < l.length ∧ P (l.getD n (0, false)) = true ∧ ∀ j, j < n → P (l.getD j (0, false)) = false
  | [], h => by obtain ⟨s, hs, _⟩ := h; cases hs
  | a :: l, h => by
    cases ha : P a with
    | true => exact ⟨0, by simp, by simpa using ha, fun j hj => by omega⟩
    | false =>
      have h2 : ∃ s ∈ l, P s = true := by
        obtain ⟨s, hs, hp⟩ := h
        rcases List.mem_cons.1 hs with rfl | hs
        · rw [ha] at hp; cases hp
        · exact ⟨s, hs, hp⟩
      obtain ⟨n, h1, h3, h4⟩ := first_some h2
      refine ⟨n + 1, by simpa using h1, by simpa using h3, fun j hj => ?_⟩
      rcases j with _ | j
      · simpa using ha
      · simpa using h4 j (by omega)
theorem first_of {kind : Int} (h0 : 0 ≤ kind) (h3 : kind ≤ 3) (p : PtW) : ∃ n, First kind (symsTo kind 8) p n := by
  obtain ⟨n, a, b, c⟩ := first_some (P := fun s => wed kind (actP s p)) (wed_some h0 h3 p)
  exact ⟨n, ⟨a, b, c⟩⟩
theorem fold_of {kind : Int} (h0 : 0 ≤ kind) (h3 : kind ≤ 3) (p : PtW) : ∃ q : PtW, (∃ s ∈ symsTo kind 8, q = actP s p ∧ wed kind q = true) ∧ ∃ t f, FoldM kind p.1.1 p.1.2 q.1.1 q.1.2 t f := by
  obtain ⟨n, F⟩ := first_of h0 h3 p
  have hrg := syms_range kind h0 h3
  have SM : SymsM kind (symsTo kind 8) := ⟨fun w => symsOf_i kind w⟩
  have PY : PtYes p.1.1 p.1.2 := ⟨fun w => isPoint_yes _ _ w (ok_in p.2.1.ok) (ok_in p.2.2.ok)⟩
  have FM := foldPoint_i SM (symsTo_le kind 8) PY (acts_pt hrg p) ⟨fun k hk => inWedge_p h0 h3 _⟩ F
  exact ⟨_, ⟨_, getD_memS F.lt, rfl, F.yes⟩, _, _, FM⟩
theorem fold_img {kind : Int} (h0 : 0 ≤ kind) (h3 : kind ≤ 3) {p q1 q2 : PtW} {s : Int × Bool} (hs : s ∈ symsTo kind 8) (h1 : ∃ r ∈ symsTo kind 8, q1 = actP r p ∧ wed kind q1 = true) (h2 : ∃ r ∈ symsTo kind 8, q2 = actP r (actP s p) ∧ wed kind q2 = true) : q2 = q1 := by
  obtain ⟨r1, m1, rfl, w1⟩ := h1
  obtain ⟨r2, m2, rfl, w2⟩ := h2
  exact fold_same h0 h3 p (actP s p) (List.mem_map.2 ⟨s, hs, rfl⟩) m1 m2 w1 w2
end Go.Proofs.YtfdgijmmgllmgaaGreatDoor
namespace Go.Proofs.YtfdgijmmgllmgaaGreatDoor
open Go.ChangeShapes Go.WideShapes Go.ChangeAt Go.RowKit Go.Joins
set_option linter.unusedSimpArgs false
set_option linter.unusedVariables false
set_option maxRecDepth 100000
attribute [local go_sem] store_f
open Ieee Go.Lib
def rK (K : Nat) : Nat := rn F32 (K * 2 ^ 149) 0
def rkOk (K : Nat) : Bool := decide (magOf F32 (rK K) = K * 2 ^ 149) && decide (rK K ≤ 1166016512)
theorem rk_all : chkTo (fun i => chkTo (fun j => rkOk (40 * i + j)) 40) 40 = true := by decide +kernel
theorem rk_of {K : Nat} (h : K < 1600) : magOf F32 (rK K) = K * 2 ^ 149 ∧ rK K ≤ 1166016512 := by
  have h1 := chkTo_at (chkTo_at rk_all (K / 40) (by omega)) (K % 40) (by omega)
  rw [Nat.div_add_mod] at h1
  unfold rkOk at h1
  rw [Bool.and_eq_true, decide_eq_true_eq, decide_eq_true_eq] at h1
  exact h1
theorem tv_le {T : Int} {R : Nat} (hR : R ≤ 1166016512) (h : T.natAbs ≤ magOf F32 R) : okB (clT T) = true ∧ (tv T).natAbs ≤ magOf F32 R := by
  refine ⟨clT_ok (Nat.le_trans h (magOf_le F32 hR)), ?_⟩
  unfold tv
  rw [abs_val]
  refine magOf_le F32 ?_
  have h1 : rn F32 T.natAbs 0 ≤ R := rn_le F32 (by simpa using h)
  unfold clT
  rw [rung_cw]
  split
  · exact Nat.zero_le _
  · exact h1
theorem mv_le {P : Int} {R : Nat} (hR : R ≤ 1166016512) (h : P.natAbs ≤ magOf F32 R * 2 ^ 149) : okB (clM P) = true ∧ (mv P).natAbs ≤ magOf F32 R := by
  have h1 : rn F32 P.natAbs 149 ≤ R := rn_le F32 h
  have h3 : rungOf F32 (clM P) ≤ R := by
    unfold clM; rw [rung_cw]; split <;> omega
  refine ⟨?_, ?_⟩
  · have h2 := (clM_cl P).lt
    unfold rungOf at h3
    rw [F32_sw] at h3
    simp only [okB, Bool.and_eq_true, decide_eq_true_eq]
    omega
  · unfold mv
    rw [abs_val]
    exact magOf_le F32 h3
structure Lim (K : Nat) (p : PtW) : Prop where
  x : (vX p).natAbs ≤ K * 2 ^ 149
  y : (vY p).natAbs ≤ K * 2 ^ 149
theorem Lim.mono {K L : Nat} {p : PtW} (h : Lim K p) (hl : K ≤ L) : Lim L p :=
  ⟨Nat.le_trans h.x (Nat.mul_le_mul_right _ hl), Nat.le_trans h.y (Nat.mul_le_mul_right _ hl)⟩
structure InSum (p q : PtW) : Prop where
  x : okB (clT (vX p + vX q)) = true
  y : okB (clT (vY p + vY q)) = true
def sumP (p q : PtW) : PtW :=
  if h : okB (clT (vX p + vX q)) = true ∧ okB (clT (vY p + vY q)) = true then ⟨(clT (vX p + vX q), clT (vY p + vY q)), ⟨clT_cl _, h.1⟩, ⟨clT_cl _, h.2⟩⟩ else default
theorem sumP_1 {p q : PtW} (h : InSum p q) : (sumP p q).1 = (clT (vX p + vX q), clT (vY p + vY q)) := by
  unfold sumP
  rw [dif_pos ⟨h.x, h.y⟩]
theorem vX_sum {p q : PtW} (h : InSum p q) : vX (sumP p q) = tv (vX p + vX q) := by
  show valOf F32 (sumP p q).1.1 = _
  rw [sumP_1 h]; rfl
theorem vY_sum {p q : PtW} (h : InSum p q) : vY (sumP p q) = tv (vY p + vY q) := by
  show valOf F32 (sumP p q).1.2 = _
  rw [sumP_1 h]; rfl
theorem add_le {a b : Int} {A B : Nat} (ha : a.natAbs ≤ A * 2 ^ 149) (hb : b.natAbs ≤ B * 2 ^ 149) : (a + b).natAbs ≤ (A + B) * 2 ^ 149 := by
  have h1 : (a + b).natAbs ≤ a.natAbs + b.natAbs := Int.natAbs_add_le a b
  rw [Nat.add_mul]
  omega
theorem lim_sum {A B : Nat} {p q : PtW} (hp : Lim A p) (hq : Lim B q) (h : A + B < 1600) : InSum p q ∧ Lim (A + B) (sumP p q) := by
  obtain ⟨e, hr⟩ := rk_of h
  have hx := tv_le hr (T := vX p + vX q) (by rw [e]; exact add_le hp.x hq.x)
  have hy := tv_le hr (T := vY p + vY q) (by rw [e]; exact add_le hp.y hq.y)
  have I : InSum p q := ⟨hx.1, hy.1⟩
  refine ⟨I, ?_, ?_⟩
  · rw [vX_sum I, ← e]; exact hx.2
  · rw [vY_sum I, ← e]; exact hy.2
structure Keep (k : Nat) : Prop where
  fin : Fin32 k
  lo : 0 ≤ valOf F32 k
  hi : valOf F32 k ≤ 2 ^ 149
structure InProd (p : PtW) (k : Nat) : Prop where
  x : okB (clM (vX p * valOf F32 k)) = true
  y : okB (clM (vY p * valOf F32 k)) = true
def prodP (p : PtW) (k : Nat) : PtW :=
  if h : okB (clM (vX p * valOf F32 k)) = true ∧ okB (clM (vY p * valOf F32 k)) = true then ⟨(clM (vX p * valOf F32 k), clM (vY p * valOf F32 k)), ⟨clM_cl _, h.1⟩, ⟨clM_cl _, h.2⟩⟩ else default
theorem prodP_1 {p : PtW} {k : Nat} (h : InProd p k) : (prodP p k).1 = (clM (vX p * valOf F32 k), clM (vY p * valOf F32 k)) := by
  unfold prodP
  rw [dif_pos ⟨h.x, h.y⟩]
theorem vX_prod {p : PtW} {k : Nat} (h : InProd p k) : vX (prodP p k) = mv (vX p * valOf F32 k) := by
  show valOf F32 (prodP p k).1.1 = _
  rw [prodP_1 h]; rfl
theorem vY_prod {p : PtW} {k : Nat} (h : InProd p k) : vY (prodP p k) = mv (vY p * valOf F32 k) := by
  show valOf F32 (prodP p k).1.2 = _
  rw [prodP_1 h]; rfl
theorem keep_mul {x k : Nat} (hk : Keep k) : (valOf F32 x * valOf F32 k).natAbs ≤ magOf F32 (rungOf F32 x) * 2 ^ 149 := by
  rw [Int.natAbs_mul, abs_val x]
  refine Nat.mul_le_mul_left _ ?_
  have h1 := hk.lo
  have h2 := hk.hi
  generalize valOf F32 k = v at h1 h2
  have : ((v.natAbs : Nat) : Int) ≤ ((2 ^ 149 : Nat) : Int) := by
    rw [Int.natAbs_of_nonneg h1]; simpa using h2
  exact Int.ofNat_le.1 this
theorem prodP_of {p : PtW} {k : Nat} (hk : Keep k) : InProd p k ∧ (vX (prodP p k)).natAbs ≤ (vX p).natAbs ∧ (vY (prodP p k)).natAbs ≤ (vY p).natAbs := by
  have hx := mv_le (ok_rung p.2.1.ok) (P := vX p * valOf F32 k) (keep_mul hk)
  have hy := mv_le (ok_rung p.2.2.ok) (P := vY p * valOf F32 k) (keep_mul hk)
  have I : InProd p k := ⟨hx.1, hy.1⟩
  refine ⟨I, ?_, ?_⟩
  · rw [vX_prod I]; refine Nat.le_trans hx.2 (Nat.le_of_eq ?_); exact (abs_val _).symm
  · rw [vY_prod I]; refine Nat.le_trans hy.2 (Nat.le_of_eq ?_); exact (abs_val _).symm
theorem vX_act (s : Int × Bool) (p : PtW) : vX (actP s p) = (actI s (vX p, vY p)).1 := congrArg Prod.fst (vP_act s p)
theorem vY_act (s : Int × Bool) (p : PtW) : vY (actP s p) = (actI s (vX p, vY p)).2 := congrArg Prod.snd (vP_act s p)
theorem actI_cases (s : Int × Bool) (x y : Int) : ∃ a b : Bool, ∃ c : Bool, (∀ u v : Int, actI s (u, v) = (if c then (if a then -v else v, if b then -u else u) else (if a then -u else u, if b then -v else v))) := by
  obtain ⟨t, f⟩ := s
  unfold actI
  dsimp only
  generalize t.toNat = n
  rcases n with _ | _ | _ | n <;> cases f
  · exact ⟨false, false, false, fun u v => rfl⟩
  · exact ⟨false, true, false, fun u v => rfl⟩
  · exact ⟨true, false, true, fun u v => rfl⟩
  · exact ⟨false, false, true, fun u v => rfl⟩
  · exact ⟨true, true, false, fun u v => rfl⟩
  · exact ⟨true, false, false, fun u v => rfl⟩
  · exact ⟨false, true, true, fun u v => rfl⟩
  · exact ⟨true, true, true, fun u v => rfl⟩
theorem lim_act {K : Nat} {p : PtW} (s : Int × Bool) (h : Lim K p) : Lim K (actP s p) := by
  obtain ⟨a, b, c, e⟩ := actI_cases s 0 0
  have hx := h.x
  have hy := h.y
  refine ⟨?_, ?_⟩
  · rw [vX_act, e]
    cases a <;> cases b <;> cases c <;> simp only [if_true, if_false, Bool.false_eq_true, Int.natAbs_neg] <;> assumption
  · rw [vY_act, e]
    cases a <;> cases b <;> cases c <;> simp only [if_true, if_false, Bool.false_eq_true, Int.natAbs_neg] <;> assumption
def zeroP : PtW := ⟨(0, 0), ⟨⟨cl_zero, ok_zero⟩, ⟨cl_zero, ok_zero⟩⟩⟩
theorem lim_zero (K : Nat) : Lim K zeroP := by
  have e1 : vX zeroP = 0 := val_zero
  have e2 : vY zeroP = 0 := val_zero
  exact ⟨by rw [e1]; exact Nat.zero_le _, by rw [e2]; exact Nat.zero_le _⟩
def keptW (loss : Nat) : Nat := clT (valOf F32 1065353216 - valOf F32 loss)
theorem val_one : valOf F32 1065353216 = 2 ^ 149 := by rw [val_of_lt (by omega), mag_unit]; rfl
theorem kept_keep {loss : Nat} (h : loss ≤ 1065353216) : Keep (keptW loss) := by
  have h1 : valOf F32 loss = (magOf F32 loss : Int) := val_of_lt (by omega)
  have h2 := magOf_le F32 h
  rw [mag_unit] at h2
  have hT : (valOf F32 1065353216 - valOf F32 loss).natAbs ≤ magOf F32 1065353216 := by
    rw [val_one, h1, mag_unit]; omega
  obtain ⟨_, h4⟩ := tv_le (R := 1065353216) (by omega) hT
  rw [mag_unit] at h4
  have h5 : 0 ≤ tv (valOf F32 1065353216 - valOf F32 loss) := by
    have hn : ¬ (valOf F32 1065353216 - valOf F32 loss < 0) := by rw [val_one, h1]; omega
    unfold tv clT
    rw [val_cw, decide_eq_false hn]
    simp only [Bool.false_eq_true, if_false]
    split <;> omega
  refine ⟨(clT_cl _).fin, h5, ?_⟩
  show tv _ ≤ _
  generalize tv (valOf F32 1065353216 - valOf F32 loss) = v at *
  omega
end Go.Proofs.YtfdgijmmgllmgaaGreatDoor
namespace Go.Proofs.YtfdgijmmgllmgaaGreatDoor
open Go.ChangeShapes Go.WideShapes Go.ChangeAt Go.RowKit Go.Joins
set_option linter.unusedSimpArgs false
set_option linter.unusedVariables false
set_option maxRecDepth 100000
attribute [local go_sem] store_f
open Ieee Go.Lib
set_option maxRecDepth 1000000
theorem mag_5 : magOf F32 1084227584 = 5 * 2 ^ 149 := by decide +kernel
theorem val_cleanM {x : Nat} (h : Fin32 x) : valOf F32 (cleanB x) = valOf F32 x := by
  rw [clean_eq h]
  by_cases h0 : rungOf F32 x = 0
  · rw [if_pos h0, val_zero, val_eq_zero.2 h0]
  · rw [if_neg h0]
structure SmallM (B q : Nat) (w : World) (e : Ending) (w' : World) (n : Nat) (o : Int) (m : Nat) : Prop where
  ret : e = .returned (.int .i64 ((m : Int) - o))
  lt : m < n
  cur : Cur B w' q
  grown : w.grownBy w' (some q)
set_option maxHeartbeats 1000000 in
theorem some_40 (B q : Nat) (w : World) (hcur : Cur B w q) :
    Calls Tryz.prog 33 #[.pointer (some ⟨q, 0, Option.none⟩), .int .i64 (-40), .int .i64 40] w fun e w' => ∃ m, SmallM B q w e w' 81 40 m := by
  have HC : Hid (Cur B w q) := hcur
  clear hcur
  go_enter Tryz.func33, Tryz.ntmps33
  go_wp2_with fail
  refine (l1Below_s B q 81 _ HC.out (by omega) (by omega)).mono ?_
  rintro e w1 ⟨x, rfl, hx0, hx1, hc1, hg1⟩
  obtain ⟨n, rfl⟩ : ∃ n : Nat, x = n := ⟨x.toNat, by omega⟩
  have HC1 : Hid (Cur B w1 q) := hc1
  have HG1 : Hid (w.grownBy w1 (some q)) := hg1
  have hn : n < 81 := by omega
  clear hc1 hg1
  go_wp2
  go_ret
  exact ⟨n, by first | rfl | (simp; omega), hn, HC1.out, HG1.out⟩
def overB (d : Nat) (z : Int) : Nat := match F32.div (floatOfInt .f32 z) d with | some r => r | none => 0
theorem sp_8 : ∀ m : Nat, m < 81 → F32.div (floatOfInt .f32 ((m : Int) - 40)) 1090519040 = some (overB 1090519040 ((m : Int) - 40)) ∧ overB 1090519040 ((m : Int) - 40) < 4294967296 ∧ overB 1090519040 ((m : Int) - 40) % 2147483648 ≤ 1084227584 ∧ (overB 1090519040 ((m : Int) - 40) % 2147483648 = 0 → overB 1090519040 ((m : Int) - 40) = 0) := by decide +kernel
theorem sp_10 : ∀ m : Nat, m < 81 → F32.div (floatOfInt .f32 ((m : Int) - 40)) 1092616192 = some (overB 1092616192 ((m : Int) - 40)) ∧ overB 1092616192 ((m : Int) - 40) < 4294967296 ∧ overB 1092616192 ((m : Int) - 40) % 2147483648 ≤ 1084227584 ∧ (overB 1092616192 ((m : Int) - 40) % 2147483648 = 0 → overB 1092616192 ((m : Int) - 40) = 0) := by decide +kernel
theorem pt_small {x R : Nat} (hR : R ≤ 1166016512) (h1 : x < 4294967296) (h2 : x % 2147483648 ≤ R) (h3 : x % 2147483648 = 0 → x = 0) : Pt x ∧ (valOf F32 x).natAbs ≤ magOf F32 R := by
  have hr : rungOf F32 x = x % 2147483648 := by unfold rungOf; rw [F32_sw]
  refine ⟨⟨⟨by unfold Fin32; rw [hr, F32_inf]; omega, h1, fun h => h3 (by rw [← hr]; exact h)⟩, ?_⟩, ?_⟩
  · simp only [okB, Bool.and_eq_true, decide_eq_true_eq]; omega
  · rw [abs_val]; exact magOf_le F32 (by rw [hr]; exact h2)
structure SpeedDrawn (B q : Nat) (w : World) (e : Ending) (w' : World) (K : Nat) (p : PtW) : Prop where
  ret : e = .returned (.complex .f32 p.1.1 p.1.2)
  lim : Lim K p
  cur : Cur B w' q
  grown : w.grownBy w' (some q)
set_option maxHeartbeats 2000000 in
theorem l5Speed_s (B q : Nat) (w : World) (hcur : Cur B w q) :
    Calls Tryz.prog 40 #[.pointer (some ⟨q, 0, Option.none⟩)] w fun e w' => ∃ p, SpeedDrawn B q w e w' 5 p := by
  have HC : Hid (Cur B w q) := hcur
  clear hcur
  go_enter Tryz.func40, Tryz.ntmps40
  go_wp2_with fail
  refine (some_40 B q _ HC.out).mono ?_
  rintro e w1 ⟨m, ⟨rfl, hm, hc1, hg1⟩⟩
  have HC1 : Hid (Cur B w1 q) := hc1
  have HG1 : Hid (w.grownBy w1 (some q)) := hg1
  obtain ⟨e1, a1, a2, a3⟩ := sp_8 m hm
  obtain ⟨P1, L1⟩ := pt_small (by omega) a1 a2 a3
  have hop1 := fun t w => run_float_arith (P := Tryz.prog) w .quo t .f32 (floatOfInt .f32 ((m : Int) - 40)) 1090519040 _ e1
  have HP1 := Lib.hid P1
  have HL1 := Lib.hid L1
  clear hc1 hg1 e1 a1 a2 a3 P1 L1
  generalize overB 1090519040 ((m : Int) - 40) = x at *
  go_wp2_with (simp only [hop1])
  refine (some_40 B q _ HC1.out).mono ?_
  rintro e w2 ⟨k, ⟨rfl, hk, hc2, hg2⟩⟩
  have HC2 : Hid (Cur B w2 q) := hc2
  have HG2 : Hid (w.grownBy w2 (some q)) := grownBy_trans HG1.out hg2
  obtain ⟨e1, a1, a2, a3⟩ := sp_10 k hk
  obtain ⟨P2, L2⟩ := pt_small (by omega) a1 a2 a3
  have hop2 := fun t w => run_float_arith (P := Tryz.prog) w .quo t .f32 (floatOfInt .f32 ((k : Int) - 40)) 1092616192 _ e1
  have HP2 := Lib.hid P2
  have HL2 := Lib.hid L2
  clear hc2 hg2 e1 a1 a2 a3 P2 L2 hop1
  generalize overB 1092616192 ((k : Int) - 40) = y at *
  go_wp2_with (simp only [hop2])
  go_ret
  exact ⟨⟨(x, y), HP1.out, HP2.out⟩, ⟨rfl, ⟨by rw [← mag_5]; exact HL1.out, by rw [← mag_5]; exact HL2.out⟩, HC2.out, HG2.out⟩⟩
end Go.Proofs.YtfdgijmmgllmgaaGreatDoor
namespace Go.Proofs.YtfdgijmmgllmgaaGreatDoor
open Go.ChangeShapes Go.WideShapes Go.ChangeAt Go.RowKit Go.Joins
set_option linter.unusedSimpArgs false
set_option linter.unusedVariables false
set_option maxRecDepth 100000
attribute [local go_sem] store_f
open Ieee Go.Lib
def foldS (kind : Int) (p : PtW) : Int × Bool := ((symsTo kind 8).find? fun s => wed kind (actP s p)).getD (0, false)
theorem fold_first {kind : Int} {p : PtW} {n : Nat} (F : First kind (symsTo kind 8) p n) : (symsTo kind 8).getD n (0, false) = foldS kind p := by
  have h : (symsTo kind 8).find? (fun s => wed kind (actP s p)) = some ((symsTo kind 8).getD n (0, false)) := by
    rw [List.find?_eq_some_iff_getElem]
    have hl := F.lt
    have e : ∀ j, j < (symsTo kind 8).length → (symsTo kind 8).getD j (0, false) = (symsTo kind 8)[j]! := fun j hj => by simp [List.getD, hj]
    refine ⟨F.yes, n, hl, by simp [List.getD, hl], fun j hj => ?_⟩
    have h1 := F.no j hj
    have e2 : (symsTo kind 8).getD j (0, false) = (symsTo kind 8)[j] := by simp [List.getD, Nat.lt_trans hj hl]
    rw [e2] at h1
    simp [h1]
  unfold foldS
  rw [h]; rfl
structure FoldIs (kind : Int) (p : PtW) : Prop where
  mem : foldS kind p ∈ symsTo kind 8
  wed : wed kind (actP (foldS kind p) p) = true
  call : FoldM kind p.1.1 p.1.2 (actP (foldS kind p) p).1.1 (actP (foldS kind p) p).1.2 (foldS kind p).1 (foldS kind p).2
theorem foldIs {kind : Int} (h0 : 0 ≤ kind) (h3 : kind ≤ 3) (p : PtW) : FoldIs kind p := by
  obtain ⟨n, F⟩ := first_of h0 h3 p
  have hrg := syms_range kind h0 h3
  have SM : SymsM kind (symsTo kind 8) := ⟨fun w => symsOf_i kind w⟩
  have PY : PtYes p.1.1 p.1.2 := ⟨fun w => isPoint_yes _ _ w (ok_in p.2.1.ok) (ok_in p.2.2.ok)⟩
  have FM := foldPoint_i SM (symsTo_le kind 8) PY (acts_pt hrg p) ⟨fun k hk => inWedge_p h0 h3 _⟩ F
  have hm := getD_memS F.lt
  have hw := F.yes
  rw [fold_first F] at FM hm hw
  exact ⟨hm, hw, FM⟩
def hitS (kind : Int) (g : PtW) (b : PtW × PtW) : Int × Bool := foldS kind (sumP b.1 (sumP b.2 g))
def hits (kind : Int) (g : PtW) (b : PtW × PtW) : Bool := decide (¬ ((hitS kind g b).1 = 0 ∧ (hitS kind g b).2 = false))
def bstep (kind : Int) (g : PtW) (k : Nat) (b : PtW × PtW) : PtW × PtW :=
  (actP (hitS kind g b) (sumP b.1 (sumP b.2 g)), if hits kind g b then prodP (actP (hitS kind g b) (sumP b.2 g)) k else actP (hitS kind g b) (sumP b.2 g))
def wd (b : PtW × PtW) : Bw := ⟨b.1.1.1, b.1.1.2, b.2.1.1, b.2.1.2⟩
structure Can (g : PtW) (b : PtW × PtW) : Prop where
  v : InSum b.2 g
  z : InSum b.1 (sumP b.2 g)
theorem pt_is (p : PtW) : PtIs p.1.1 p.1.2 true := ptYes (ok_in p.2.1.ok) (ok_in p.2.2.ok)
theorem hits_eq (kind : Int) (g : PtW) (b : PtW × PtW) : hits kind g b = decide (¬ ((foldS kind (sumP b.1 (sumP b.2 g))).1 = 0 ∧ (foldS kind (sumP b.1 (sumP b.2 g))).2 = false)) := by
  unfold hits hitS; rfl
theorem bstep_eq (kind : Int) (g : PtW) (k : Nat) (b : PtW × PtW) : bstep kind g k b = (actP (foldS kind (sumP b.1 (sumP b.2 g))) (sumP b.1 (sumP b.2 g)), if hits kind g b then prodP (actP (foldS kind (sumP b.1 (sumP b.2 g))) (sumP b.2 g)) k else actP (foldS kind (sumP b.1 (sumP b.2 g))) (sumP b.2 g)) := by
  unfold bstep hitS; rfl
theorem step_lim {kind : Int} {g : PtW} {k : Nat} {b : PtW × PtW} {V G A : Nat} (h0 : 0 ≤ kind) (h3 : kind ≤ 3) (hk : Keep k) (hg : Lim G g) (hv : Lim V b.2) (ha : Lim A b.1) (h : A + (V + G) < 1600) :
    Can g b ∧ Lim (V + G) (bstep kind g k b).2 ∧ Lim (A + (V + G)) (bstep kind g k b).1 ∧ wed kind (bstep kind g k b).1 = true := by
  obtain ⟨I, hs⟩ := lim_sum hv hg (by omega)
  obtain ⟨J, hz⟩ := lim_sum ha hs h
  have F := foldIs h0 h3 (sumP b.1 (sumP b.2 g))
  rw [bstep_eq]
  have hs2 := lim_act (foldS kind (sumP b.1 (sumP b.2 g))) hs
  refine ⟨⟨I, J⟩, ?_, lim_act _ hz, F.wed⟩
  dsimp only
  split
  · obtain ⟨_, h1, h2⟩ := prodP_of (p := actP (foldS kind (sumP b.1 (sumP b.2 g))) (sumP b.2 g)) hk
    exact ⟨Nat.le_trans h1 hs2.x, Nat.le_trans h2 hs2.y⟩
  · exact hs2
def runL (kind : Int) (g : PtW) (k : Nat) : Nat → List (PtW × PtW) → List (PtW × PtW)
  | 0, l => l
  | j + 1, l => (runL kind g k j l).map (bstep kind g k)
theorem runL_len (kind : Int) (g : PtW) (k : Nat) (l : List (PtW × PtW)) : ∀ j, (runL kind g k j l).length = l.length
  | 0 => rfl
  | j + 1 => by rw [runL, List.length_map, runL_len kind g k l j]
def runW (kind : Int) (g : PtW) (ls : Nat) (l : List (PtW × PtW)) (j : Nat) : List Bw := (runL kind g (keptW ls) j l).map wd
theorem runW_len (kind : Int) (g : PtW) (ls : Nat) (l : List (PtW × PtW)) (j : Nat) : (runW kind g ls l j).length = l.length := by
  unfold runW; rw [List.length_map, runL_len]
theorem getD_map {α β : Type} [Inhabited α] (f : α → β) (d : β) {l : List α} {k : Nat} (h : k < l.length) : (l.map f).getD k d = f (l.getD k default) := by
  simp [List.getD, h]
theorem getD_mem {α : Type} [Inhabited α] {l : List α} {k : Nat} (h : k < l.length) : l.getD k default ∈ l := by
  simp [List.getD, h]
theorem share_le {x : Nat} (h : x ≤ 1065353216) : shareB x = true := part_share (.inl h)
end Go.Proofs.YtfdgijmmgllmgaaGreatDoor
namespace Go.Proofs.YtfdgijmmgllmgaaGreatDoor
open Go.ChangeShapes Go.WideShapes Go.ChangeAt Go.RowKit Go.Joins 
set_option linter.unusedSimpArgs false
set_option linter.unusedVariables false
theorem l1Of_s (kind t : Int) (f : Bool) (w : World) (h1 : 0 ≤ t) (h2 : t < 4) (hk : 0 ≤ kind) (hk3 : kind ≤ 3) :
    Calls Tryz.prog 151 #[.int .i64 kind, .agg #[.int .i64 t, .bool f]] w fun e w' => e = .returned (.bool (ofB kind t f)) ∧ Below w.heap.size w w' := by
  have ht := isSymB_yes h1 h2
  rcases (by omega : kind = 0 ∨ kind = 1 ∨ kind = 2 ∨ kind = 3) with rfl | rfl | rfl | rfl
  · by_cases t0 : t = 0
    · subst t0
      have e : ofB 0 0 f = !f := by simp [ofB, isSymB]
      rw [e]
      cases f
      all_goals
        go_enter Tryz.func151, Tryz.ntmps151
        go_wp2
        go_returns; exact ⟨rfl, by (repeat' (first | (with_reducible exact Below.refl _ _) | (with_reducible assumption) | (with_reducible refine Below.alloc ?_ ?_ _) | (with_reducible refine Below.drew ?_) | (with_reducible refine Below.setCell ?_ ?_ _) | (with_reducible refine Below.trans ?_ (Below.mono (by assumption) ?_)) | (with_reducible exact Nat.le_refl _) | omega | (simp only [World.size_alloc, World.size_setCell, World.size_drew]; omega) | (simp; omega) | (simp; done)))⟩
    · have e : ofB 0 t f = false := by simp [ofB, t0]
      rw [e]
      have t1 : (t == 0) = false := by simpa using t0
      cases f
      all_goals
        go_enter Tryz.func151, Tryz.ntmps151
        go_wp2
        go_returns; exact ⟨rfl, by (repeat' (first | (with_reducible exact Below.refl _ _) | (with_reducible assumption) | (with_reducible refine Below.alloc ?_ ?_ _) | (with_reducible refine Below.drew ?_) | (with_reducible refine Below.setCell ?_ ?_ _) | (with_reducible refine Below.trans ?_ (Below.mono (by assumption) ?_)) | (with_reducible exact Nat.le_refl _) | omega | (simp only [World.size_alloc, World.size_setCell, World.size_drew]; omega) | (simp; omega) | (simp; done)))⟩
  · have e : ofB 1 t f = (t == 0) := by simp [ofB, ht]
    rw [e]
    go_enter Tryz.func151, Tryz.ntmps151
    go_wp2
    go_returns; exact ⟨rfl, by (repeat' (first | (with_reducible exact Below.refl _ _) | (with_reducible assumption) | (with_reducible refine Below.alloc ?_ ?_ _) | (with_reducible refine Below.drew ?_) | (with_reducible refine Below.setCell ?_ ?_ _) | (with_reducible refine Below.trans ?_ (Below.mono (by assumption) ?_)) | (with_reducible exact Nat.le_refl _) | omega | (simp only [World.size_alloc, World.size_setCell, World.size_drew]; omega) | (simp; omega) | (simp; done)))⟩
  · have e : ofB 2 t f = (t % 2 == 0) := by simp [ofB, ht]
    rw [e]
    go_enter Tryz.func151, Tryz.ntmps151
    go_wp2
    go_returns; exact ⟨rfl, by (repeat' (first | (with_reducible exact Below.refl _ _) | (with_reducible assumption) | (with_reducible refine Below.alloc ?_ ?_ _) | (with_reducible refine Below.drew ?_) | (with_reducible refine Below.setCell ?_ ?_ _) | (with_reducible refine Below.trans ?_ (Below.mono (by assumption) ?_)) | (with_reducible exact Nat.le_refl _) | omega | (simp only [World.size_alloc, World.size_setCell, World.size_drew]; omega) | (simp; omega) | (simp; done)))⟩
  · have e : ofB 3 t f = true := by simp [ofB, ht]
    rw [e]
    go_enter Tryz.func151, Tryz.ntmps151
    go_wp2
    go_returns; exact ⟨rfl, by (repeat' (first | (with_reducible exact Below.refl _ _) | (with_reducible assumption) | (with_reducible refine Below.alloc ?_ ?_ _) | (with_reducible refine Below.drew ?_) | (with_reducible refine Below.setCell ?_ ?_ _) | (with_reducible refine Below.trans ?_ (Below.mono (by assumption) ?_)) | (with_reducible exact Nat.le_refl _) | omega | (simp only [World.size_alloc, World.size_setCell, World.size_drew]; omega) | (simp; omega) | (simp; done)))⟩
end Go.Proofs.YtfdgijmmgllmgaaGreatDoor
namespace Go.Proofs.YtfdgijmmgllmgaaGreatDoor
open Go.ChangeShapes Go.WideShapes Go.ChangeAt Go.RowKit Go.Joins 
set_option linter.unusedSimpArgs false
set_option linter.unusedVariables false
def lieB (x lo hi : Int) : Bool := decide (lo ≤ x) && decide (x ≤ hi)
theorem lieB_yes {x lo hi : Int} (h : lo ≤ x) (h' : x ≤ hi) : lieB x lo hi = true := by simp [lieB, h, h']
theorem lieB_no {x lo hi : Int} (h : ¬ (lo ≤ x ∧ x ≤ hi)) : lieB x lo hi = false := by
  simp [lieB]
  omega
theorem l1In_s (x lo hi : Int) (w : World) :
    Calls Tryz.prog 95 #[.int .i64 x, .int .i64 lo, .int .i64 hi] w fun e w' => e = .returned (.bool (lieB x lo hi)) ∧ Below w.heap.size w w' := by
  by_cases h : lo ≤ x
  · by_cases h' : x ≤ hi
    · rw [lieB_yes h h']
      go_enter Tryz.func95, Tryz.ntmps95
      go_wp2
      go_returns; exact ⟨rfl, by (repeat' (first | (with_reducible exact Below.refl _ _) | (with_reducible assumption) | (with_reducible refine Below.alloc ?_ ?_ _) | (with_reducible refine Below.drew ?_) | (with_reducible refine Below.setCell ?_ ?_ _) | (with_reducible refine Below.trans ?_ (Below.mono (by assumption) ?_)) | (with_reducible exact Nat.le_refl _) | omega | (simp only [World.size_alloc, World.size_setCell, World.size_drew]; omega) | (simp; omega) | (simp; done)))⟩
    · rw [lieB_no (fun q => h' q.2)]
      go_enter Tryz.func95, Tryz.ntmps95
      go_wp2
      go_returns; exact ⟨rfl, by (repeat' (first | (with_reducible exact Below.refl _ _) | (with_reducible assumption) | (with_reducible refine Below.alloc ?_ ?_ _) | (with_reducible refine Below.drew ?_) | (with_reducible refine Below.setCell ?_ ?_ _) | (with_reducible refine Below.trans ?_ (Below.mono (by assumption) ?_)) | (with_reducible exact Nat.le_refl _) | omega | (simp only [World.size_alloc, World.size_setCell, World.size_drew]; omega) | (simp; omega) | (simp; done)))⟩
  · rw [lieB_no (fun q => h q.1)]
    go_enter Tryz.func95, Tryz.ntmps95
    go_wp2
    go_returns; exact ⟨rfl, by (repeat' (first | (with_reducible exact Below.refl _ _) | (with_reducible assumption) | (with_reducible refine Below.alloc ?_ ?_ _) | (with_reducible refine Below.drew ?_) | (with_reducible refine Below.setCell ?_ ?_ _) | (with_reducible refine Below.trans ?_ (Below.mono (by assumption) ?_)) | (with_reducible exact Nat.le_refl _) | omega | (simp only [World.size_alloc, World.size_setCell, World.size_drew]; omega) | (simp; omega) | (simp; done)))⟩
end Go.Proofs.YtfdgijmmgllmgaaGreatDoor
