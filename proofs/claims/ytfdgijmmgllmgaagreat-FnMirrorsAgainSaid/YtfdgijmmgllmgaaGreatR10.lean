/-
  Texts Tk Sone Sthree Sfour, joined.
-/
import Derived.Test.YtfdgijmmgllmgaaGreatR09
import Derived.Test.YtfdgijmmgllmgaaGreatR01
import Derived.Test.YtfdgijmmgllmgaaGreatR05
import Derived.Test.YtfdgijmmgllmgaaGreatR07
import Derived.Maps.AppendAt
namespace Go.Proofs.YtfdgijmmgllmgaaGreat
open Go.ChangeShapes Go.WideShapes Go.ChangeAt Go.RowKit Go.Joins
set_option linter.unusedSimpArgs false
set_option linter.unusedVariables false
set_option maxRecDepth 100000
attribute [local go_sem] store_f
open Ieee Go.Lib
def foldS (kind : Int) (p : PtW) : Int × Bool := ((symsTo kind 8).find? fun s => wed kind (actP s p)).getD (0, false)
theorem fold_first {kind : Int} {p : PtW} {n : Nat} (F : First kind (symsTo kind 8) p n) : (symsTo kind 8).getD n (0, false) = foldS kind p := by
  have h : (symsTo kind 8).find? (fun s => wed kind (actP s p)) = some ((symsTo kind 8).getD n (0, false)) := by
    rw [List.find?_eq_some_iff_getElem]
    have hl := F.lt
    have e : ∀ j, j < (symsTo kind 8).length → (symsTo kind 8).getD j (0, false) = (symsTo kind 8)[j]! := fun j hj => by simp [List.getD, hj]
    refine ⟨F.yes, n, hl, by simp [List.getD, hl], fun j hj => ?_⟩
    have h1 := F.no j hj
    have e2 : (symsTo kind 8).getD j (0, false) = (symsTo kind 8)[j] := by simp [List.getD, Nat.lt_trans hj hl]
    rw [e2] at h1
    simp [h1]
  unfold foldS
  rw [h]; rfl
structure FoldIs (kind : Int) (p : PtW) : Prop where
  mem : foldS kind p ∈ symsTo kind 8
  wed : wed kind (actP (foldS kind p) p) = true
  call : FoldM kind p.1.1 p.1.2 (actP (foldS kind p) p).1.1 (actP (foldS kind p) p).1.2 (foldS kind p).1 (foldS kind p).2
theorem foldIs {kind : Int} (h0 : 0 ≤ kind) (h3 : kind ≤ 3) (p : PtW) : FoldIs kind p := by
  obtain ⟨n, F⟩ := first_of h0 h3 p
  have hrg := syms_range kind h0 h3
  have SM : SymsM kind (symsTo kind 8) := ⟨fun w => symsOf_i kind w⟩
  have PY : PtYes p.1.1 p.1.2 := ⟨fun w => isPoint_yes _ _ w (ok_in p.2.1.ok) (ok_in p.2.2.ok)⟩
  have FM := foldPoint_i SM (symsTo_le kind 8) PY (acts_pt hrg p) ⟨fun k hk => inWedge_p h0 h3 _⟩ F
  have hm := getD_memS F.lt
  have hw := F.yes
  rw [fold_first F] at FM hm hw
  exact ⟨hm, hw, FM⟩
def hitS (kind : Int) (g : PtW) (b : PtW × PtW) : Int × Bool := foldS kind (sumP b.1 (sumP b.2 g))
def hits (kind : Int) (g : PtW) (b : PtW × PtW) : Bool := decide (¬ ((hitS kind g b).1 = 0 ∧ (hitS kind g b).2 = false))
def bstep (kind : Int) (g : PtW) (k : Nat) (b : PtW × PtW) : PtW × PtW :=
  (actP (hitS kind g b) (sumP b.1 (sumP b.2 g)), if hits kind g b then prodP (actP (hitS kind g b) (sumP b.2 g)) k else actP (hitS kind g b) (sumP b.2 g))
def wd (b : PtW × PtW) : Bw := ⟨b.1.1.1, b.1.1.2, b.2.1.1, b.2.1.2⟩
structure Can (g : PtW) (b : PtW × PtW) : Prop where
  v : InSum b.2 g
  z : InSum b.1 (sumP b.2 g)
theorem join_sum {p q : PtW} (h : InSum p q) : Join 90 p.1.1 p.1.2 q.1.1 q.1.2 (sumP p q).1.1 (sumP p q).1.2 := by
  rw [sumP_1 h]
  exact join_s (sum2 p.2.1.cl.fin q.2.1.cl.fin) (sum2 p.2.2.cl.fin q.2.2.cl.fin)
theorem join_prod {p : PtW} {k : Nat} (hk : Keep k) : Join 91 p.1.1 p.1.2 k k (prodP p k).1.1 (prodP p k).1.2 := by
  rw [prodP_1 (prodP_of hk).1]
  exact join_p (prod2 p.2.1.cl.fin hk.fin) (prod2 p.2.2.cl.fin hk.fin)
theorem pt_is (p : PtW) : PtIs p.1.1 p.1.2 true := ptYes (ok_in p.2.1.ok) (ok_in p.2.2.ok)
theorem hits_eq (kind : Int) (g : PtW) (b : PtW × PtW) : hits kind g b = decide (¬ ((foldS kind (sumP b.1 (sumP b.2 g))).1 = 0 ∧ (foldS kind (sumP b.1 (sumP b.2 g))).2 = false)) := by
  unfold hits hitS; rfl
theorem bstep_eq (kind : Int) (g : PtW) (k : Nat) (b : PtW × PtW) : bstep kind g k b = (actP (foldS kind (sumP b.1 (sumP b.2 g))) (sumP b.1 (sumP b.2 g)), if hits kind g b then prodP (actP (foldS kind (sumP b.1 (sumP b.2 g))) (sumP b.2 g)) k else actP (foldS kind (sumP b.1 (sumP b.2 g))) (sumP b.2 g)) := by
  unfold bstep hitS; rfl
theorem move_mk {kind : Int} {g1 g2 ls k : Nat} {b : Bw} {v z p u r : PtW} {s : Int × Bool} (J1 : Join 90 b.v1 b.v2 g1 g2 v.1.1 v.1.2) (J2 : Join 90 b.a1 b.a2 v.1.1 v.1.2 z.1.1 z.1.2) (F : FoldM kind z.1.1 z.1.2 p.1.1 p.1.2 s.1 s.2)
    (P : PtIs v.1.1 v.1.2 true) (A : ActM s.1 s.2 v.1.1 v.1.2 u.1.1 u.1.2) (D : Op2 145 1065353216 ls k) (J : Join 91 u.1.1 u.1.2 k k r.1.1 r.1.2) :
    MoveM kind g1 g2 ls b (wd (p, if decide (¬ (s.1 = 0 ∧ s.2 = false)) then r else u)) (decide (¬ (s.1 = 0 ∧ s.2 = false))) := by
  by_cases h : s.1 = 0 ∧ s.2 = false
  · have e : decide (¬ (s.1 = 0 ∧ s.2 = false)) = false := by simp [h]
    have M := move_i (c := ⟨p.1.1, p.1.2, u.1.1, u.1.2⟩) (t := s.1) (f := s.2) ⟨J1, J2, F, P, A, D, fun _ _ => ⟨rfl, rfl⟩, fun hh => absurd h hh⟩
    rw [e] at M ⊢
    exact M
  · have e : decide (¬ (s.1 = 0 ∧ s.2 = false)) = true := decide_eq_true h
    have M := move_i (c := ⟨p.1.1, p.1.2, r.1.1, r.1.2⟩) (t := s.1) (f := s.2) ⟨J1, J2, F, P, A, D, fun h1 h2 => absurd ⟨h1, h2⟩ h, fun _ => J⟩
    rw [e] at M ⊢
    exact M
theorem move_of_b {kind : Int} {g : PtW} {ls : Nat} {b : PtW × PtW} (h0 : 0 ≤ kind) (h3 : kind ≤ 3) (hl : ls ≤ 1065353216) (C : Can g b) : MoveM kind g.1.1 g.1.2 ls (wd b) (wd (bstep kind g (keptW ls) b)) (hits kind g b) := by
  have F := foldIs h0 h3 (sumP b.1 (sumP b.2 g))
  have hk := kept_keep hl
  have D : Op2 145 1065353216 ls (keptW ls) := by unfold keptW; exact diff2 (fin_of_lt (by omega)) (fin_of_lt (by omega))
  have M := move_mk (b := wd b) (join_sum C.v) (join_sum C.z) F.call (pt_is _) (actM_pt (sumP b.2 g) (syms_range kind h0 h3 _ F.mem)) D (join_prod (p := actP (foldS kind (sumP b.1 (sumP b.2 g))) (sumP b.2 g)) hk)
  rw [bstep_eq, hits_eq]
  exact M
theorem step_lim {kind : Int} {g : PtW} {k : Nat} {b : PtW × PtW} {V G A : Nat} (h0 : 0 ≤ kind) (h3 : kind ≤ 3) (hk : Keep k) (hg : Lim G g) (hv : Lim V b.2) (ha : Lim A b.1) (h : A + (V + G) < 1600) :
    Can g b ∧ Lim (V + G) (bstep kind g k b).2 ∧ Lim (A + (V + G)) (bstep kind g k b).1 ∧ wed kind (bstep kind g k b).1 = true := by
  obtain ⟨I, hs⟩ := lim_sum hv hg (by omega)
  obtain ⟨J, hz⟩ := lim_sum ha hs h
  have F := foldIs h0 h3 (sumP b.1 (sumP b.2 g))
  rw [bstep_eq]
  have hs2 := lim_act (foldS kind (sumP b.1 (sumP b.2 g))) hs
  refine ⟨⟨I, J⟩, ?_, lim_act _ hz, F.wed⟩
  dsimp only
  split
  · obtain ⟨_, h1, h2⟩ := prodP_of (p := actP (foldS kind (sumP b.1 (sumP b.2 g))) (sumP b.2 g)) hk
    exact ⟨Nat.le_trans h1 hs2.x, Nat.le_trans h2 hs2.y⟩
  · exact hs2
def runL (kind : Int) (g : PtW) (k : Nat) : Nat → List (PtW × PtW) → List (PtW × PtW)
  | 0, l => l
  | j + 1, l => (runL kind g k j l).map (bstep kind g k)
theorem runL_len (kind : Int) (g : PtW) (k : Nat) (l : List (PtW × PtW)) : ∀ j, (runL kind g k j l).length = l.length
  | 0 => rfl
  | j + 1 => by rw [runL, List.length_map, runL_len kind g k l j]
def runW (kind : Int) (g : PtW) (ls : Nat) (l : List (PtW × PtW)) (j : Nat) : List Bw := (runL kind g (keptW ls) j l).map wd
def hitsW (kind : Int) (g : PtW) (ls : Nat) (l : List (PtW × PtW)) (j : Nat) : List Bool := (runL kind g (keptW ls) j l).map (hits kind g)
theorem runW_len (kind : Int) (g : PtW) (ls : Nat) (l : List (PtW × PtW)) (j : Nat) : (runW kind g ls l j).length = l.length := by
  unfold runW; rw [List.length_map, runL_len]
theorem getD_map {α β : Type} [Inhabited α] (f : α → β) (d : β) {l : List α} {k : Nat} (h : k < l.length) : (l.map f).getD k d = f (l.getD k default) := by
  simp [List.getD, h]
theorem getD_mem {α : Type} [Inhabited α] {l : List α} {k : Nat} (h : k < l.length) : l.getD k default ∈ l := by
  simp [List.getD, h]
theorem share_le {x : Nat} (h : x ≤ 1065353216) : shareB x = true := part_share (.inl h)
end Go.Proofs.YtfdgijmmgllmgaaGreat
namespace Go.Proofs.YtfdgijmmgllmgaaGreat
open Go.ChangeShapes Go.WideShapes Go.ChangeAt Go.RowKit Go.Joins 
set_option linter.unusedSimpArgs false
set_option linter.unusedVariables false
theorem l1Of_s (kind t : Int) (f : Bool) (w : World) (h1 : 0 ≤ t) (h2 : t < 4) (hk : 0 ≤ kind) (hk3 : kind ≤ 3) :
    Calls Tryz.prog 161 #[.int .i64 kind, .agg #[.int .i64 t, .bool f]] w fun e w' => e = .returned (.bool (ofB kind t f)) ∧ Below w.heap.size w w' := by
  have ht := isSymB_yes h1 h2
  rcases (by omega : kind = 0 ∨ kind = 1 ∨ kind = 2 ∨ kind = 3) with rfl | rfl | rfl | rfl
  · by_cases t0 : t = 0
    · subst t0
      have e : ofB 0 0 f = !f := by simp [ofB, isSymB]
      rw [e]
      cases f
      all_goals
        go_enter Tryz.func161, Tryz.ntmps161
        go_wp2
        go_returns; exact ⟨rfl, by (repeat' (first | (with_reducible exact Below.refl _ _) | (with_reducible assumption) | (with_reducible refine Below.alloc ?_ ?_ _) | (with_reducible refine Below.drew ?_) | (with_reducible refine Below.setCell ?_ ?_ _) | (with_reducible refine Below.trans ?_ (Below.mono (by assumption) ?_)) | (with_reducible exact Nat.le_refl _) | omega | (simp only [World.size_alloc, World.size_setCell, World.size_drew]; omega) | (simp; omega) | (simp; done)))⟩
    · have e : ofB 0 t f = false := by simp [ofB, t0]
      rw [e]
      have t1 : (t == 0) = false := by simpa using t0
      cases f
      all_goals
        go_enter Tryz.func161, Tryz.ntmps161
        go_wp2
        go_returns; exact ⟨rfl, by (repeat' (first | (with_reducible exact Below.refl _ _) | (with_reducible assumption) | (with_reducible refine Below.alloc ?_ ?_ _) | (with_reducible refine Below.drew ?_) | (with_reducible refine Below.setCell ?_ ?_ _) | (with_reducible refine Below.trans ?_ (Below.mono (by assumption) ?_)) | (with_reducible exact Nat.le_refl _) | omega | (simp only [World.size_alloc, World.size_setCell, World.size_drew]; omega) | (simp; omega) | (simp; done)))⟩
  · have e : ofB 1 t f = (t == 0) := by simp [ofB, ht]
    rw [e]
    go_enter Tryz.func161, Tryz.ntmps161
    go_wp2
    go_returns; exact ⟨rfl, by (repeat' (first | (with_reducible exact Below.refl _ _) | (with_reducible assumption) | (with_reducible refine Below.alloc ?_ ?_ _) | (with_reducible refine Below.drew ?_) | (with_reducible refine Below.setCell ?_ ?_ _) | (with_reducible refine Below.trans ?_ (Below.mono (by assumption) ?_)) | (with_reducible exact Nat.le_refl _) | omega | (simp only [World.size_alloc, World.size_setCell, World.size_drew]; omega) | (simp; omega) | (simp; done)))⟩
  · have e : ofB 2 t f = (t % 2 == 0) := by simp [ofB, ht]
    rw [e]
    go_enter Tryz.func161, Tryz.ntmps161
    go_wp2
    go_returns; exact ⟨rfl, by (repeat' (first | (with_reducible exact Below.refl _ _) | (with_reducible assumption) | (with_reducible refine Below.alloc ?_ ?_ _) | (with_reducible refine Below.drew ?_) | (with_reducible refine Below.setCell ?_ ?_ _) | (with_reducible refine Below.trans ?_ (Below.mono (by assumption) ?_)) | (with_reducible exact Nat.le_refl _) | omega | (simp only [World.size_alloc, World.size_setCell, World.size_drew]; omega) | (simp; omega) | (simp; done)))⟩
  · have e : ofB 3 t f = true := by simp [ofB, ht]
    rw [e]
    go_enter Tryz.func161, Tryz.ntmps161
    go_wp2
    go_returns; exact ⟨rfl, by (repeat' (first | (with_reducible exact Below.refl _ _) | (with_reducible assumption) | (with_reducible refine Below.alloc ?_ ?_ _) | (with_reducible refine Below.drew ?_) | (with_reducible refine Below.setCell ?_ ?_ _) | (with_reducible refine Below.trans ?_ (Below.mono (by assumption) ?_)) | (with_reducible exact Nat.le_refl _) | omega | (simp only [World.size_alloc, World.size_setCell, World.size_drew]; omega) | (simp; omega) | (simp; done)))⟩
end Go.Proofs.YtfdgijmmgllmgaaGreat
namespace Go.Proofs.YtfdgijmmgllmgaaGreat
open Go.ChangeShapes Go.WideShapes Go.ChangeAt Go.RowKit Go.Joins 
set_option linter.unusedSimpArgs false
set_option linter.unusedVariables false
def lieB (x lo hi : Int) : Bool := decide (lo ≤ x) && decide (x ≤ hi)
theorem lieB_yes {x lo hi : Int} (h : lo ≤ x) (h' : x ≤ hi) : lieB x lo hi = true := by simp [lieB, h, h']
theorem lieB_no {x lo hi : Int} (h : ¬ (lo ≤ x ∧ x ≤ hi)) : lieB x lo hi = false := by
  simp [lieB]
  omega
theorem l1In_s (x lo hi : Int) (w : World) :
    Calls Tryz.prog 101 #[.int .i64 x, .int .i64 lo, .int .i64 hi] w fun e w' => e = .returned (.bool (lieB x lo hi)) ∧ Below w.heap.size w w' := by
  by_cases h : lo ≤ x
  · by_cases h' : x ≤ hi
    · rw [lieB_yes h h']
      go_enter Tryz.func101, Tryz.ntmps101
      go_wp2
      go_returns; exact ⟨rfl, by (repeat' (first | (with_reducible exact Below.refl _ _) | (with_reducible assumption) | (with_reducible refine Below.alloc ?_ ?_ _) | (with_reducible refine Below.drew ?_) | (with_reducible refine Below.setCell ?_ ?_ _) | (with_reducible refine Below.trans ?_ (Below.mono (by assumption) ?_)) | (with_reducible exact Nat.le_refl _) | omega | (simp only [World.size_alloc, World.size_setCell, World.size_drew]; omega) | (simp; omega) | (simp; done)))⟩
    · rw [lieB_no (fun q => h' q.2)]
      go_enter Tryz.func101, Tryz.ntmps101
      go_wp2
      go_returns; exact ⟨rfl, by (repeat' (first | (with_reducible exact Below.refl _ _) | (with_reducible assumption) | (with_reducible refine Below.alloc ?_ ?_ _) | (with_reducible refine Below.drew ?_) | (with_reducible refine Below.setCell ?_ ?_ _) | (with_reducible refine Below.trans ?_ (Below.mono (by assumption) ?_)) | (with_reducible exact Nat.le_refl _) | omega | (simp only [World.size_alloc, World.size_setCell, World.size_drew]; omega) | (simp; omega) | (simp; done)))⟩
  · rw [lieB_no (fun q => h q.1)]
    go_enter Tryz.func101, Tryz.ntmps101
    go_wp2
    go_returns; exact ⟨rfl, by (repeat' (first | (with_reducible exact Below.refl _ _) | (with_reducible assumption) | (with_reducible refine Below.alloc ?_ ?_ _) | (with_reducible refine Below.drew ?_) | (with_reducible refine Below.setCell ?_ ?_ _) | (with_reducible refine Below.trans ?_ (Below.mono (by assumption) ?_)) | (with_reducible exact Nat.le_refl _) | omega | (simp only [World.size_alloc, World.size_setCell, World.size_drew]; omega) | (simp; omega) | (simp; done)))⟩
end Go.Proofs.YtfdgijmmgllmgaaGreat
namespace Go.Proofs.YtfdgijmmgllmgaaGreat
open Go.ChangeShapes Go.WideShapes Go.ChangeAt Go.RowKit Go.Joins 
set_option linter.unusedSimpArgs false
set_option linter.unusedVariables false
theorem symsTo_none {kind : Int} (h : ¬ (0 ≤ kind ∧ kind ≤ 3)) (k : Nat) : symsTo kind k = [] := by
  have h0 : ∀ t f, ofB kind t f = false := by
    intro t f
    have h1 : kind ≠ 0 := by omega
    have h2 : kind ≠ 1 := by omega
    have h3 : kind ≠ 2 := by omega
    have h4 : kind ≠ 3 := by omega
    simp [ofB, h1, h2, h3, h4]
  simp [symsTo, h0]
set_option maxHeartbeats 1600000 in
set_option maxRecDepth 1000000 in
theorem symsOf_s (kind : Int) (w : World) :
    Calls Tryz.prog 137 #[.int .i64 kind] w fun e w' => ∃ g cap, e = .returned (.slice (some ⟨g, 0, Option.none⟩) (symsTo kind 8).length cap) ∧ w'.ownsRow w.heap.size 63 2 (.slice (some ⟨g, 0, Option.none⟩) (symsTo kind 8).length cap) (symsTo kind 8).length (symCells (symsTo kind 8)) ∧ Below w.heap.size w w' := by
  obtain ⟨i0, hi, hz0, hz1, hz2⟩ := info_parts infoSym
  go_enter Tryz.func137, Tryz.ntmps137
  go_wp2_with (go_at_call 160; refine (l1All_s _).mono ?_; rintro e w1 ⟨g, cap, rfl, hlist, hb⟩; obtain ⟨hc, hf⟩ := bcell hb; have HL := keepL (by (repeat (first | (with_reducible assumption) | (with_reducible apply AllLt.alloc) | (with_reducible apply AllLt.setCell) | (with_reducible apply AllLt.drew) | (with_reducible exact AllLt.nil _)))) hb; have hq := HL; simp only [AllLt, and_true, World.size_alloc, World.size_setCell, World.size_drew] at hq; have hbs := hb.size; try simp only [World.size_alloc, World.size_setCell, World.size_drew] at hbs)
  have hg := (hlist.lt g rfl)
  simp only [World.size_alloc] at hg
  go_loopw [3, 9] (fun v i wr => ∃ k : Nat, k ≤ 8 ∧ i = .int .i64 k ∧ wr.ownsRow w.heap.size 63 2 v (symsTo kind k).length (symCells (symsTo kind k)) ∧ wr.ownsRow w.heap.size 63 2 (.slice (some ⟨g, 0, Option.none⟩) 8 cap) 8 (symCells (allTo 8)) ∧ v.ownBlock ≠ some g ∧ g < wr.heap.size ∧ v ≠ .slice Option.none 0 0 ∧ Below w.heap.size w wr)
    (fun _ i _ => 8 - (intOf i).toNat)
  case atStart =>
    refine ⟨0, by omega, rfl, ?_, ownsRow_le hlist (by simp), ?_, hg.2, by simp, by (repeat' (first | (with_reducible exact Below.refl _ _) | (with_reducible assumption) | (with_reducible refine Below.alloc ?_ ?_ _) | (with_reducible refine Below.drew ?_) | (with_reducible refine Below.setCell ?_ ?_ _) | (with_reducible refine Below.trans ?_ (Below.mono (by assumption) ?_)) | (with_reducible exact Nat.le_refl _) | omega | (simp only [World.size_alloc, World.size_setCell, World.size_drew]; omega) | (simp; omega) | (simp; done)))⟩
    · exact ownsBelow hb (World.ownsRow_lit _ #[] 0 (by simp) (by unfold maxLen; omega) rfl)
    · simp [Value.ownBlock]
      omega
  case round =>
    obtain ⟨k, hk, rfl, hown, hli, hne, hgl, hnn, hbel⟩ := hrel
    have HNN : Hid (u3 ≠ .slice Option.none 0 0) := hnn
    clear hnn
    have hbase := hbel.size
    by_cases hlt : k < 8
    · have hle := symsTo_le kind k
      have hs := symCells_at k hlt
      have hx0 : wr.cell? ⟨g, k * 2, Option.none⟩ = some (.int .i64 ((k : Int) % 4)) := by rw [hli.cellAt _ (by omega)]; exact hs.1
      have hx1 : wr.cell? ⟨g, k * 2 + 1, Option.none⟩ = some (.bool (decide (4 ≤ (k : Int)))) := by rw [hli.cellAt _ (by omega)]; exact hs.2
      clear hs
      by_cases hin : 0 ≤ kind ∧ kind ≤ 3
      · obtain ⟨hin0, hin3⟩ := hin
        have hI := lieB_yes hin0 hin3
        cases hB : ofB kind ((k : Int) % 4) (decide (4 ≤ (k : Int))) with
        | true =>
          have HY : Hid (symsTo kind (k + 1) = symsTo kind k ++ [symK k]) := symsTo_yes (kind := kind) (k := k) hB
          go_wp2_with (first | (go_at_call 101; refine (l1In_s _ _ _ _).mono ?_; rintro e w1 ⟨rfl, hb⟩; obtain ⟨hc, hf⟩ := bcell hb; have HL := keepL (by (repeat (first | (with_reducible assumption) | (with_reducible apply AllLt.alloc) | (with_reducible apply AllLt.setCell) | (with_reducible apply AllLt.drew) | (with_reducible exact AllLt.nil _)))) hb; have hq := HL; simp only [AllLt, and_true, World.size_alloc, World.size_setCell, World.size_drew] at hq; have hbs := hb.size; try simp only [World.size_alloc, World.size_setCell, World.size_drew] at hbs) | (go_at_call 161; refine (l1Of_s _ _ _ _ (by omega) (by omega) hin0 hin3).mono ?_; rintro e w1 ⟨rfl, hb⟩; obtain ⟨hc, hf⟩ := bcell hb; have HL := keepL (by (repeat (first | (with_reducible assumption) | (with_reducible apply AllLt.alloc) | (with_reducible apply AllLt.setCell) | (with_reducible apply AllLt.drew) | (with_reducible exact AllLt.nil _)))) hb; have hq := HL; simp only [AllLt, and_true, World.size_alloc, World.size_setCell, World.size_drew] at hq; have hbs := hb.size; try simp only [World.size_alloc, World.size_setCell, World.size_drew] at hbs) | (at_builtin; refine wpList_append_own_at _ rfl _ _ 99 rfl w.heap.size 63 i0 (.agg #[.int .i64 0, .bool false]) 2 16 Tryz.underlying99 hi hz0 hz1 hz2 rfl (by decide) _ (symsTo kind k).length (symCells (symsTo kind k)) rfl ?hown ⟨w1.heap.size, 0, Option.none⟩ 1 1 [.int .i64 (symK k).1, .bool (symK k).2] rfl rfl ?c1 ?c2 ?c3 ?c4 ?c5 ?_))
          case hown => (change World.ownsRow _ _ _ _ u3 _ _; (repeat (first | (with_reducible assumption) | (with_reducible refine World.ownsRow.alloc ?_ _) | (with_reducible refine World.ownsRow.drew ?_) | (with_reducible refine ownsBelow (by assumption) ?_))))
          case c1 =>
            intro j u hj
            rcases j with _ | _ | j <;> simp [symK] at hj <;> subst hj <;> simp [Addr.add]
          case c2 =>
            intro u hu
            simp at hu
            rcases hu with rfl | rfl <;> rfl
          case c3 => (unfold maxLen; omega)
          case c4 => omega
          case c5 => first | omega | (simp only [World.size_alloc, World.size_setCell, World.size_drew]; omega)
          intro v' w2 hown' hgrow hvn hat
          have HVN : Hid (v' ≠ .slice Option.none 0 0) := hvn
          clear hvn
          have hb2 : Below w.heap.size w w2 := Below.grown (by (repeat' (first | (with_reducible exact Below.refl _ _) | (with_reducible assumption) | (with_reducible refine Below.alloc ?_ ?_ _) | (with_reducible refine Below.drew ?_) | (with_reducible refine Below.setCell ?_ ?_ _) | (with_reducible refine Below.trans ?_ (Below.mono (by assumption) ?_)) | (with_reducible exact Nat.le_refl _) | omega | (simp only [World.size_alloc, World.size_setCell, World.size_drew]; omega) | (simp; omega) | (simp; done)))) hgrow (by first | omega | (simp only [World.size_alloc, World.size_setCell, World.size_drew]; omega)) (fun q hq => (hown.lt q hq).1)
          have hli2 : w2.ownsRow w.heap.size 63 2 (.slice (some ⟨g, 0, Option.none⟩) 8 cap) 8 (symCells (allTo 8)) := World.ownsRow.kept (by (repeat (first | (with_reducible assumption) | (with_reducible refine World.ownsRow.alloc ?_ _) | (with_reducible refine World.ownsRow.drew ?_) | (with_reducible refine ownsBelow (by assumption) ?_)))) hgrow (.inr fun e => hne e.symm)
          have hgl2 := (hli2.lt g rfl).2
          have hne2 : v'.ownBlock ≠ some g := by
            rcases hat with e | e
            · rw [e]; exact hne
            · rw [e]
              intro e2
              have e3 := Option.some.inj e2
              try simp only [World.size_alloc] at e3
              omega
          clear hgrow hat
          go_wp2
          go_roundw
          case rel => exact ⟨k + 1, by omega, by go_num, by rw [HY.out, symCells_snoc]; simpa using hown', hli2, hne2, hgl2, HVN.out, hb2⟩
          case measure => simp [intOf]; omega
        | false =>
          have HN : Hid (symsTo kind (k + 1) = symsTo kind k) := symsTo_no (kind := kind) (k := k) hB
          go_wp2_with (first | (go_at_call 101; refine (l1In_s _ _ _ _).mono ?_; rintro e w1 ⟨rfl, hb⟩; obtain ⟨hc, hf⟩ := bcell hb; have HL := keepL (by (repeat (first | (with_reducible assumption) | (with_reducible apply AllLt.alloc) | (with_reducible apply AllLt.setCell) | (with_reducible apply AllLt.drew) | (with_reducible exact AllLt.nil _)))) hb; have hq := HL; simp only [AllLt, and_true, World.size_alloc, World.size_setCell, World.size_drew] at hq; have hbs := hb.size; try simp only [World.size_alloc, World.size_setCell, World.size_drew] at hbs) | (go_at_call 161; refine (l1Of_s _ _ _ _ (by omega) (by omega) hin0 hin3).mono ?_; rintro e w1 ⟨rfl, hb⟩; obtain ⟨hc, hf⟩ := bcell hb; have HL := keepL (by (repeat (first | (with_reducible assumption) | (with_reducible apply AllLt.alloc) | (with_reducible apply AllLt.setCell) | (with_reducible apply AllLt.drew) | (with_reducible exact AllLt.nil _)))) hb; have hq := HL; simp only [AllLt, and_true, World.size_alloc, World.size_setCell, World.size_drew] at hq; have hbs := hb.size; try simp only [World.size_alloc, World.size_setCell, World.size_drew] at hbs))
          go_roundw
          case rel => exact ⟨k + 1, by omega, by go_num, by rw [HN.out]; (repeat (first | (with_reducible assumption) | (with_reducible refine World.ownsRow.alloc ?_ _) | (with_reducible refine World.ownsRow.drew ?_) | (with_reducible refine ownsBelow (by assumption) ?_))), by (repeat (first | (with_reducible assumption) | (with_reducible refine World.ownsRow.alloc ?_ _) | (with_reducible refine World.ownsRow.drew ?_) | (with_reducible refine ownsBelow (by assumption) ?_))), hne, by first | omega | (simp only [World.size_alloc, World.size_setCell, World.size_drew]; omega), HNN.out, by (repeat' (first | (with_reducible exact Below.refl _ _) | (with_reducible assumption) | (with_reducible refine Below.alloc ?_ ?_ _) | (with_reducible refine Below.drew ?_) | (with_reducible refine Below.setCell ?_ ?_ _) | (with_reducible refine Below.trans ?_ (Below.mono (by assumption) ?_)) | (with_reducible exact Nat.le_refl _) | omega | (simp only [World.size_alloc, World.size_setCell, World.size_drew]; omega) | (simp; omega) | (simp; done)))⟩
          case measure => simp [intOf]; omega
      · have hI := lieB_no hin
        have HN : Hid (symsTo kind (k + 1) = symsTo kind k) := by rw [symsTo_none hin, symsTo_none hin]; exact rfl
        go_wp2_with (first | (go_at_call 101; refine (l1In_s _ _ _ _).mono ?_; rintro e w1 ⟨rfl, hb⟩; obtain ⟨hc, hf⟩ := bcell hb; have HL := keepL (by (repeat (first | (with_reducible assumption) | (with_reducible apply AllLt.alloc) | (with_reducible apply AllLt.setCell) | (with_reducible apply AllLt.drew) | (with_reducible exact AllLt.nil _)))) hb; have hq := HL; simp only [AllLt, and_true, World.size_alloc, World.size_setCell, World.size_drew] at hq; have hbs := hb.size; try simp only [World.size_alloc, World.size_setCell, World.size_drew] at hbs))
        go_roundw
        case rel => exact ⟨k + 1, by omega, by go_num, by rw [HN.out]; (repeat (first | (with_reducible assumption) | (with_reducible refine World.ownsRow.alloc ?_ _) | (with_reducible refine World.ownsRow.drew ?_) | (with_reducible refine ownsBelow (by assumption) ?_))), by (repeat (first | (with_reducible assumption) | (with_reducible refine World.ownsRow.alloc ?_ _) | (with_reducible refine World.ownsRow.drew ?_) | (with_reducible refine ownsBelow (by assumption) ?_))), hne, by first | omega | (simp only [World.size_alloc, World.size_setCell, World.size_drew]; omega), HNN.out, by (repeat' (first | (with_reducible exact Below.refl _ _) | (with_reducible assumption) | (with_reducible refine Below.alloc ?_ ?_ _) | (with_reducible refine Below.drew ?_) | (with_reducible refine Below.setCell ?_ ?_ _) | (with_reducible refine Below.trans ?_ (Below.mono (by assumption) ?_)) | (with_reducible exact Nat.le_refl _) | omega | (simp only [World.size_alloc, World.size_setCell, World.size_drew]; omega) | (simp; omega) | (simp; done)))⟩
        case measure => simp [intOf]; omega
    · have hk8 : k = 8 := by omega
      subst hk8
      rcases ownsRow_forms hown with ⟨e, _⟩ | ⟨g2, cap2, rfl⟩
      · exact absurd e HNN.out
      go_wp2
      go_ret
      exact ⟨_, _, rfl, hown, hbel⟩
end Go.Proofs.YtfdgijmmgllmgaaGreat
