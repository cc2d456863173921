/-
  Texts Sfour To Dgen Cop, joined.
-/
import Derived.Test.YtfdgijmmgllmgaaGreatDoorS08
import Derived.Test.YtfdgijmmgllmgaaGreatDoorS05
import Derived.Deep.RegionHeld3
import Derived.Test.YtfdgijmmgllmgaaGreatDoorS01
namespace Go.Proofs.YtfdgijmmgllmgaaGreatDoor
open Go.ChangeShapes Go.WideShapes Go.ChangeAt Go.RowKit Go.Joins 
set_option linter.unusedSimpArgs false
set_option linter.unusedVariables false
theorem symsTo_none {kind : Int} (h : ¬ (0 ≤ kind ∧ kind ≤ 3)) (k : Nat) : symsTo kind k = [] := by
  have h0 : ∀ t f, ofB kind t f = false := by
    intro t f
    have h1 : kind ≠ 0 := by omega
    have h2 : kind ≠ 1 := by omega
    have h3 : kind ≠ 2 := by omega
    have h4 : kind ≠ 3 := by omega
    simp [ofB, h1, h2, h3, h4]
  simp [symsTo, h0]
set_option maxHeartbeats 1600000 in
set_option maxRecDepth 1000000 in
theorem symsOf_s (kind : Int) (w : World) :
    Calls Tryz.prog 135 #[.int .i64 kind] w fun e w' => ∃ g cap, e = .returned (.slice (some ⟨g, 0, Option.none⟩) (symsTo kind 8).length cap) ∧ w'.ownsRow w.heap.size 52 2 (.slice (some ⟨g, 0, Option.none⟩) (symsTo kind 8).length cap) (symsTo kind 8).length (symCells (symsTo kind 8)) ∧ Below w.heap.size w w' := by
  obtain ⟨i0, hi, hz0, hz1, hz2⟩ := info_parts infoSym
  go_enter Tryz.func135, Tryz.ntmps135
  go_wp2_with (go_at_call 150; refine (l1All_s _).mono ?_; rintro e w1 ⟨g, cap, rfl, hlist, hb⟩; obtain ⟨hc, hf⟩ := bcell hb; have HL := keepL (by (repeat (first | (with_reducible assumption) | (with_reducible apply AllLt.alloc) | (with_reducible apply AllLt.setCell) | (with_reducible apply AllLt.drew) | (with_reducible exact AllLt.nil _)))) hb; have hq := HL; simp only [AllLt, and_true, World.size_alloc, World.size_setCell, World.size_drew] at hq; have hbs := hb.size; try simp only [World.size_alloc, World.size_setCell, World.size_drew] at hbs)
  have hg := (hlist.lt g rfl)
  simp only [World.size_alloc] at hg
  go_loopw [3, 9] (fun v i wr => ∃ k : Nat, k ≤ 8 ∧ i = .int .i64 k ∧ wr.ownsRow w.heap.size 52 2 v (symsTo kind k).length (symCells (symsTo kind k)) ∧ wr.ownsRow w.heap.size 52 2 (.slice (some ⟨g, 0, Option.none⟩) 8 cap) 8 (symCells (allTo 8)) ∧ v.ownBlock ≠ some g ∧ g < wr.heap.size ∧ v ≠ .slice Option.none 0 0 ∧ Below w.heap.size w wr)
    (fun _ i _ => 8 - (intOf i).toNat)
  case atStart =>
    refine ⟨0, by omega, rfl, ?_, ownsRow_le hlist (by simp), ?_, hg.2, by simp, by (repeat' (first | (with_reducible exact Below.refl _ _) | (with_reducible assumption) | (with_reducible refine Below.alloc ?_ ?_ _) | (with_reducible refine Below.drew ?_) | (with_reducible refine Below.setCell ?_ ?_ _) | (with_reducible refine Below.trans ?_ (Below.mono (by assumption) ?_)) | (with_reducible exact Nat.le_refl _) | omega | (simp only [World.size_alloc, World.size_setCell, World.size_drew]; omega) | (simp; omega) | (simp; done)))⟩
    · exact ownsBelow hb (World.ownsRow_lit _ #[] 0 (by simp) (by unfold maxLen; omega) rfl)
    · simp [Value.ownBlock]
      omega
  case round =>
    obtain ⟨k, hk, rfl, hown, hli, hne, hgl, hnn, hbel⟩ := hrel
    have HNN : Hid (u3 ≠ .slice Option.none 0 0) := hnn
    clear hnn
    have hbase := hbel.size
    by_cases hlt : k < 8
    · have hle := symsTo_le kind k
      have hs := symCells_at k hlt
      have hx0 : wr.cell? ⟨g, k * 2, Option.none⟩ = some (.int .i64 ((k : Int) % 4)) := by rw [hli.cellAt _ (by omega)]; exact hs.1
      have hx1 : wr.cell? ⟨g, k * 2 + 1, Option.none⟩ = some (.bool (decide (4 ≤ (k : Int)))) := by rw [hli.cellAt _ (by omega)]; exact hs.2
      clear hs
      by_cases hin : 0 ≤ kind ∧ kind ≤ 3
      · obtain ⟨hin0, hin3⟩ := hin
        have hI := lieB_yes hin0 hin3
        cases hB : ofB kind ((k : Int) % 4) (decide (4 ≤ (k : Int))) with
        | true =>
          have HY : Hid (symsTo kind (k + 1) = symsTo kind k ++ [symK k]) := symsTo_yes (kind := kind) (k := k) hB
          go_wp2_with (first | (go_at_call 95; refine (l1In_s _ _ _ _).mono ?_; rintro e w1 ⟨rfl, hb⟩; obtain ⟨hc, hf⟩ := bcell hb; have HL := keepL (by (repeat (first | (with_reducible assumption) | (with_reducible apply AllLt.alloc) | (with_reducible apply AllLt.setCell) | (with_reducible apply AllLt.drew) | (with_reducible exact AllLt.nil _)))) hb; have hq := HL; simp only [AllLt, and_true, World.size_alloc, World.size_setCell, World.size_drew] at hq; have hbs := hb.size; try simp only [World.size_alloc, World.size_setCell, World.size_drew] at hbs) | (go_at_call 151; refine (l1Of_s _ _ _ _ (by omega) (by omega) hin0 hin3).mono ?_; rintro e w1 ⟨rfl, hb⟩; obtain ⟨hc, hf⟩ := bcell hb; have HL := keepL (by (repeat (first | (with_reducible assumption) | (with_reducible apply AllLt.alloc) | (with_reducible apply AllLt.setCell) | (with_reducible apply AllLt.drew) | (with_reducible exact AllLt.nil _)))) hb; have hq := HL; simp only [AllLt, and_true, World.size_alloc, World.size_setCell, World.size_drew] at hq; have hbs := hb.size; try simp only [World.size_alloc, World.size_setCell, World.size_drew] at hbs) | (at_builtin; refine wpList_append_own_at _ rfl _ _ 47 rfl w.heap.size 52 i0 (.agg #[.int .i64 0, .bool false]) 2 16 Tryz.underlying47 hi hz0 hz1 hz2 rfl (by decide) _ (symsTo kind k).length (symCells (symsTo kind k)) rfl ?hown ⟨w1.heap.size, 0, Option.none⟩ 1 1 [.int .i64 (symK k).1, .bool (symK k).2] rfl rfl ?c1 ?c2 ?c3 ?c4 ?c5 ?_))
          case hown => (change World.ownsRow _ _ _ _ u3 _ _; (repeat (first | (with_reducible assumption) | (with_reducible refine World.ownsRow.alloc ?_ _) | (with_reducible refine World.ownsRow.drew ?_) | (with_reducible refine ownsBelow (by assumption) ?_))))
          case c1 =>
            intro j u hj
            rcases j with _ | _ | j <;> simp [symK] at hj <;> subst hj <;> simp [Addr.add]
          case c2 =>
            intro u hu
            simp at hu
            rcases hu with rfl | rfl <;> rfl
          case c3 => (unfold maxLen; omega)
          case c4 => omega
          case c5 => first | omega | (simp only [World.size_alloc, World.size_setCell, World.size_drew]; omega)
          intro v' w2 hown' hgrow hvn hat
          have HVN : Hid (v' ≠ .slice Option.none 0 0) := hvn
          clear hvn
          have hb2 : Below w.heap.size w w2 := Below.grown (by (repeat' (first | (with_reducible exact Below.refl _ _) | (with_reducible assumption) | (with_reducible refine Below.alloc ?_ ?_ _) | (with_reducible refine Below.drew ?_) | (with_reducible refine Below.setCell ?_ ?_ _) | (with_reducible refine Below.trans ?_ (Below.mono (by assumption) ?_)) | (with_reducible exact Nat.le_refl _) | omega | (simp only [World.size_alloc, World.size_setCell, World.size_drew]; omega) | (simp; omega) | (simp; done)))) hgrow (by first | omega | (simp only [World.size_alloc, World.size_setCell, World.size_drew]; omega)) (fun q hq => (hown.lt q hq).1)
          have hli2 : w2.ownsRow w.heap.size 52 2 (.slice (some ⟨g, 0, Option.none⟩) 8 cap) 8 (symCells (allTo 8)) := World.ownsRow.kept (by (repeat (first | (with_reducible assumption) | (with_reducible refine World.ownsRow.alloc ?_ _) | (with_reducible refine World.ownsRow.drew ?_) | (with_reducible refine ownsBelow (by assumption) ?_)))) hgrow (.inr fun e => hne e.symm)
          have hgl2 := (hli2.lt g rfl).2
          have hne2 : v'.ownBlock ≠ some g := by
            rcases hat with e | e
            · rw [e]; exact hne
            · rw [e]
              intro e2
              have e3 := Option.some.inj e2
              try simp only [World.size_alloc] at e3
              omega
          clear hgrow hat
          go_wp2
          go_roundw
          case rel => exact ⟨k + 1, by omega, by go_num, by rw [HY.out, symCells_snoc]; simpa using hown', hli2, hne2, hgl2, HVN.out, hb2⟩
          case measure => simp [intOf]; omega
        | false =>
          have HN : Hid (symsTo kind (k + 1) = symsTo kind k) := symsTo_no (kind := kind) (k := k) hB
          go_wp2_with (first | (go_at_call 95; refine (l1In_s _ _ _ _).mono ?_; rintro e w1 ⟨rfl, hb⟩; obtain ⟨hc, hf⟩ := bcell hb; have HL := keepL (by (repeat (first | (with_reducible assumption) | (with_reducible apply AllLt.alloc) | (with_reducible apply AllLt.setCell) | (with_reducible apply AllLt.drew) | (with_reducible exact AllLt.nil _)))) hb; have hq := HL; simp only [AllLt, and_true, World.size_alloc, World.size_setCell, World.size_drew] at hq; have hbs := hb.size; try simp only [World.size_alloc, World.size_setCell, World.size_drew] at hbs) | (go_at_call 151; refine (l1Of_s _ _ _ _ (by omega) (by omega) hin0 hin3).mono ?_; rintro e w1 ⟨rfl, hb⟩; obtain ⟨hc, hf⟩ := bcell hb; have HL := keepL (by (repeat (first | (with_reducible assumption) | (with_reducible apply AllLt.alloc) | (with_reducible apply AllLt.setCell) | (with_reducible apply AllLt.drew) | (with_reducible exact AllLt.nil _)))) hb; have hq := HL; simp only [AllLt, and_true, World.size_alloc, World.size_setCell, World.size_drew] at hq; have hbs := hb.size; try simp only [World.size_alloc, World.size_setCell, World.size_drew] at hbs))
          go_roundw
          case rel => exact ⟨k + 1, by omega, by go_num, by rw [HN.out]; (repeat (first | (with_reducible assumption) | (with_reducible refine World.ownsRow.alloc ?_ _) | (with_reducible refine World.ownsRow.drew ?_) | (with_reducible refine ownsBelow (by assumption) ?_))), by (repeat (first | (with_reducible assumption) | (with_reducible refine World.ownsRow.alloc ?_ _) | (with_reducible refine World.ownsRow.drew ?_) | (with_reducible refine ownsBelow (by assumption) ?_))), hne, by first | omega | (simp only [World.size_alloc, World.size_setCell, World.size_drew]; omega), HNN.out, by (repeat' (first | (with_reducible exact Below.refl _ _) | (with_reducible assumption) | (with_reducible refine Below.alloc ?_ ?_ _) | (with_reducible refine Below.drew ?_) | (with_reducible refine Below.setCell ?_ ?_ _) | (with_reducible refine Below.trans ?_ (Below.mono (by assumption) ?_)) | (with_reducible exact Nat.le_refl _) | omega | (simp only [World.size_alloc, World.size_setCell, World.size_drew]; omega) | (simp; omega) | (simp; done)))⟩
          case measure => simp [intOf]; omega
      · have hI := lieB_no hin
        have HN : Hid (symsTo kind (k + 1) = symsTo kind k) := by rw [symsTo_none hin, symsTo_none hin]; exact rfl
        go_wp2_with (first | (go_at_call 95; refine (l1In_s _ _ _ _).mono ?_; rintro e w1 ⟨rfl, hb⟩; obtain ⟨hc, hf⟩ := bcell hb; have HL := keepL (by (repeat (first | (with_reducible assumption) | (with_reducible apply AllLt.alloc) | (with_reducible apply AllLt.setCell) | (with_reducible apply AllLt.drew) | (with_reducible exact AllLt.nil _)))) hb; have hq := HL; simp only [AllLt, and_true, World.size_alloc, World.size_setCell, World.size_drew] at hq; have hbs := hb.size; try simp only [World.size_alloc, World.size_setCell, World.size_drew] at hbs))
        go_roundw
        case rel => exact ⟨k + 1, by omega, by go_num, by rw [HN.out]; (repeat (first | (with_reducible assumption) | (with_reducible refine World.ownsRow.alloc ?_ _) | (with_reducible refine World.ownsRow.drew ?_) | (with_reducible refine ownsBelow (by assumption) ?_))), by (repeat (first | (with_reducible assumption) | (with_reducible refine World.ownsRow.alloc ?_ _) | (with_reducible refine World.ownsRow.drew ?_) | (with_reducible refine ownsBelow (by assumption) ?_))), hne, by first | omega | (simp only [World.size_alloc, World.size_setCell, World.size_drew]; omega), HNN.out, by (repeat' (first | (with_reducible exact Below.refl _ _) | (with_reducible assumption) | (with_reducible refine Below.alloc ?_ ?_ _) | (with_reducible refine Below.drew ?_) | (with_reducible refine Below.setCell ?_ ?_ _) | (with_reducible refine Below.trans ?_ (Below.mono (by assumption) ?_)) | (with_reducible exact Nat.le_refl _) | omega | (simp only [World.size_alloc, World.size_setCell, World.size_drew]; omega) | (simp; omega) | (simp; done)))⟩
        case measure => simp [intOf]; omega
    · have hk8 : k = 8 := by omega
      subst hk8
      rcases ownsRow_forms hown with ⟨e, _⟩ | ⟨g2, cap2, rfl⟩
      · exact absurd e HNN.out
      go_wp2
      go_ret
      exact ⟨_, _, rfl, hown, hbel⟩
end Go.Proofs.YtfdgijmmgllmgaaGreatDoor
namespace Go.Proofs.YtfdgijmmgllmgaaGreatDoor
open Go.ChangeShapes Go.WideShapes Go.ChangeAt Go.RowKit Go.Joins
set_option linter.unusedSimpArgs false
set_option linter.unusedVariables false
set_option maxRecDepth 100000
attribute [local go_sem] store_f
open Ieee Go.Lib
structure OpS (F : FuncId) (a b r : Nat) : Prop where
  call : ∀ w : World, Calls Tryz.prog F #[.float .f32 a, .float .f32 b] w fun e w' => e = .returned (.float .f32 r) ∧ w' = w
theorem fin_of_round {z : Bool} {T : Int} {R : Nat} (hR : R < 2139095040) (h : T.natAbs ≤ magOf F32 R) : Fin32 (roundTo F32 z T) := by
  obtain ⟨e, h2⟩ := roundTo_eq z T hR h
  rw [e]; exact fin_word _ (by omega)
theorem plusS {a b R : Nat} (ha : Fin32 a) (hb : Fin32 b) (hR : R < 2139095040) (h : (valOf F32 a + valOf F32 b).natAbs ≤ magOf F32 R) : OpS 107 a b (clT (valOf F32 a + valOf F32 b)) := ⟨fun w => by
  obtain ⟨r, e, h1⟩ := add_cl ha hb
  have e2 := add_fin F32 ha hb
  rw [e] at e2
  have hf : Fin32 r := by cases e2; exact fin_of_round hR h
  rw [← h1, set_clean hf]
  exact l1Plus_s a b r w e (sub_self hf)⟩
theorem minusS {a b R : Nat} (ha : Fin32 a) (hb : Fin32 b) (hR : R < 2139095040) (h : (valOf F32 a - valOf F32 b).natAbs ≤ magOf F32 R) : OpS 152 a b (clT (valOf F32 a - valOf F32 b)) := ⟨fun w => by
  obtain ⟨r, e, h1⟩ := sub_cl ha hb
  have e2 := sub_fin F32 ha hb
  rw [e] at e2
  have hf : Fin32 r := by cases e2; exact fin_of_round hR h
  rw [← h1, set_clean hf]
  exact l1Minus_s a b r w e (sub_self hf)⟩
theorem timesS {a b R : Nat} (ha : Fin32 a) (hb : Fin32 b) (hR : R < 2139095040) (h : magOf F32 (rungOf F32 a) * magOf F32 (rungOf F32 b) ≤ magOf F32 R * 2 ^ 149) : OpS 158 a b (clM (valOf F32 a * valOf F32 b)) := ⟨fun w => by
  obtain ⟨r, e, h1⟩ := mul_cl ha hb
  have e2 := mul_fin F32 (q := 149) F32_lp ha hb
  rw [e] at e2
  have hf : Fin32 r := by
    cases e2
    obtain ⟨e3, h3⟩ := roundMul_eq 149 (negOf F32 a ^^ negOf F32 b) _ hR h
    rw [e3]; exact fin_word _ (by omega)
  rw [← h1, set_clean hf]
  exact l1Times_s a b r w e (sub_self hf)⟩
theorem plus_none {x : Nat} (hx : okB x = true) : OpS 107 x 0 (cleanB x) := by
  have h := plusS (b := 0) (R := rungOf F32 x) (ok_fin hx) (fin_of_lt (by omega)) (by have := ok_rung hx; omega) (by rw [val_zero, Int.add_zero, abs_val]; exact Nat.le_refl _)
  have e : clT (valOf F32 x + valOf F32 0) = cleanB x := by
    refine cl_inj (clT_cl _) (cl_clean (ok_fin hx) (ok_lt hx)) ?_
    rw [val_zero, Int.add_zero, val_cleanM (ok_fin hx)]
    exact tv_val (ok_fin hx)
  rwa [e] at h
theorem minus_none {x : Nat} (hx : Pt x) : OpS 152 0 x (ngB x) := by
  have h := minusS (a := 0) (R := rungOf F32 x) (fin_of_lt (by omega)) hx.cl.fin (by have := ok_rung hx.ok; omega) (by rw [val_zero, Int.zero_sub, Int.natAbs_neg, abs_val]; exact Nat.le_refl _)
  have e : clT (valOf F32 0 - valOf F32 x) = ngB x := by
    refine cl_inj (clT_cl _) (cl_ng hx.cl.fin) ?_
    rw [val_zero, Int.zero_sub, val_ng hx.cl.fin]
    show tv (- valOf F32 x) = _
    rw [tv_neg, tv_val hx.cl.fin]
  rwa [e] at h
def rotW : Nat → Nat × Nat → Nat × Nat
  | 0, p => p
  | n + 1, p => (ngB (rotW n p).2, (rotW n p).1)
theorem rotW_pt (n : Nat) {p : Nat × Nat} (hx : Pt p.1) (hy : Pt p.2) : Pt (rotW n p).1 ∧ Pt (rotW n p).2 := by
  induction n with
  | zero => exact ⟨hx, hy⟩
  | succ n ih => exact ⟨pt_ng ih.2.ok, ih.1⟩
theorem rotW_act (t : Nat) (f : Bool) (ht : t < 4) {x y : Nat} (hx : Cl x) (hy : Cl y) : rotW t (x, if f then ngB y else y) = actV t f x (ngB x) y (ngB y) := by
  have e1 := ng_ng hx
  have e2 := ng_ng hy
  rcases (by omega : t = 0 ∨ t = 1 ∨ t = 2 ∨ t = 3) with rfl | rfl | rfl | rfl <;> cases f <;> simp [rotW, actV, e1, e2]
structure ActS' (t : Int) (f : Bool) (x y p q : Nat) : Prop where
  call : ∀ w : World, Calls Tryz.prog 136 #[.agg #[.int .i64 t, .bool f], .complex .f32 x y] w fun e w' => e = .returned (.complex .f32 p q) ∧ Below w.heap.size w w'
structure Rots (t : Nat) (f : Bool) (x y cx cy : Nat) (R : Nat → Nat × Nat) : Prop where
  px : OpS 107 x 0 cx
  py : OpS 107 y 0 cy
  r1 : (R 0).1 = cx
  r2 : f = false → (R 0).2 = cy
  r3 : f = true → OpS 152 0 cy (R 0).2
  m : ∀ j, j < t → OpS 152 0 (R j).2 (R (j + 1)).1
  s : ∀ j, j < t → (R (j + 1)).2 = (R j).1
set_option maxHeartbeats 4000000 in
theorem act_rots {t : Nat} {f : Bool} {x y cx cy : Nat} {R : Nat → Nat × Nat} (ht : t < 4) (K : Rots t f x y cx cy R) : ActS' t f x y (R t).1 (R t).2 := ⟨fun w => by
  have PX := K.px
  have PY := K.py
  have H1 := Lib.hid K.r1
  have H2 := Lib.hid K.r2
  have H3 := Lib.hid K.r3
  have HM := Lib.hid K.m
  have HS := Lib.hid K.s
  clear K
  cases f
  · have h2 := Lib.hid (H2.out rfl)
    clear H2 H3
    go_enter Tryz.func136, Tryz.ntmps136
    go_wp2_with (go_at_call 107; (first | (with_reducible refine (PX.call _).mono ?_) | (with_reducible refine (PY.call _).mono ?_)); rintro e w1 ⟨rfl, rfl⟩)
    go_loop [5, 6, 7] (fun u v i => ∃ j : Nat, j ≤ t ∧ i = .int .i64 j ∧ u = .float .f32 (R j).1 ∧ v = .float .f32 (R j).2) (fun _ _ i => t - (intOf i).toNat)
    case atStart => exact ⟨0, by omega, rfl, by rw [H1.out], by rw [h2.out]⟩
    case round =>
      obtain ⟨j, hj, rfl, rfl, rfl⟩ := hrel
      by_cases hlt : j < t
      · have M := HM.out j hlt
        have S := Lib.hid (HS.out j hlt)
        go_wp2_with (go_at_call 152; (with_reducible refine (M.call _).mono ?_); rintro e w1 ⟨rfl, rfl⟩)
        go_round
        case rel => exact ⟨j + 1, by omega, by go_num, rfl, by rw [S.out]⟩
        case measure => simp [intOf]; omega
      · obtain rfl : j = t := by omega
        go_wp2
        go_ret
        exact ⟨rfl, by (repeat' (first | (with_reducible exact Below.refl _ _) | (with_reducible assumption) | (with_reducible refine Below.alloc ?_ ?_ _) | (with_reducible refine Below.drew ?_) | (with_reducible refine Below.setCell ?_ ?_ _) | (with_reducible refine Below.trans ?_ (Below.mono (by assumption) ?_)) | (with_reducible exact Nat.le_refl _) | omega | (simp only [World.size_alloc, World.size_setCell, World.size_drew]; omega) | (simp; omega) | (simp; done)))⟩
  · have MY := H3.out rfl
    clear H2 H3
    go_enter Tryz.func136, Tryz.ntmps136
    go_wp2_with (first | (go_at_call 107; (first | (with_reducible refine (PX.call _).mono ?_) | (with_reducible refine (PY.call _).mono ?_)); rintro e w1 ⟨rfl, rfl⟩) | (go_at_call 152; (with_reducible refine (MY.call _).mono ?_); rintro e w1 ⟨rfl, rfl⟩))
    go_loop [5, 6, 7] (fun u v i => ∃ j : Nat, j ≤ t ∧ i = .int .i64 j ∧ u = .float .f32 (R j).1 ∧ v = .float .f32 (R j).2) (fun _ _ i => t - (intOf i).toNat)
    case atStart => exact ⟨0, by omega, rfl, by rw [H1.out], rfl⟩
    case round =>
      obtain ⟨j, hj, rfl, rfl, rfl⟩ := hrel
      by_cases hlt : j < t
      · have M := HM.out j hlt
        have S := Lib.hid (HS.out j hlt)
        go_wp2_with (go_at_call 152; (with_reducible refine (M.call _).mono ?_); rintro e w1 ⟨rfl, rfl⟩)
        go_round
        case rel => exact ⟨j + 1, by omega, by go_num, rfl, by rw [S.out]⟩
        case measure => simp [intOf]; omega
      · obtain rfl : j = t := by omega
        go_wp2
        go_ret
        exact ⟨rfl, by (repeat' (first | (with_reducible exact Below.refl _ _) | (with_reducible assumption) | (with_reducible refine Below.alloc ?_ ?_ _) | (with_reducible refine Below.drew ?_) | (with_reducible refine Below.setCell ?_ ?_ _) | (with_reducible refine Below.trans ?_ (Below.mono (by assumption) ?_)) | (with_reducible exact Nat.le_refl _) | omega | (simp only [World.size_alloc, World.size_setCell, World.size_drew]; omega) | (simp; omega) | (simp; done)))⟩⟩
theorem actS_of {t : Nat} (f : Bool) {x y : Nat} (ht : t < 4) (hx : okB x = true) (hy : okB y = true) : ActS' t f x y (actP ((t : Int), f) (ptOf hx hy)).1.1 (actP ((t : Int), f) (ptOf hx hy)).1.2 := by
  have px := pt_clean hx
  have py := pt_clean hy
  have p2 : Pt (if f then ngB (cleanB y) else cleanB y) := by
    cases f
    · exact py
    · exact pt_ng py.ok
  have K : Rots t f x y (cleanB x) (cleanB y) (fun j => rotW j (cleanB x, if f then ngB (cleanB y) else cleanB y)) := ⟨plus_none hx, plus_none hy, rfl, fun h => by rw [h]; rfl, fun h => by rw [h]; exact minus_none py, fun j _ => minus_none (rotW_pt j px p2).2, fun j _ => rfl⟩
  have h := act_rots ht K
  have e := rotW_act t f ht px.cl py.cl
  have e3 : (actP ((t : Int), f) (ptOf hx hy)).1 = actV t f (cleanB x) (ngB (cleanB x)) (cleanB y) (ngB (cleanB y)) := rfl
  rw [e3, ← e]
  exact h
structure PtS (x y : Nat) : Prop where
  call : ∀ w : World, Calls Tryz.prog 101 #[.complex .f32 x y] w fun e w' => e = .returned (.bool true) ∧ Below w.heap.size w w'
set_option maxHeartbeats 4000000 in
theorem ptS {x y : Nat} (hx : okB x = true) (hy : okB y = true) : PtS x y := ⟨fun w => by
  have S1 := fun w => l1Single_yes x w (sub_self (ok_fin hx))
  have S2 := fun w => l1Single_yes y w (sub_self (ok_fin hy))
  have i1 := ok_in hx
  have i2 := ok_in hy
  have H1 := Lib.hid S1
  have H2 := Lib.hid S2
  clear S1 S2 hx hy
  go_enter Tryz.func101, Tryz.ntmps101
  go_wp2_with fail
  refine (H1.out _).mono ?_
  rintro e w1 ⟨rfl, hb1⟩
  have HB1 : Hid (Below w.heap.size w w1) := hb1
  have hs1 := hb1.size
  clear hb1
  go_wp2_with fail
  refine (H2.out _).mono ?_
  rintro e w2 ⟨rfl, hb2⟩
  have HB2 : Hid (Below w.heap.size w w2) := HB1.out.trans (hb2.mono hs1)
  clear hb2
  unfold inB at i1 i2
  go_wp2
  all_goals (go_ret; exact ⟨by simp_all, HB2.out⟩)⟩
structure WedS (kind : Int) (x y : Nat) (b : Bool) : Prop where
  call : ∀ w : World, Calls Tryz.prog 137 #[.int .i64 kind, .complex .f32 x y] w fun e w' => e = .returned (.bool b) ∧ w' = w
set_option maxHeartbeats 2000000 in
theorem wedS_of {kind : Int} {x y : Nat} (h0 : 0 ≤ kind) (h3 : kind ≤ 3) {b1 b2 b4 : Bool}
    (e1 : (FloatKind.f32.format.order x 0 == some .gt || FloatKind.f32.format.order x 0 == some .eq) = b1)
    (e2 : (FloatKind.f32.format.order y 0 == some .gt || FloatKind.f32.format.order y 0 == some .eq) = b2)
    (e4 : (FloatKind.f32.format.order y x == some .lt || FloatKind.f32.format.order y x == some .eq) = b4) :
    WedS kind x y (if kind = 0 then true else if kind = 1 then b2 else if kind = 2 then b1 && b2 else b2 && b4) := by
  refine ⟨fun w => ?_⟩
  rcases (by omega : kind = 0 ∨ kind = 1 ∨ kind = 2 ∨ kind = 3) with rfl | rfl | rfl | rfl <;> cases b1 <;> cases b2 <;> cases b4
  all_goals
    go_enter Tryz.func137, Tryz.ntmps137
    go_wp2
    all_goals (go_ret; exact ⟨by simp_all, rfl⟩)
theorem wedS {kind : Int} (h0 : 0 ≤ kind) (h3 : kind ≤ 3) (p : PtW) : WedS kind p.1.1 p.1.2 (wed kind p) := by
  have h := wedS_of h0 h3 (x := p.1.1) (y := p.1.2) (le_zero p.2.1.cl.fin) (le_zero p.2.2.cl.fin) (le_le p.2.1.cl.fin p.2.2.cl.fin)
  exact h
structure FoldMS (kind : Int) (x y a b : Nat) (t : Int) (f : Bool) : Prop where
  call : ∀ w : World, Calls Tryz.prog 104 #[.int .i64 kind, .complex .f32 x y] w fun e w' => e = .returned (.tuple #[.complex .f32 a b, .agg #[.int .i64 t, .bool f], .bool true]) ∧ Below w.heap.size w w'
structure ActsS (l : List (Int × Bool)) (x y : Nat) (p : PtW) : Prop where
  call : ∀ k, k < l.length → ActS' (l.getD k (0, false)).1 (l.getD k (0, false)).2 x y (actP (l.getD k (0, false)) p).1.1 (actP (l.getD k (0, false)) p).1.2
structure WedsS (kind : Int) (l : List (Int × Bool)) (p : PtW) : Prop where
  call : ∀ k, k < l.length → WedS kind (actP (l.getD k (0, false)) p).1.1 (actP (l.getD k (0, false)) p).1.2 (wed kind (actP (l.getD k (0, false)) p))
structure SymsMS (kind : Int) (l : List (Int × Bool)) : Prop where
  call : ∀ w : World, Calls Tryz.prog 135 #[.int .i64 kind] w fun e w' => ∃ g cap, e = .returned (.slice (some ⟨g, 0, Option.none⟩) l.length cap) ∧ w'.ownsRow w.heap.size 52 2 (.slice (some ⟨g, 0, Option.none⟩) l.length cap) l.length (symCells l) ∧ Below w.heap.size w w'
set_option maxHeartbeats 4000000 in
set_option maxRecDepth 1000000 in
theorem foldPoint_s {kind : Int} {l : List (Int × Bool)} {x y : Nat} {p : PtW} {n : Nat} (SM : SymsMS kind l) (hlen : l.length ≤ 8) (PY : PtS x y) (A : ActsS l x y p) (W : WedsS kind l p) (F : First kind l p n) :
    FoldMS kind x y (actP (l.getD n (0, false)) p).1.1 (actP (l.getD n (0, false)) p).1.2 (l.getD n (0, false)).1 (l.getD n (0, false)).2 := by
  refine ⟨fun w => ?_⟩
  have hnl := F.lt
  go_enter Tryz.func104, Tryz.ntmps104
  go_wp2_with fail
  have HK0 : Hid (Blk (w.alloc (.cells #[.int .i64 0, .bool false] 52)) w.heap.size #[.int .i64 0, .bool false] 52) := Blk.new _ _ _
  have HB0 : Hid (Below w.heap.size w (w.alloc (.cells #[.int .i64 0, .bool false] 52))) := by show Below _ _ _; (repeat' (first | (with_reducible exact Below.refl _ _) | (with_reducible assumption) | (with_reducible refine Below.alloc ?_ ?_ _) | (with_reducible refine Below.drew ?_) | (with_reducible refine Below.setCell ?_ ?_ _) | (with_reducible refine Below.trans ?_ (Below.mono (by assumption) ?_)) | (with_reducible exact Nat.le_refl _) | omega | (simp only [World.size_alloc, World.size_setCell, World.size_drew]; omega) | (simp; omega) | (simp; done)))
  have hs0 : w.heap.size < (w.alloc (.cells #[.int .i64 0, .bool false] 52)).heap.size := by simp
  generalize w.alloc (.cells #[.int .i64 0, .bool false] 52) = X at *
  refine (PY.call _).mono ?_
  rintro e w0 ⟨rfl, hb0⟩
  have HK1 : Hid (Blk w0 w.heap.size #[.int .i64 0, .bool false] 52) := HK0.out.below hb0
  have HB1 : Hid (Below w.heap.size w w0) := HB0.out.trans (hb0.mono (by omega))
  have hs1 := hb0.size
  clear hb0 HK0 HB0
  go_wp2_with fail
  refine (SM.call _).mono ?_
  rintro e w1 ⟨gs, cs, rfl, own, hb1⟩
  have HS : Hid (SymRow w1 gs l) := symRow_of own rfl
  have HB : Hid (Below w.heap.size w w1) := HB1.out.trans (hb1.mono (by omega))
  have HK : Hid (Blk w1 w.heap.size #[.int .i64 0, .bool false] 52) := HK1.out.below hb1
  clear own hb1 HK1 HB1
  go_wp2_with fail
  go_loopw [17] (fun i wr => ∃ k : Nat, k ≤ n ∧ i = .int .i64 k ∧ SymRow wr gs l ∧ Blk wr w.heap.size #[.int .i64 0, .bool false] 52 ∧ Below w.heap.size w wr)
    (fun i _ => l.length - (intOf i).toNat)
  case atStart => exact ⟨0, by omega, rfl, HS.out, HK.out, HB.out⟩
  case round =>
    obtain ⟨k, hk, rfl, hS, hK, hbel⟩ := hrel
    have HR : Hid (SymRow wr gs l) := hS
    have HKR : Hid (Blk wr w.heap.size #[.int .i64 0, .bool false] 52) := hK
    have HBR : Hid (Below w.heap.size w wr) := hbel
    have hbs := hbel.size
    have hkl := hK.lt
    have hlt : k < l.length := by omega
    have HA := A.call k hlt
    have HW := W.call k hlt
    have HNO : Hid (k < n → wed kind (actP (l.getD k (0, false)) p) = false) := F.no k
    have HYES : Hid (k = n → wed kind (actP (l.getD k (0, false)) p) = true) := fun e => by rw [e]; exact F.yes
    obtain ⟨c0, c1⟩ := hS k hlt
    have HE : Hid (k = n → l.getD n (0, false) = l.getD k (0, false)) := fun e => by rw [e]
    clear hS hK hbel
    generalize wed kind (actP (l.getD k (0, false)) p) = b at HW HNO HYES
    have HP : Hid (k = n → (actP (l.getD n (0, false)) p).1.1 = (actP (l.getD k (0, false)) p).1.1 ∧ (actP (l.getD n (0, false)) p).1.2 = (actP (l.getD k (0, false)) p).1.2) := fun e => by rw [e]; exact ⟨rfl, rfl⟩
    generalize (actP (l.getD k (0, false)) p).1.1 = a1 at HA HW HP
    generalize (actP (l.getD k (0, false)) p).1.2 = a2 at HA HW HP
    generalize l.getD k (0, false) = s at HA c0 c1 HE
    obtain ⟨t, f⟩ := s
    simp only [] at c0 c1
    go_wp2_with fail
    refine (HA.call _).mono ?_
    rintro e w2 ⟨rfl, hb2⟩
    have hs2 := hb2.size
    simp only [World.size_alloc] at hs2
    have HB2 : Hid (Below w.heap.size w w2) := (HBR.out.alloc (by omega) _).trans (hb2.mono (by simp; omega))
    have HR2 : Hid (SymRow w2 gs l) := HR.out.alloc.below hb2
    have HK2 : Hid (Blk w2 w.heap.size #[.int .i64 0, .bool false] 52) := HKR.out.alloc.below hb2
    have hc : Blk w2 wr.heap.size #[.int .i64 t, .bool f] 52 := Blk.belowAt hb2 (Blk.new _ _ _)
    have d0 := Blk.cellAt (i := 0) hc rfl
    have d1 := Blk.cellAt (i := 1) hc rfl
    simp only [List.getElem_toArray, List.getElem_cons_zero, List.getElem_cons_succ] at d0 d1
    have ld := hc.lt
    clear c0 c1 hb2 HR HKR HBR hc
    go_wp2_with fail
    refine (HW.call _).mono ?_
    rintro e w3 ⟨rfl, rfl⟩
    by_cases hkn : k = n
    · have hb : b = true := HYES.out hkn
      subst hb
      have z0 : w3.cell? ⟨w.heap.size, 0, Option.none⟩ = some (.int .i64 0) := HK2.out.cell 0
      have z1 : w3.cell? ⟨w.heap.size, 1, Option.none⟩ = some (.bool false) := HK2.out.cell 1
      have y0 : w3.frozen? ⟨w.heap.size, 0, Option.none⟩ = false := HK2.out.free 0
      have y1 : w3.frozen? ⟨w.heap.size, 1, Option.none⟩ = false := HK2.out.free 1
      have HEE : Hid (l.getD n (0, false) = (t, f)) := HE.out hkn
      have HPP : Hid ((actP (l.getD n (0, false)) p).1.1 = a1 ∧ (actP (l.getD n (0, false)) p).1.2 = a2) := HP.out hkn
      clear hkn HE HP HYES HNO
      go_wp2_with fail
      go_region_held3 (fun wx => wx.cell? ⟨wr.heap.size, 0, Option.none⟩ = some (.int .i64 t) ∧ wx.cell? ⟨wr.heap.size, 1, Option.none⟩ = some (.bool f))
        (((repeat' apply And.intro) <;> first | (with_reducible assumption) | (((repeat (first | (with_reducible assumption) | (with_reducible exact cNewAt (by first | rfl | (simp only [World.size_alloc, World.size_setCell, World.size_drew]; done) | omega) rfl) | (with_reducible exact sNewAt (by first | rfl | (simp only [World.size_alloc, World.size_setCell, World.size_drew]; done) | omega) rfl) | (simp; done) | (with_reducible apply cAlloc) | (with_reducible apply cDrew) | (with_reducible refine cSet (by dsimp only; omega) ?_) | (with_reducible refine cSetOff (by dsimp only; omega) ?_) | (with_reducible apply cSame) | (with_reducible refine cBelow (by assumption) ?_) | (with_reducible apply sAlloc) | (with_reducible apply sDrew) | (with_reducible refine sBelow (by assumption) ?_) | (with_reducible refine sSet (by dsimp only; omega) ?_))); first | done | (simp [*]; done)); done) | (simp only [World.size_alloc, World.size_setCell, World.size_drew]; omega) | omega | (go_keep; done) | ((repeat' (first | (with_reducible exact Below.refl _ _) | (with_reducible assumption) | (with_reducible refine Below.alloc ?_ ?_ _) | (with_reducible refine Below.drew ?_) | (with_reducible refine Below.setCell ?_ ?_ _) | (with_reducible refine Below.trans ?_ (Below.mono (by assumption) ?_)) | (with_reducible exact Nat.le_refl _) | omega | (simp only [World.size_alloc, World.size_setCell, World.size_drew]; omega) | (simp; omega) | (simp; done))); done)))
        (first | fail)
      all_goals
        rename_i hHeld
        clear hHeld d0 d1 z0 z1 y0 y1
        generalize hX : ((w3.setCell ⟨w.heap.size, 0, Option.none⟩ (.int .i64 t)).setCell ⟨w.heap.size, 1, Option.none⟩ (.bool f)).drew = X
        have D : Blk X w.heap.size #[.int .i64 t, .bool f] 52 := by
          rw [← hX]
          exact (Blk.setAt (b := w.heap.size) rfl (Blk.setAt (b := w.heap.size) rfl HK2.out rfl) rfl).drew
        have HX : Hid (Below w.heap.size w X) := by
          rw [← hX]
          exact ((HB2.out.setCell (Nat.le_refl _) _).setCell (Nat.le_refl _) _).drew
        clear hX
        have e0 := Blk.cellAt (i := 0) D rfl
        have e1 := Blk.cellAt (i := 1) D rfl
        simp only [List.getElem_toArray, List.getElem_cons_zero, List.getElem_cons_succ] at e0 e1
        clear D
        go_wp2
        exact bodyPost_ret (v := .tuple #[.complex .f32 a1 a2, .agg #[.int .i64 t, .bool f], .bool true]) (by simp [results, Tryz.results104, go_sem, e0, e1]) rfl ⟨by rw [HPP.out.1, HPP.out.2, HEE.out], HX.out⟩
    · have hb : b = false := HNO.out (by omega)
      subst hb
      go_wp2
      go_roundw
      case rel => exact ⟨k + 1, by omega, by go_num, HR2.out, HK2.out, HB2.out⟩
      case measure => simp [intOf]; omega
theorem actsS_of {l : List (Int × Bool)} (hl : ∀ s ∈ l, isSymB s.1 = true) {x y : Nat} (hx : okB x = true) (hy : okB y = true) : ActsS l x y (ptOf hx hy) := ⟨fun k hk => by
  have hs := hl _ (getD_memS hk)
  obtain ⟨h1, h2⟩ := isSymB_iff.1 hs
  have h := actS_of (t := (l.getD k (0, false)).1.toNat) (l.getD k (0, false)).2 (by omega) hx hy
  rwa [Int.toNat_of_nonneg h1] at h⟩
theorem foldS_raw {kind : Int} {x y : Nat} (h0 : 0 ≤ kind) (h3 : kind ≤ 3) (hx : okB x = true) (hy : okB y = true) : FoldMS kind x y (actP (foldS kind (ptOf hx hy)) (ptOf hx hy)).1.1 (actP (foldS kind (ptOf hx hy)) (ptOf hx hy)).1.2 (foldS kind (ptOf hx hy)).1 (foldS kind (ptOf hx hy)).2 := by
  obtain ⟨n, F⟩ := first_of h0 h3 (ptOf hx hy)
  have hrg := syms_range kind h0 h3
  have SM : SymsMS kind (symsTo kind 8) := ⟨fun w => symsOf_s kind w⟩
  have FM := foldPoint_s SM (symsTo_le kind 8) (ptS hx hy) (actsS_of hrg hx hy) ⟨fun k hk => wedS h0 h3 _⟩ F
  rw [fold_first F] at FM
  exact FM
end Go.Proofs.YtfdgijmmgllmgaaGreatDoor
namespace Go.Proofs.YtfdgijmmgllmgaaGreatDoor
open Go.ChangeShapes Go.WideShapes Go.ChangeAt Go.RowKit Go.Joins 
set_option linter.unusedSimpArgs false
set_option linter.unusedVariables false
set_option maxRecDepth 100000
structure OnceDrawn (B q : Nat) (w : World) (e : Ending) (w' : World) (t : Bool) : Prop where
  ret : e = .returned (.bool t)
  cur : Cur B w' q
  grown : w.grownBy w' (some q)
theorem l1Once_s (B q : Nat) (n : Int) (w : World) (hcur : Cur B w q) (h1 : 1 ≤ n) (h2 : n ≤ 256) :
    Calls Tryz.prog 72 #[.pointer (some ⟨q, 0, Option.none⟩), .int .i64 n] w fun e w' => ∃ t : Bool, OnceDrawn B q w e w' t := by
  have HC : Hid (Cur B w q) := hcur
  clear hcur
  go_enter Tryz.func72, Tryz.ntmps72
  go_wp2_with fail
  refine (l1Below_s B q n _ HC.out h1 h2).mono ?_
  rintro e w1 ⟨x, rfl, hx0, hx1, hc1, hg1⟩
  have HC1 : Hid (Cur B w1 q) := hc1
  have HG1 : Hid (w.grownBy w1 (some q)) := hg1
  clear hc1 hg1
  go_wp2
  go_ret
  exact ⟨_, rfl, HC1.out, HG1.out⟩
end Go.Proofs.YtfdgijmmgllmgaaGreatDoor
namespace Go.Proofs.YtfdgijmmgllmgaaGreatDoor
open Ieee
def pm (x : Nat) : Nat := magOf F32 (rungOf F32 x)
theorem mag_one : magOf F32 1065353216 = 2 ^ 149 := by decide +kernel
theorem Part.rung {x : Nat} (h : Part x) : rungOf F32 x ≤ 1065353216 := by
  rcases h with h | h
  · rw [rung_of_lt (by omega)]; exact h
  · subst h; unfold rungOf; rw [F32_sw]; decide
theorem Part.pm_le {x : Nat} (h : Part x) : pm x ≤ 2 ^ 149 := by
  rw [← mag_one]; exact magOf_le F32 h.rung
theorem Part.neg {x : Nat} (h : Part x) : negOf F32 x = true → rungOf F32 x = 0 := by
  intro hn
  rcases h with h | h
  · rw [neg_of_lt (by omega)] at hn; cases hn
  · subst h; unfold rungOf; rw [F32_sw]
theorem Part.val {x : Nat} (h : Part x) : valOf F32 x = (pm x : Int) := by
  unfold valOf pm
  cases hn : negOf F32 x
  · rfl
  · rw [h.neg hn, magOf_zero]; rfl
theorem Part.order {a b : Nat} (ha : Part a) (hb : Part b) : F32.order a b = some (compare (pm a : Int) (pm b : Int)) := by
  rw [order_fin F32 ha.fin hb.fin, ha.val, hb.val]
theorem pm_word {r : Nat} (h : r < 2147483648) : pm r = magOf F32 r := by unfold pm; rw [rung_of_lt h]
theorem part_of_le {x : Nat} (h : x ≤ 1065353216) : Part x := Or.inl h
theorem part_one : Part 1065353216 := Or.inl (Nat.le_refl _)
theorem pm_one : pm 1065353216 = 2 ^ 149 := by rw [pm_word (by omega), mag_one]
def opB (o : Option Nat) : Nat := match o with | some r => cleanB r | none => 0
def mulB (a b : Nat) : Nat := opB (F32.mul a b)
def subB (a b : Nat) : Nat := opB (F32.sub a b)
def addB (a b : Nat) : Nat := opB (F32.add a b)
theorem clean_word (s : Bool) {r : Nat} (h : r < 2139095040) : cleanB (F32.word s r) = if r = 0 then 0 else F32.word s r := by
  rw [clean_eq (fin_word s h), rungOf_word F32 s (by rw [F32_sw]; omega)]
theorem mul_part {a b : Nat} (ha : Part a) (hb : Part b) :
    ∃ r, F32.mul a b = some r ∧ Fin32 r ∧ cleanB r = rn F32 (pm a * pm b) 149 ∧ rn F32 (pm a * pm b) 149 ≤ rungOf F32 a ∧ rn F32 (pm a * pm b) 149 ≤ rungOf F32 b := by
  have e := mul_fin F32 (q := 149) F32_lp ha.fin hb.fin
  have hN : pm a * pm b ≤ magOf F32 (rungOf F32 a) * 2 ^ 149 := Nat.mul_le_mul_left _ hb.pm_le
  have hN2 : pm a * pm b ≤ magOf F32 (rungOf F32 b) * 2 ^ 149 := by rw [Nat.mul_comm]; exact Nat.mul_le_mul_left _ ha.pm_le
  have hra := ha.rung
  obtain ⟨e1, l1⟩ := roundMul_eq 149 (negOf F32 a ^^ negOf F32 b) (pm a * pm b) (R := rungOf F32 a) (by omega) hN
  have l2 : rn F32 (pm a * pm b) 149 ≤ rungOf F32 b := rn_le F32 hN2
  refine ⟨_, e, ?_, ?_, l1, l2⟩
  · show Fin32 (roundMul F32 149 (negOf F32 a ^^ negOf F32 b) (pm a * pm b))
    rw [e1]; exact fin_word _ (by omega)
  · show cleanB (roundMul F32 149 (negOf F32 a ^^ negOf F32 b) (pm a * pm b)) = _
    rw [e1, clean_word _ (by omega)]
    by_cases h0 : rn F32 (pm a * pm b) 149 = 0
    · rw [if_pos h0, h0]
    · rw [if_neg h0]
      cases hs : (negOf F32 a ^^ negOf F32 b)
      · rfl
      · exfalso; apply h0
        have : pm a * pm b = 0 := by
          unfold pm
          cases na : negOf F32 a
          · cases nb : negOf F32 b
            · rw [na, nb] at hs; cases hs
            · rw [hb.neg nb, magOf_zero, Nat.mul_zero]
          · rw [ha.neg na, magOf_zero, Nat.zero_mul]
        rw [this, rn_zero]
theorem mulB_part {a b : Nat} (ha : Part a) (hb : Part b) : mulB a b = rn F32 (pm a * pm b) 149 ∧ mulB a b ≤ rungOf F32 a ∧ mulB a b ≤ rungOf F32 b := by
  obtain ⟨r, e, _, e1, l1, l2⟩ := mul_part ha hb
  unfold mulB; rw [e]
  show cleanB r = _ ∧ cleanB r ≤ _ ∧ cleanB r ≤ _
  rw [e1]; exact ⟨rfl, l1, l2⟩
theorem Part.mul {a b : Nat} (ha : Part a) (hb : Part b) : Part (mulB a b) := part_of_le (by have := (mulB_part ha hb).2.1; have := ha.rung; omega)
theorem sub_part {a b : Nat} (ha : Part a) (hb : Part b) : ∃ r, F32.sub a b = some r ∧ Fin32 r ∧
    (pm b ≤ pm a → cleanB r = rn F32 (pm a - pm b) 0 ∧ rn F32 (pm a - pm b) 0 ≤ rungOf F32 a) := by
  have e := sub_fin F32 ha.fin hb.fin
  rw [ha.val, hb.val] at e
  have h1 := ha.pm_le
  have h2 := hb.pm_le
  have hra := ha.rung
  obtain ⟨e1, l1⟩ := roundTo_eq (negOf F32 a && !negOf F32 b) ((pm a : Int) - (pm b : Int)) (R := 1065353216) (by omega) (by rw [mag_one]; omega)
  rw [e1] at e
  refine ⟨_, e, fin_word _ (by omega), fun hle => ?_⟩
  have hn : ((pm a : Int) - (pm b : Int)).natAbs = pm a - pm b := by omega
  rw [hn]
  have l2 : rn F32 (pm a - pm b) 0 ≤ rungOf F32 a := rn_le F32 (by rw [Nat.pow_zero, Nat.mul_one]; exact Nat.sub_le _ _)
  refine ⟨?_, l2⟩
  rw [clean_word _ (by omega)]
  by_cases h0 : rn F32 (pm a - pm b) 0 = 0
  · rw [if_pos h0, h0]
  · rw [if_neg h0]
    have hT : ¬ ((pm a : Int) - (pm b : Int)) = 0 := by
      intro h; apply h0
      have : pm a - pm b = 0 := by omega
      rw [this, rn_zero]
    have hT2 : ¬ ((pm a : Int) - (pm b : Int)) < 0 := by omega
    rw [if_neg hT, decide_eq_false hT2]; rfl
theorem subB_part {a b : Nat} (ha : Part a) (hb : Part b) (h : pm b ≤ pm a) : subB a b = rn F32 (pm a - pm b) 0 ∧ subB a b ≤ rungOf F32 a := by
  obtain ⟨r, e, _, e1⟩ := sub_part ha hb
  unfold subB; rw [e]
  show cleanB r = _ ∧ cleanB r ≤ _
  rw [(e1 h).1]; exact ⟨rfl, (e1 h).2⟩
theorem Part.sub {a b : Nat} (ha : Part a) (hb : Part b) (h : pm b ≤ pm a) : Part (subB a b) := part_of_le (by have := (subB_part ha hb h).2; have := ha.rung; omega)
theorem mag_two : magOf F32 1073741824 = 2 ^ 150 := by decide +kernel
theorem add_part {a b : Nat} (ha : Part a) (hb : Part b) : ∃ r, F32.add a b = some r ∧ Fin32 r ∧ cleanB r = rn F32 (pm a + pm b) 0 ∧ rn F32 (pm a + pm b) 0 ≤ 1073741824 := by
  have e := add_fin F32 ha.fin hb.fin
  rw [ha.val, hb.val] at e
  have h1 := ha.pm_le
  have h2 := hb.pm_le
  have hn : ((pm a : Int) + (pm b : Int)).natAbs = pm a + pm b := by omega
  obtain ⟨e1, l1⟩ := roundTo_eq (negOf F32 a && negOf F32 b) ((pm a : Int) + (pm b : Int)) (R := 1073741824) (by omega) (by rw [mag_two, hn]; omega)
  rw [e1] at e
  rw [hn] at e l1
  refine ⟨_, e, fin_word _ (by omega), ?_, l1⟩
  rw [clean_word _ (by omega)]
  by_cases h0 : rn F32 (pm a + pm b) 0 = 0
  · rw [if_pos h0, h0]
  · rw [if_neg h0]
    have hT : ¬ ((pm a : Int) + (pm b : Int)) = 0 := by
      intro h; apply h0
      have : pm a + pm b = 0 := by omega
      rw [this, rn_zero]
    have hT2 : ¬ ((pm a : Int) + (pm b : Int)) < 0 := by omega
    rw [if_neg hT, decide_eq_false hT2]; rfl
theorem addB_part {a b : Nat} (ha : Part a) (hb : Part b) : addB a b = rn F32 (pm a + pm b) 0 ∧ addB a b ≤ 1073741824 := by
  obtain ⟨r, e, _, e1, l1⟩ := add_part ha hb
  unfold addB; rw [e]
  show cleanB r = _ ∧ cleanB r ≤ _
  rw [e1]; exact ⟨rfl, l1⟩
end Go.Proofs.YtfdgijmmgllmgaaGreatDoor
