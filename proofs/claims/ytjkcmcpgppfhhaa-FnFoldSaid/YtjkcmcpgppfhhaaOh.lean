/-
  KeepersOf: the symmetries that leave a point where it is.
-/
import Derived.Test.YtjkcmcpgppfhhaaOg
namespace Go.Proofs.Ytjkcmcpgppfhhaa
open Go.ChangeShapes Go.WideShapes Go.ChangeAt Go.RowKit Go.Joins
set_option linter.unusedSimpArgs false
set_option linter.unusedVariables false
set_option maxRecDepth 100000
attribute [local go_sem] store_f
open Ieee Go.Lib

/-- Words that stand for a point: what is equal to them is this point. -/
structure EqZ (x y : Nat) (p : PtW) : Prop where
  eq : ∀ q : PtW, ((FloatKind.f32.format.order q.1.1 x == some .eq) && (FloatKind.f32.format.order q.1.2 y == some .eq)) = decide (q = p)

theorem val_clean {x : Nat} (h : Fin32 x) : valOf F32 (cleanB x) = valOf F32 x := by
  rw [clean_eq h]
  by_cases h0 : rungOf F32 x = 0
  · rw [if_pos h0, val_zero, val_eq_zero.2 h0]
  · rw [if_neg h0]
theorem order_clean_r {a x : Nat} (ha : Fin32 a) (h : okB x = true) : F32.order a x = F32.order a (cleanB x) := by
  rw [order_fin F32 ha (ok_fin h), order_fin F32 ha (cl_clean (ok_fin h) (ok_lt h)).fin, val_clean (ok_fin h)]
theorem eqz_of {x y : Nat} (hx : okB x = true) (hy : okB y = true) : EqZ x y (ptOf hx hy) := ⟨fun q => by
  rw [← eq_points q (ptOf hx hy)]
  show ((F32.order q.1.1 x == some .eq) && (F32.order q.1.2 y == some .eq)) = ((F32.order q.1.1 (cleanB x) == some .eq) && (F32.order q.1.2 (cleanB y) == some .eq))
  rw [order_clean_r q.2.1.cl.fin hx, order_clean_r q.2.2.cl.fin hy]⟩
theorem eqz_pt (p : PtW) : EqZ p.1.1 p.1.2 p := ⟨fun q => eq_points q p⟩

/-- Of the symmetries of a list those that leave a point where it is. -/
def keepL' (l : List (Int × Bool)) (p : PtW) : List (Int × Bool) := l.filter fun s => decide (actP s p = p)
theorem keep_yes {l : List (Int × Bool)} {p : PtW} {k : Nat} (h : k < l.length) (hd : decide (actP (l.getD k (0, false)) p = p) = true) : keepL' (l.take (k + 1)) p = keepL' (l.take k) p ++ [l.getD k (0, false)] := by
  have e : l.getD k (0, false) = l[k] := by simp [List.getD, h]
  unfold keepL'
  rw [List.take_succ_eq_append_getElem h, List.filter_append, e]
  rw [e] at hd
  simp only [List.filter_cons, hd, if_true, List.filter_nil]
theorem keep_no {l : List (Int × Bool)} {p : PtW} {k : Nat} (h : k < l.length) (hd : decide (actP (l.getD k (0, false)) p = p) = false) : keepL' (l.take (k + 1)) p = keepL' (l.take k) p := by
  have e : l.getD k (0, false) = l[k] := by simp [List.getD, h]
  unfold keepL'
  rw [List.take_succ_eq_append_getElem h, List.filter_append]
  rw [e] at hd
  simp [List.filter_cons, hd]
theorem keep_le (l : List (Int × Bool)) (p : PtW) (k : Nat) : (keepL' (l.take k) p).length ≤ k := by
  have := List.length_filter_le (fun s => decide (actP s p = p)) (l.take k)
  unfold keepL'
  simp only [List.length_take] at this
  omega

set_option maxHeartbeats 4000000 in
set_option maxRecDepth 1000000 in
theorem keepersOf_i {kind : Int} {l : List (Int × Bool)} {x y : Nat} {p : PtW} (SM : SymsM kind l) (hlen : l.length ≤ 8) (PY : PtYes x y) (A : Acts l x y p) (Z : EqZ x y p) (w : World) :
    Calls Try.prog 17 #[.int .i64 kind, .complex .f32 x y] w fun e w' => ∃ g cap, e = .returned (.slice (some ⟨g, 0, Option.none⟩) (keepL' l p).length cap) ∧ w'.ownsRow w.heap.size 25 2 (.slice (some ⟨g, 0, Option.none⟩) (keepL' l p).length cap) (keepL' l p).length (symCells (keepL' l p)) ∧ Below w.heap.size w w' := by
  obtain ⟨i0, hi, hz0, hz1, hz2⟩ := info_parts infoSym
  go_enter Try.func17, Try.ntmps17
  go_wp2_with fail
  refine (PY.call _).mono ?_
  rintro e w0 ⟨rfl, rfl⟩
  go_wp2_with fail
  refine (SM.call _).mono ?_
  rintro e w1 ⟨gs, cs, rfl, own, hb1⟩
  have hS : SymRow w1 gs l := symRow_of own rfl
  have hgs := (own.lt _ rfl).1
  simp only [World.size_alloc] at hgs
  have hO : w1.ownsRow w.heap.size 25 2 (.slice (some ⟨w.heap.size, 0, Option.none⟩) 0 0) 0 [] := ownsBelow hb1 (World.ownsRow_lit _ #[] 0 (by simp) (by unfold maxLen; omega) rfl)
  have hB : Below w.heap.size w w1 := by (repeat' (first | (with_reducible exact Below.refl _ _) | (with_reducible assumption) | (with_reducible refine Below.alloc ?_ ?_ _) | (with_reducible refine Below.drew ?_) | (with_reducible refine Below.setCell ?_ ?_ _) | (with_reducible refine Below.trans ?_ (Below.mono (by assumption) ?_)) | (with_reducible exact Nat.le_refl _) | omega | (simp only [World.size_alloc, World.size_setCell, World.size_drew]; omega) | (simp; omega) | (simp; done)))
  have hgl := (own.lt _ rfl).2
  have HS : Hid (SymRow w1 gs l) := hS
  have HO : Hid (w1.ownsRow w.heap.size 25 2 (.slice (some ⟨w.heap.size, 0, Option.none⟩) 0 0) 0 []) := hO
  have HB : Hid (Below w.heap.size w w1) := hB
  clear own hb1 hS hO hB
  go_wp2_with fail
  go_loopw [5, 16] (fun v i wr => ∃ k : Nat, k ≤ l.length ∧ i = .int .i64 k ∧ wr.ownsRow w.heap.size 25 2 v (keepL' (l.take k) p).length (symCells (keepL' (l.take k) p)) ∧ v ≠ .slice Option.none 0 0 ∧ v.ownBlock ≠ Option.some gs ∧ SymRow wr gs l ∧ gs < wr.heap.size ∧ Below w.heap.size w wr)
    (fun _ i _ => l.length - (intOf i).toNat)
  case atStart => exact ⟨0, by omega, rfl, HO.out, by simp, by simp [Value.ownBlock]; omega, HS.out, hgl, HB.out⟩
  case round =>
    obtain ⟨k, hk, rfl, hown, hnn, hne, hS, hgl, hbel⟩ := hrel
    have HN : Hid (u5 ≠ .slice Option.none 0 0) := hnn
    have HE : Hid (u5.ownBlock ≠ Option.some gs) := hne
    have HR : Hid (SymRow wr gs l) := hS
    have hbs := hbel.size
    clear hnn hne
    by_cases hlt : k < l.length
    · have HA := A.call k hlt
      have hle := keep_le l p k
      have hq := Z.eq (actP (l.getD k (0, false)) p)
      have KY : Hid (decide (actP (l.getD k (0, false)) p = p) = true → keepL' (l.take (k + 1)) p = keepL' (l.take k) p ++ [l.getD k (0, false)]) := keep_yes hlt
      have KN : Hid (decide (actP (l.getD k (0, false)) p = p) = false → keepL' (l.take (k + 1)) p = keepL' (l.take k) p) := keep_no hlt
      obtain ⟨c0, c1⟩ := hS k hlt
      clear hS
      generalize decide (actP (l.getD k (0, false)) p = p) = b at hq KY KN
      generalize (actP (l.getD k (0, false)) p).1.1 = a1 at HA hq
      generalize (actP (l.getD k (0, false)) p).1.2 = a2 at HA hq
      generalize l.getD k (0, false) = s at HA c0 c1 KY
      obtain ⟨t, f⟩ := s
      simp only [] at c0 c1
      have HQ : Hid (((FloatKind.f32.format.order a1 x == some .eq) && (FloatKind.f32.format.order a2 y == some .eq)) = b) := hq
      have hop : ∀ w, (binOp .eql 28 (.complex .f32 a1 a2) (.complex .f32 x y)).run Try.prog w = .ok (.bool b) w := fun w => by rw [run_eql_complex, HQ.out]
      clear hq
      go_wp2_with fail
      refine (HA.call _).mono ?_
      rintro e w2 ⟨rfl, hb2⟩
      have hB2 : Below w.heap.size w w2 := by (repeat' (first | (with_reducible exact Below.refl _ _) | (with_reducible assumption) | (with_reducible refine Below.alloc ?_ ?_ _) | (with_reducible refine Below.drew ?_) | (with_reducible refine Below.setCell ?_ ?_ _) | (with_reducible refine Below.trans ?_ (Below.mono (by assumption) ?_)) | (with_reducible exact Nat.le_refl _) | omega | (simp only [World.size_alloc, World.size_setCell, World.size_drew]; omega) | (simp; omega) | (simp; done)))
      have hs2 := hb2.size
      simp only [World.size_alloc] at hs2
      have HR2 : Hid (SymRow w2 gs l) := HR.out.alloc.below hb2
      have hO2 : w2.ownsRow w.heap.size 25 2 u5 (keepL' (l.take k) p).length (symCells (keepL' (l.take k) p)) := ownsBelow hb2 (World.ownsRow.alloc hown _)
      have hc : Blk w2 wr.heap.size #[.int .i64 t, .bool f] 25 := Blk.belowAt hb2 (Blk.new _ _ _)
      have d0 := Blk.cellAt (i := 0) hc rfl
      have d1 := Blk.cellAt (i := 1) hc rfl
      simp only [List.getElem_toArray, List.getElem_cons_zero, List.getElem_cons_succ] at d0 d1
      clear c0 c1 hb2 HR hc HQ
      cases b
      · have HY : Hid (keepL' (l.take (k + 1)) p = keepL' (l.take k) p) := KN.out rfl
        clear KY KN
        go_wp2_with (simp only [hop])
        go_roundw
        case rel => exact ⟨k + 1, by omega, by go_num, by rw [HY.out]; exact hO2, HN.out, HE.out, HR2.out, by omega, hB2⟩
        case measure => simp [intOf]; omega
      · have HY : Hid (keepL' (l.take (k + 1)) p = keepL' (l.take k) p ++ [(t, f)]) := KY.out rfl
        clear KY KN
        go_wp2_with (first | (simp only [hop]) | (at_builtin; go_loud (refine wpList_append_own_at _ rfl _ _ 38 rfl w.heap.size 25 i0 (.agg #[.int .i64 0, .bool false]) 2 16 Try.underlying38 hi hz0 hz1 hz2 rfl (by decide) _ (keepL' (l.take k) p).length (symCells (keepL' (l.take k) p)) rfl ?hown ⟨w2.heap.size, 0, Option.none⟩ 1 1 [.int .i64 t, .bool f] rfl rfl ?c1 ?c2 ?c3 ?c4 ?c5 ?_)))
        case hown => (change World.ownsRow _ _ _ _ u5 _ _; (repeat (first | (with_reducible assumption) | (with_reducible refine World.ownsRow.alloc ?_ _) | (with_reducible refine World.ownsRow.drew ?_) | (with_reducible refine ownsBelow (by assumption) ?_))))
        case c1 =>
          intro j u hj
          rcases j with _ | _ | j <;> simp at hj <;> subst hj <;> simp [Addr.add]
        case c2 =>
          intro u hu
          simp at hu
          rcases hu with rfl | rfl <;> rfl
        case c3 => (unfold maxLen; omega)
        case c4 => omega
        case c5 => first | omega | (simp only [World.size_alloc, World.size_setCell, World.size_drew]; omega)
        intro v' w3 hown' hgrow hvn hat
        have HV : Hid (v' ≠ .slice Option.none 0 0) := (show v' ≠ .slice Option.none 0 0 from fun e => Nat.one_ne_zero (hvn.1 e).2)
        have hb3 : Below w.heap.size w w3 := Below.grown (by (repeat' (first | (with_reducible exact Below.refl _ _) | (with_reducible assumption) | (with_reducible refine Below.alloc ?_ ?_ _) | (with_reducible refine Below.drew ?_) | (with_reducible refine Below.setCell ?_ ?_ _) | (with_reducible refine Below.trans ?_ (Below.mono (by assumption) ?_)) | (with_reducible exact Nat.le_refl _) | omega | (simp only [World.size_alloc, World.size_setCell, World.size_drew]; omega) | (simp; omega) | (simp; done)))) hgrow (by first | omega | (simp only [World.size_alloc, World.size_setCell, World.size_drew]; omega)) (fun q hq => (hown.lt q hq).1)
        have HR3 : Hid (SymRow w3 gs l) := (HR2.out.alloc).grown (by simp; omega) hgrow HE.out
        have hz3 := hgrow.size
        simp only [World.size_alloc] at hz3
        have HE3 : Hid (v'.ownBlock ≠ Option.some gs) := (show v'.ownBlock ≠ Option.some gs from by
          rcases hat with e | e
          · rw [e]; exact HE.out
          · rw [e]; simp; omega)
        clear hgrow hvn hat HR2 HE HN
        go_wp2
        go_roundw
        case rel => exact ⟨k + 1, by omega, by go_num, by rw [HY.out, symCells_snoc]; simpa using hown', HV.out, HE3.out, HR3.out, by omega, hb3⟩
        case measure => simp [intOf]; omega
    · have hkl : k = l.length := by omega
      subst hkl
      rw [List.take_length] at hown
      rcases ownsRow_forms hown with ⟨e, _⟩ | ⟨g, cap, rfl⟩
      · exact absurd e HN.out
      clear hS
      go_wp2
      go_ret
      exact ⟨g, cap, rfl, hown, hbel⟩
end Go.Proofs.Ytjkcmcpgppfhhaa
