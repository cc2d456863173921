/-
  Texts Og, joined.
-/
import Derived.Test.YtfdgijmmgllmgaaGreatR44
namespace Go.Proofs.YtfdgijmmgllmgaaGreat
open Go.ChangeShapes Go.WideShapes Go.ChangeAt Go.RowKit Go.Joins
set_option linter.unusedSimpArgs false
set_option linter.unusedVariables false
set_option maxRecDepth 100000
attribute [local go_sem] store_f
open Ieee Go.Lib
structure SortM : Prop where
  call : ∀ {w w1 : World} {g cap n : Nat} {l : List PtW}, Listed w w1 g cap n l →
    Calls Tryz.prog 54 #[.slice (some ⟨g, 0, Option.none⟩) n cap, .func (.func 55) #[] #[]] w1 fun e w' =>
      e = .returned (.tuple #[]) ∧ ∃ l', Listed w w' g cap n l' ∧ Sort.SortedIn (ltOf cfP) 0 l'.toArray.size l'.toArray ∧ ∀ p, p ∈ l' ↔ p ∈ l
structure Orbit (w : World) (e : Ending) (w' : World) (l : List PtW) : Prop where
  some : ∃ g cap m, e = .returned (.slice (some ⟨g, 0, Option.none⟩) m.length cap) ∧ Once w w' g cap m l
theorem SymRow.grown {W w1 : World} {g : Nat} {l : List (Int × Bool)} {r : Option Nat} (h : SymRow W g l) (hlt : g < W.heap.size) (hg : W.grownBy w1 r) (hne : r ≠ Option.some g) : SymRow w1 g l :=
  fun k hk => ⟨(World.cell?_of_block (hg.block g hlt (fun e => hne e.symm))).trans (h k hk).1, (World.cell?_of_block (hg.block g hlt (fun e => hne e.symm))).trans (h k hk).2⟩
set_option maxHeartbeats 4000000 in
set_option maxRecDepth 1000000 in
theorem orbitOf_i (S : SortM) {kind : Int} {l : List (Int × Bool)} {x y : Nat} {p : PtW} (SM : SymsM kind l) (hlen : l.length ≤ 8) (PY : PtYes x y) (A : Acts l x y p) (w : World) :
    Calls Tryz.prog 23 #[.int .i64 kind, .complex .f32 x y] w fun e w' => Orbit w e w' (imgs l p) := by
  obtain ⟨i0, hi, hz0, hz1, hz2⟩ := info_parts infoCx
  go_enter Tryz.func23, Tryz.ntmps23
  go_wp2_with fail
  refine (PY.call _).mono ?_
  rintro e w0 ⟨rfl, rfl⟩
  go_wp2_with fail
  refine (SM.call _).mono ?_
  rintro e w1 ⟨gs, cs, rfl, own, hb1⟩
  have hS : SymRow w1 gs l := symRow_of own rfl
  have hgs := (own.lt _ rfl).1
  simp only [World.size_alloc] at hgs
  have hO : w1.ownsRow w.heap.size 28 1 (.slice (some ⟨w.heap.size, 0, Option.none⟩) 0 0) 0 [] := ownsBelow hb1 (World.ownsRow_lit _ #[] 0 (by simp) (by unfold maxLen; omega) rfl)
  have hB : Below w.heap.size w w1 := by (repeat' (first | (with_reducible exact Below.refl _ _) | (with_reducible assumption) | (with_reducible refine Below.alloc ?_ ?_ _) | (with_reducible refine Below.drew ?_) | (with_reducible refine Below.setCell ?_ ?_ _) | (with_reducible refine Below.trans ?_ (Below.mono (by assumption) ?_)) | (with_reducible exact Nat.le_refl _) | omega | (simp only [World.size_alloc, World.size_setCell, World.size_drew]; omega) | (simp; omega) | (simp; done)))
  have hgl := (own.lt _ rfl).2
  have HS : Hid (SymRow w1 gs l) := hS
  have HO : Hid (w1.ownsRow w.heap.size 28 1 (.slice (some ⟨w.heap.size, 0, Option.none⟩) 0 0) 0 []) := hO
  have HB : Hid (Below w.heap.size w w1) := hB
  clear own hb1 hS hO hB
  go_wp2_with fail
  go_loopw [5, 16] (fun v i wr => ∃ k : Nat, k ≤ l.length ∧ i = .int .i64 k ∧ wr.ownsRow w.heap.size 28 1 v k ((imgs (l.take k) p).map encP) ∧ v ≠ .slice Option.none 0 0 ∧ v.ownBlock ≠ Option.some gs ∧ SymRow wr gs l ∧ gs < wr.heap.size ∧ Below w.heap.size w wr)
    (fun _ i _ => l.length - (intOf i).toNat)
  case atStart => exact ⟨0, by omega, rfl, HO.out, by simp, by simp [Value.ownBlock]; omega, HS.out, hgl, HB.out⟩
  case round =>
    obtain ⟨k, hk, rfl, hown, hnn, hne, hS, hgl, hbel⟩ := hrel
    have HN : Hid (u5 ≠ .slice Option.none 0 0) := hnn
    have HE : Hid (u5.ownBlock ≠ Option.some gs) := hne
    have HR : Hid (SymRow wr gs l) := hS
    have hbs := hbel.size
    clear hnn hne
    by_cases hlt : k < l.length
    · have HA := A.call k hlt
      have HY : Hid ((imgs (l.take (k + 1)) p).map encP = (imgs (l.take k) p).map encP ++ [.complex .f32 (actP (l.getD k (0, false)) p).1.1 (actP (l.getD k (0, false)) p).1.2]) := imgs_snoc p hlt
      obtain ⟨c0, c1⟩ := hS k hlt
      clear hS
      generalize (actP (l.getD k (0, false)) p).1.1 = a1 at HA HY
      generalize (actP (l.getD k (0, false)) p).1.2 = a2 at HA HY
      generalize l.getD k (0, false) = s at HA c0 c1
      obtain ⟨t, f⟩ := s
      simp only [] at c0 c1
      go_wp2_with fail
      refine (HA.call _).mono ?_
      rintro e w2 ⟨rfl, hb2⟩
      have hB2 : Below w.heap.size w w2 := by (repeat' (first | (with_reducible exact Below.refl _ _) | (with_reducible assumption) | (with_reducible refine Below.alloc ?_ ?_ _) | (with_reducible refine Below.drew ?_) | (with_reducible refine Below.setCell ?_ ?_ _) | (with_reducible refine Below.trans ?_ (Below.mono (by assumption) ?_)) | (with_reducible exact Nat.le_refl _) | omega | (simp only [World.size_alloc, World.size_setCell, World.size_drew]; omega) | (simp; omega) | (simp; done)))
      have hs2 := hb2.size
      simp only [World.size_alloc] at hs2
      have HR2 : Hid (SymRow w2 gs l) := HR.out.alloc.below hb2
      have hO2 : w2.ownsRow w.heap.size 28 1 u5 k ((imgs (l.take k) p).map encP) := ownsBelow hb2 (World.ownsRow.alloc hown _)
      clear c0 c1 hb2 HR
      go_wp2_with (at_builtin; go_loud (refine wpList_append_own_at _ rfl _ _ 66 rfl w.heap.size 28 i0 (.complex .f32 0 0) 1 8 Tryz.underlying66 hi hz0 hz1 hz2 rfl (by decide) _ k ((imgs (l.take k) p).map encP) rfl ?hown ⟨w2.heap.size, 0, Option.none⟩ 1 1 [.complex .f32 a1 a2] rfl rfl ?c1 ?c2 ?c3 ?c4 ?c5 ?_))
      case hown => (change World.ownsRow _ _ _ _ u5 _ _; (repeat (first | (with_reducible assumption) | (with_reducible refine World.ownsRow.alloc ?_ _) | (with_reducible refine World.ownsRow.drew ?_) | (with_reducible refine ownsBelow (by assumption) ?_))))
      case c1 =>
        intro j u hj
        rcases j with _ | j <;> simp at hj
        subst hj
        simp [Addr.add]
      case c2 =>
        intro u hu
        simp at hu
        subst hu
        rfl
      case c3 => (unfold maxLen; omega)
      case c4 => omega
      case c5 => first | omega | (simp only [World.size_alloc, World.size_setCell, World.size_drew]; omega)
      intro v' w3 hown' hgrow hvn hat
      have HV : Hid (v' ≠ .slice Option.none 0 0) := hvn
      have hb3 : Below w.heap.size w w3 := Below.grown (by (repeat' (first | (with_reducible exact Below.refl _ _) | (with_reducible assumption) | (with_reducible refine Below.alloc ?_ ?_ _) | (with_reducible refine Below.drew ?_) | (with_reducible refine Below.setCell ?_ ?_ _) | (with_reducible refine Below.trans ?_ (Below.mono (by assumption) ?_)) | (with_reducible exact Nat.le_refl _) | omega | (simp only [World.size_alloc, World.size_setCell, World.size_drew]; omega) | (simp; omega) | (simp; done)))) hgrow (by first | omega | (simp only [World.size_alloc, World.size_setCell, World.size_drew]; omega)) (fun q hq => (hown.lt q hq).1)
      have HR3 : Hid (SymRow w3 gs l) := (HR2.out.alloc).grown (by simp; omega) hgrow HE.out
      have hz3 := hgrow.size
      simp only [World.size_alloc] at hz3
      have HE3 : Hid (v'.ownBlock ≠ Option.some gs) := (show v'.ownBlock ≠ Option.some gs from by
        rcases hat with e | e
        · rw [e]; exact HE.out
        · rw [e]; simp; omega)
      clear hgrow hvn hat HR2 HE HN
      go_wp2
      go_roundw
      case rel => exact ⟨k + 1, by omega, by go_num, by rw [HY.out]; simpa using hown', HV.out, HE3.out, HR3.out, by omega, hb3⟩
      case measure => simp [intOf]; omega
    · have hkl : k = l.length := by omega
      subst hkl
      rw [List.take_length] at hown
      obtain ⟨g, cap, rfl, HL⟩ := listed_of hown HN.out hbel (by omega)
      clear hown hS
      go_wp2_with fail
      refine (S.call HL).mono ?_
      rintro e w2 ⟨rfl, l', HL2, hs, hm⟩
      go_wp2_with fail
      refine (compact_m HL2 hs).mono ?_
      rintro e w3 ⟨m, rfl, HM⟩
      have HF : Hid (Once w w3 g cap m (imgs l p)) := ⟨HM.lo, HM.lt, HM.holds, HM.nodup, fun q => (HM.mem q).trans (hm q), by have := HM.len; have := HL2.len; have := HL.len; omega, HM.below⟩
      clear hs hm HM HL2 HL hbel
      go_wp2
      go_ret
      exact ⟨g, cap, m, rfl, HF.out⟩
end Go.Proofs.YtfdgijmmgllmgaaGreat
