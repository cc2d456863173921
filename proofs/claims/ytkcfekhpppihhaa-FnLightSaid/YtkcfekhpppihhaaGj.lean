/-
  Are they shards? In which shards a point lies.
-/
import Derived.Test.YtkcfekhpppihhaaGe
namespace Go.Proofs.Ytkcfekhpppihhaa
open Go.ChangeShapes Go.WideShapes Go.ChangeAt Go.RowKit Go.Joins
set_option linter.unusedSimpArgs false
set_option linter.unusedVariables false
set_option maxRecDepth 100000
attribute [local go_sem] store_f
open Ieee
attribute [local go_sem] store_c

structure AreIs (a : Option Addr) (n cap : Nat) (l : List Shd) : Prop where
  call : ∀ w : World, RowAt w a l → Calls Try.prog 46 #[.slice a n cap] w fun e w' => e = .returned (.bool true) ∧ Below w.heap.size w w'

set_option maxHeartbeats 4000000 in
theorem areIs {a : Option Addr} {cap : Nat} {l : List Shd} (hlen : l.length ≤ 12) (hok : ∀ s ∈ l, s.Ok) : AreIs a l.length cap l := ⟨fun w hrow => by
  have HK : Hid (∀ j, j < l.length → ShdIs (l.getD j default) true) := fun j hj => by
    have h := shdIs (l.getD j default)
    rwa [(hok _ (by simp [List.getD, hj])).yes] at h
  have HR : Hid (RowAt w a l) := hrow
  clear hrow hok
  go_enter Try.func46, Try.ntmps46
  go_wp2_with fail
  go_loopw [10] (fun i wr => ∃ j : Nat, j ≤ l.length ∧ i = .int .i64 j ∧ Below w.heap.size w wr) (fun i _ => l.length - (intOf i).toNat)
  case atStart => exact ⟨0, by omega, rfl, Below.refl _ _⟩
  case round =>
    obtain ⟨j, hj, rfl, hbel⟩ := hrel
    have HB : Hid (Below w.heap.size w wr) := hbel
    have hbs := hbel.size
    by_cases hlt : j < l.length
    · have K := HK.out j hlt
      rcases HR.out with hnil | ⟨b, off, rfl, hR⟩
      · exfalso; rw [hnil] at hlt; simp at hlt
      have hrow := (ShRow.below hR hbel) j hlt
      generalize l.getD j default = s at hrow K
      obtain ⟨d0, d1, d2, d3, d4, d5, d6⟩ := hrow
      clear hbel hR
      go_wp2_with fail
      refine (K.call _).mono ?_
      rintro e w2 ⟨rfl, hb⟩
      have HB2 : Hid (Below w.heap.size w w2) := (HB.out.alloc (by omega) _).trans (hb.mono (by simp; omega))
      clear hb d0 d1 d2 d3 d4 d5 d6
      go_wp2
      go_roundw
      case rel => exact ⟨j + 1, by omega, by go_num, HB2.out⟩
      case measure => simp [intOf]; omega
    · have hjm : j = l.length := by omega
      subst hjm
      clear hbel
      go_wp2
      go_ret
      exact ⟨rfl, HB.out⟩⟩

/-- The places of the shards among the first j in which a point lies. -/
def laysTo (l : List Shd) (x y j : Nat) : List Nat := (List.range j).filter fun i => inSh (l.getD i default) x y
theorem lays_yes {l : List Shd} {x y j : Nat} (h : inSh (l.getD j default) x y = true) : laysTo l x y (j + 1) = laysTo l x y j ++ [j] := by
  unfold laysTo
  rw [List.range_succ, List.filter_append]
  simp only [List.filter_cons, h, if_true, List.filter_nil]
theorem lays_no {l : List Shd} {x y j : Nat} (h : inSh (l.getD j default) x y = false) : laysTo l x y (j + 1) = laysTo l x y j := by
  unfold laysTo
  rw [List.range_succ, List.filter_append]
  simp only [List.filter_cons, h, Bool.false_eq_true, if_false, List.filter_nil, List.append_nil]
theorem lays_le (l : List Shd) (x y j : Nat) : (laysTo l x y j).length ≤ j := by
  have := List.length_filter_le (fun i => inSh (l.getD i default) x y) (List.range j)
  simpa [laysTo] using this
def intCells (l : List Nat) : List Value := l.map fun (n : Nat) => Value.int .i64 n
theorem intCells_snoc (l : List Nat) (n : Nat) : intCells (l ++ [n]) = intCells l ++ [.int .i64 n] := by simp [intCells]
theorem infoI : (Try.prog.info? 3).map (fun i => (i.zero, i.size, i.bytes)) = some (some (.int .i64 0), 1, 8) := by kernel_rfl

/-- What LayersAt gives. -/
structure Layers (w : World) (e : Ending) (w' : World) (m : List Nat) : Prop where
  ret : ∃ g cap, e = .returned (.slice (some ⟨g, 0, Option.none⟩) m.length cap) ∧ g < w'.heap.size ∧ ∀ k, k < m.length → w'.cell? ⟨g, k, Option.none⟩ = some (.int .i64 (m.getD k 0 : Nat))
  below : Below w.heap.size w w'

set_option maxHeartbeats 8000000 in
theorem layersAt_i {a : Option Addr} {cap x y : Nat} {l : List Shd} (hlen : l.length ≤ 12) (hok : ∀ s ∈ l, s.Ok) (hx : inB x = true) (hy : inB y = true) (w : World) (hrow : RowAt w a l) :
    Calls Try.prog 19 #[.slice a l.length cap, .complex .f32 x y] w fun e w' => Layers w e w' (laysTo l x y l.length) := by
  obtain ⟨i0, hi, hz0, hz1, hz2⟩ := info_parts infoI
  have A := areIs (a := a) (cap := cap) hlen hok
  have HK : Hid (∀ j, j < l.length → InIs (l.getD j default) x y (inSh (l.getD j default) x y)) := fun j hj => inIs (hok _ (by simp [List.getD, hj])).yes hx hy
  have HR : Hid (RowAt w a l) := hrow
  have HL : Hid (l.length ≤ 12) := hlen
  clear hrow hok hx hy
  go_enter Try.func19, Try.ntmps19
  go_wp2_with fail
  have HR0 : Hid (RowAt (w.alloc (.cells #[] 3)) a l) := HR.out.below ((Below.refl _ _).alloc (Nat.le_refl _) _)
  have O0 : Hid ((w.alloc (.cells #[] 3)).ownsRow w.heap.size 3 1 (.slice (some ⟨w.heap.size, 0, Option.none⟩) 0 0) 0 []) := World.ownsRow_lit _ #[] 0 (by simp) (by unfold maxLen; omega) rfl
  refine (A.call _ HR0.out).mono ?_
  rintro e w1 ⟨rfl, hb⟩
  have HR1 : Hid (RowAt w1 a l) := HR0.out.below hb
  have O1 : Hid (w1.ownsRow w.heap.size 3 1 (.slice (some ⟨w.heap.size, 0, Option.none⟩) 0 0) 0 []) := ownsBelow hb O0.out
  have hB1 : Below w.heap.size w w1 := by (repeat' (first | (with_reducible exact Below.refl _ _) | (with_reducible assumption) | (with_reducible refine Below.alloc ?_ ?_ _) | (with_reducible refine Below.drew ?_) | (with_reducible refine Below.setCell ?_ ?_ _) | (with_reducible refine Below.trans ?_ (Below.mono (by assumption) ?_)) | (with_reducible exact Nat.le_refl _) | omega | (simp only [World.size_alloc, World.size_setCell, World.size_drew]; omega) | (simp; omega) | (simp; done)))
  have HB1 : Hid (Below w.heap.size w w1) := hB1
  have s1 := hB1.size
  clear hb hB1 HR0 O0 A HR1
  go_wp2_with fail
  go_loopw [5, 15] (fun v i wr => ∃ j : Nat, j ≤ l.length ∧ i = .int .i64 j ∧ wr.ownsRow w.heap.size 3 1 v (laysTo l x y j).length (intCells (laysTo l x y j)) ∧ v ≠ .slice Option.none 0 0 ∧ Below w.heap.size w wr)
    (fun _ i _ => l.length - (intOf i).toNat)
  case atStart => exact ⟨0, by omega, rfl, O1.out, by simp, HB1.out⟩
  case round =>
    obtain ⟨j, hj, rfl, hown, hnn, hbel⟩ := hrel
    have HN : Hid (u5 ≠ .slice Option.none 0 0) := hnn
    have HB : Hid (Below w.heap.size w wr) := hbel
    have HO : Hid (wr.ownsRow w.heap.size 3 1 u5 (laysTo l x y j).length (intCells (laysTo l x y j))) := hown
    have hbs := hbel.size
    clear hnn hown
    by_cases hlt : j < l.length
    · have K := HK.out j hlt
      have hle := lays_le l x y j
      have hl12 := HL.out
      rcases HR.out with hnil | ⟨b, off, rfl, hRR⟩
      · exfalso; rw [hnil] at hlt; simp at hlt
      have hrow := (ShRow.below hRR hbel) j hlt
      have HY : Hid (inSh (l.getD j default) x y = true → laysTo l x y (j + 1) = laysTo l x y j ++ [j]) := fun h => lays_yes h
      have HZ : Hid (inSh (l.getD j default) x y = false → laysTo l x y (j + 1) = laysTo l x y j) := fun h => lays_no h
      generalize inSh (l.getD j default) x y = t at K HY HZ
      generalize l.getD j default = s at hrow K
      obtain ⟨d0, d1, d2, d3, d4, d5, d6⟩ := hrow
      clear hbel hRR
      go_wp2_with fail
      refine (K.call _).mono ?_
      rintro e w2 ⟨rfl, hb⟩
      have HB2 : Hid (Below w.heap.size w w2) := (HB.out.alloc (by omega) _).trans (hb.mono (by simp; omega))
      have HO2 : Hid (w2.ownsRow w.heap.size 3 1 u5 (laysTo l x y j).length (intCells (laysTo l x y j))) := ownsBelow hb (World.ownsRow.alloc HO.out _)
      have sz2 := HB2.out.size
      clear hb d0 d1 d2 d3 d4 d5 d6 HB HO
      cases t
      · go_wp2_with fail
        go_roundw
        case rel => exact ⟨j + 1, by omega, by go_num, by rw [HZ.out (by simp)]; exact HO2.out, HN.out, HB2.out⟩
        case measure => simp [intOf]; omega
      · have hown := HO2.out
        have hb2 := HB2.out
        go_wp2_with (at_builtin; go_loud (refine wpList_append_own _ rfl _ _ 47 rfl w.heap.size 3 i0 (.int .i64 0) 1 8 Try.underlying47 hi hz0 hz1 hz2 rfl (by decide) _ (laysTo l x y j).length (intCells (laysTo l x y j)) rfl ?hown ⟨w2.heap.size, 0, Option.none⟩ 1 1 [.int .i64 j] rfl rfl ?c1 ?c2 ?c3 ?c4 ?c5 ?_))
        case hown => (change World.ownsRow _ _ _ _ u5 _ _; (repeat (first | (with_reducible assumption) | (with_reducible refine World.ownsRow.alloc ?_ _) | (with_reducible refine World.ownsRow.drew ?_) | (with_reducible refine ownsBelow (by assumption) ?_))))
        case c1 =>
          intro j' u hj
          rcases j' with _ | j' <;> simp at hj
          subst hj
          simp [Addr.add]
        case c2 =>
          intro u hu
          simp at hu
          subst hu
          rfl
        case c3 => (unfold maxLen; omega)
        case c4 => omega
        case c5 => first | omega | (simp only [World.size_alloc, World.size_setCell, World.size_drew]; omega)
        intro v' w3 hown' hgrow hvn
        have HV : Hid (v' ≠ .slice Option.none 0 0) := hvn
        have hb3 : Below w.heap.size w w3 := Below.grown (by (repeat' (first | (with_reducible exact Below.refl _ _) | (with_reducible assumption) | (with_reducible refine Below.alloc ?_ ?_ _) | (with_reducible refine Below.drew ?_) | (with_reducible refine Below.setCell ?_ ?_ _) | (with_reducible refine Below.trans ?_ (Below.mono (by assumption) ?_)) | (with_reducible exact Nat.le_refl _) | omega | (simp only [World.size_alloc, World.size_setCell, World.size_drew]; omega) | (simp; omega) | (simp; done)))) hgrow (by first | omega | (simp only [World.size_alloc, World.size_setCell, World.size_drew]; omega)) (fun q hq => (hown.lt q hq).1)
        clear hgrow hvn
        go_wp2
        go_roundw
        case rel => exact ⟨j + 1, by omega, by go_num, by rw [HY.out (by simp), intCells_snoc]; simpa using hown', HV.out, hb3⟩
        case measure => simp [intOf]; omega
    · have hjm : j = l.length := by omega
      subst hjm
      rcases ownsRow_forms HO.out with ⟨e, _⟩ | ⟨g, cap', rfl⟩
      · exact absurd e HN.out
      have hlt' := HO.out.lt _ rfl
      have HC : Hid (∀ k, k < (laysTo l x y l.length).length → wr.cell? ⟨g, k, Option.none⟩ = some (.int .i64 ((laysTo l x y l.length).getD k 0 : Nat))) := fun k hk => by
        rw [HO.out.cellAt k (by omega)]
        simp [intCells, List.getD, hk]
      clear hbel HO
      go_wp2
      go_ret
      exact ⟨⟨g, cap', rfl, hlt'.2, HC.out⟩, HB.out⟩
end Go.Proofs.Ytkcfekhpppihhaa
