/-
  Texts Oe, joined.
-/
import Derived.Test.YtfdgijmmgllmgaaGreatR44
import Derived.Shelf.SlSortCmp.Whole1
namespace Go.Proofs.YtfdgijmmgllmgaaGreat
open Go.ChangeShapes Go.WideShapes Go.ChangeAt Go.RowKit Go.Joins
set_option linter.unusedSimpArgs false
set_option linter.unusedVariables false
set_option maxRecDepth 100000
attribute [local go_sem] store_f
open Ieee Go.Lib
theorem sort_m {w w1 : World} {g cap n : Nat} {l : List PtW} (H : Listed w w1 g cap n l) :
    Calls Tryz.prog 54 #[.slice (some ⟨g, 0, Option.none⟩) n cap, .func (.func 55) #[] #[]] w1 fun e w' =>
      e = .returned (.tuple #[]) ∧ ∃ l', Listed w w' g cap n l' ∧ Sort.SortedIn (ltOf cfP) 0 l'.toArray.size l'.toArray ∧ ∀ p, p ∈ l' ↔ p ∈ l := by
  have eg : ∀ args w, (callFunc 55 args).run Tryz.prog w = .ok (.enter 55 args) w := enters_of Tryz.func55 (by kernel_rfl) rfl
  have hn := H.len
  have hsz : l.toArray.size = n := by simpa using hn
  have hn64 : n < 4611686018427387904 := by have := H.small; omega
  have hcon := Any.slices_SortFunc Tryz.sortC encP oneP cfP swoP 55 #[] g 0 cap l.toArray w1 eg (cmpLaysP g 0 _ w1) H.holds H.lt (by rw [hsz]; exact hn64)
  change Calls Tryz.prog 54 _ _ _ at hcon
  rw [hsz] at hcon
  refine hcon.mono ?_
  rintro e w' ⟨rfl, d', m, os, hp, hs, rfl⟩
  have hd : d'.size = n := by rw [hp.1, hsz]
  have hH : Sort.Holds encP (Proofs.sortWorld encP w1 g 0 m d' os) g 0 d' :=
    Sort.holds_grow encP _ os g 0 d' (by rw [size_put]; exact H.lt) (Sort.holds_putRow encP _ g 0 l.toArray d' (holds_ahead H.holds m) (by rw [hd, hsz]))
  have hB : Below w.heap.size w (Proofs.sortWorld encP w1 g 0 m d' os) := by
    have h1 := H.below.size
    exact H.below.trans (below_grow (below_put w1 g 0 m d' H.lo) (by rw [size_put]; exact h1) os)
  refine ⟨rfl, d'.toList, ⟨H.lo, ?_, by simpa using hd, H.cap, H.small, by simpa using hH, hB⟩, by simpa [hd] using hs, fun p => ?_⟩
  · show g < (Sort.grow (Sort.putRow encP (Sort.ahead w1 m) g 0 d') os).heap.size
    rw [Sort.size_grow, size_put]; have := H.lt; omega
  · rw [← hsz] at hp
    have := perm_mem hp p
    rw [← show p ∈ l.toArray.toList ↔ p ∈ l by simp, ← this]
    rw [List.mem_iff_getElem]
    constructor
    · rintro ⟨i, hi, rfl⟩
      exact ⟨i, by simpa using hi, by rw [getElem!_pos d' i (by simpa using hi)]; simp⟩
    · rintro ⟨i, hi, rfl⟩
      exact ⟨i, by simpa using hi, by rw [getElem!_pos d' i hi]; simp⟩
end Go.Proofs.YtfdgijmmgllmgaaGreat
