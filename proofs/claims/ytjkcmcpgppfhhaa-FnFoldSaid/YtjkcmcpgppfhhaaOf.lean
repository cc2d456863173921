/-
  slices.Compact at this program's points.
-/
import Derived.Test.YtjkcmcpgppfhhaaOd
namespace Go.Proofs.Ytjkcmcpgppfhhaa
open Go.ChangeShapes Go.WideShapes Go.ChangeAt Go.RowKit Go.Joins
set_option linter.unusedSimpArgs false
set_option linter.unusedVariables false
set_option maxRecDepth 100000
attribute [local go_sem] store_f
open Ieee Go.Lib

theorem block_mapBlock (w : World) (b k : Nat) (f : Array Value → Array Value) (h : k ≠ b) : (Sort.mapBlock w b f).heap[k]? = w.heap[k]? := by
  unfold Sort.mapBlock
  simp only [Array.getElem?_modify]
  rw [if_neg (fun e => h e.symm)]
theorem below_put {B : Nat} (w : World) (b o q : Nat) (d : Array PtW) (h : B ≤ b) : Below B w (Sort.putRow encP (Sort.ahead w q) b o d) :=
  ⟨rfl, rfl, rfl, by unfold Sort.putRow Sort.mapBlock Sort.ahead; simp, fun k hk => block_mapBlock _ _ _ _ (by omega)⟩
theorem below_grow {B : Nat} {w w1 : World} (h : Below B w w1) (hB : B ≤ w1.heap.size) (os : Array Obj) : Below B w (Sort.grow w1 os) :=
  ⟨h.os, h.tape, h.output, by rw [Sort.size_grow]; have := h.size; omega, fun k hk => by rw [Sort.heap_grow_old _ _ (by omega)]; exact h.block k hk⟩
theorem holds_ahead {w : World} {b o : Nat} {d : Array PtW} (h : Sort.Holds encP w b o d) (q : Nat) : Sort.Holds encP (Sort.ahead w q) b o d := h
theorem size_put (w : World) (b o q : Nat) (d : Array PtW) : (Sort.putRow encP (Sort.ahead w q) b o d).heap.size = w.heap.size := by unfold Sort.putRow Sort.mapBlock Sort.ahead; simp

/-- What lies in block g behind slices.Compact: the elements of a sorted list, each once. -/
structure Once (w w1 : World) (g cap : Nat) (m l : List PtW) : Prop where
  lo : w.heap.size ≤ g
  lt : g < w1.heap.size
  holds : ∀ k, k < m.length → w1.cell? ⟨g, k, Option.none⟩ = some (encP (m.getD k default))
  nodup : m.Nodup
  mem : ∀ p, p ∈ m ↔ p ∈ l
  len : m.length ≤ l.length
  below : Below w.heap.size w w1

theorem compact_m {w w1 : World} {g cap n : Nat} {l : List PtW} (H : Listed w w1 g cap n l) (hs : Sort.SortedIn (ltOf cfP) 0 l.toArray.size l.toArray) :
    Calls Try.prog 32 #[.slice (some ⟨g, 0, Option.none⟩) n cap] w1 fun e w' =>
      ∃ m, e = .returned (.slice (some ⟨g, 0, Option.none⟩) m.length cap) ∧ Once w w' g cap m l := by
  have hn := H.len
  have hsz : l.toArray.size = n := by simpa using hn
  obtain ⟨c1, c2⟩ := compact_sorted hs
  have zr : PtW := default
  have v23 : ∀ w, (zeroValue 28).run Try.prog w = .ok (encP default) w := fun w => by kernel_rfl
  have hcon := AnyE.slices_Compact Try.compC encP oneP (eqlP _ _) (neqP _ _) (default : PtW) v23 g 0 cap l.toArray w1 H.holds (by rw [hsz]; have := H.small; omega) (by rw [hsz]; exact H.cap)
  change Calls Try.prog 32 _ _ _ at hcon
  have hle : (compactUpTo l.toArray l.toArray.size).length ≤ l.toArray.size := by
    unfold compactUpTo
    rw [List.length_map]
    have := List.length_filter_le (keeps l.toArray) (List.range l.toArray.size)
    simpa using this
  have hm : ∀ p, p ∈ compactUpTo l.toArray l.toArray.size ↔ p ∈ l := fun p => by
    rw [c2]
    constructor
    · rintro ⟨i, hi, rfl⟩
      rw [getElem!_pos l.toArray i hi]
      simp
    · intro hp
      obtain ⟨i, hi, e⟩ := List.getElem_of_mem hp
      refine ⟨i, by simpa using hi, ?_⟩
      rw [getElem!_pos l.toArray i (by simpa using hi)]
      simpa using e
  generalize compactUpTo l.toArray l.toArray.size = m at hcon c1 hle hm
  rw [hsz] at hcon hle
  refine hcon.mono ?_
  rintro e w' ⟨rfl, q, rfl⟩
  have hd : (m ++ List.replicate (n - m.length) default : List PtW).toArray.size = l.toArray.size := by simp; omega
  have hH := Sort.holds_putRow encP _ g 0 l.toArray _ (holds_ahead H.holds q) hd
  refine ⟨m, rfl, ⟨H.lo, by rw [size_put]; exact H.lt, fun k hk => ?_, c1, hm, by omega, H.below.trans (below_put w1 g 0 q _ H.lo)⟩⟩
  have h1 := (hH k (by simp; omega)).1
  rw [Nat.zero_add] at h1
  rw [h1, getElem!_pos _ k (by simp; omega)]
  simp [List.getElem_append, hk, List.getD]
end Go.Proofs.Ytjkcmcpgppfhhaa
