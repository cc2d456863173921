/-
  A sorted row of points without repetition: the plain mathematics.
-/
import Derived.Test.YtjkcmcpgppfhhaaOb
import Derived.Lib.SlicesCompact
namespace Go.Proofs.Ytjkcmcpgppfhhaa
open Go.ChangeShapes Go.WideShapes Go.ChangeAt Go.RowKit Go.Joins
set_option linter.unusedSimpArgs false
set_option linter.unusedVariables false
set_option maxRecDepth 100000
attribute [local go_sem] store_f
open Ieee Go.Lib

theorem nodup_len {α : Type} [DecidableEq α] : ∀ {l m : List α}, l.Nodup → m.Nodup → (∀ x, x ∈ l → x ∈ m) → l.length ≤ m.length
  | [], _, _, _, _ => Nat.zero_le _
  | x :: l, m, hl, hm, h => by
    rw [List.nodup_cons] at hl
    have hx := h x (by simp)
    have ih := nodup_len (l := l) (m := m.erase x) hl.2 (hm.erase x) (fun y hy => by
      have hne : y ≠ x := fun e => hl.1 (e ▸ hy)
      exact (List.mem_erase_of_ne hne).2 (h y (by simp [hy])))
    rw [List.length_erase_of_mem hx] at ih
    have := List.length_pos_of_mem hx
    simp only [List.length_cons]
    omega
theorem nodup_len_eq {α : Type} [DecidableEq α] {l m : List α} (hl : l.Nodup) (hm : m.Nodup) (h : ∀ x, x ∈ l ↔ x ∈ m) : l.length = m.length :=
  Nat.le_antisymm (nodup_len hl hm fun x => (h x).1) (nodup_len hm hl fun x => (h x).2)

theorem le_total (p q : PtW) : ltOf cfP p q = true ∨ p = q ∨ ltOf cfP q p = true := by
  rw [lt_iff, lt_iff]
  by_cases h : vX p = vX q
  · by_cases h2 : vY p = vY q
    · exact .inr (.inl (ptW_inj h h2))
    · omega
  · omega

/-- A sorted row: what is kept are its elements, each once. -/
theorem compact_sorted {d : Array PtW} (hs : Sort.SortedIn (ltOf cfP) 0 d.size d) :
    (compactUpTo d d.size).Nodup ∧ ∀ p, p ∈ compactUpTo d d.size ↔ ∃ i, i < d.size ∧ d[i]! = p := by
  have le : ∀ i j, i ≤ j → j < d.size → ltOf cfP d[j]! d[i]! = false := fun i j hij hj => by
    rcases Nat.lt_or_ge i j with h | h
    · exact hs i j (Nat.zero_le _) h hj
    · have : i = j := by omega
      subst this; exact swoP.irrefl _
  constructor
  · unfold compactUpTo List.Nodup
    rw [List.pairwise_map]
    refine List.Pairwise.imp_of_mem ?_ ((List.pairwise_lt_range (n := d.size)).filter _)
    intro i j hi hj hij he
    have hjm := List.mem_filter.1 hj
    have hjr : j < d.size := List.mem_range.1 hjm.1
    have hk : j = 0 ∨ d[j]! ≠ d[j - 1]! := of_decide_eq_true hjm.2
    rcases hk with h0 | hne
    · omega
    · have h1 := le i (j - 1) (by omega) (by omega)
      have h2 := le (j - 1) j (by omega) hjr
      rw [he] at h1
      rcases le_total d[j]! d[j - 1]! with h | h | h
      · rw [h] at h2; cases h2
      · exact hne h
      · rw [h] at h1; cases h1
  · intro p
    unfold compactUpTo
    constructor
    · intro h
      obtain ⟨i, hi, rfl⟩ := List.mem_map.1 h
      exact ⟨i, List.mem_range.1 (List.mem_filter.1 hi).1, rfl⟩
    · rintro ⟨i, hi, rfl⟩
      induction i with
      | zero => exact List.mem_map.2 ⟨0, List.mem_filter.2 ⟨List.mem_range.2 hi, by simp [keeps]⟩, rfl⟩
      | succ i ih =>
        by_cases he : d[i + 1]! = d[i]!
        · rw [he]; exact ih (by omega)
        · exact List.mem_map.2 ⟨i + 1, List.mem_filter.2 ⟨List.mem_range.2 hi, by simpa [keeps] using he⟩, rfl⟩

theorem perm_mem {d d' : Array PtW} (h : Sort.PermIn 0 d.size d d') (p : PtW) : (∃ i, i < d'.size ∧ d'[i]! = p) ↔ p ∈ d.toList := by
  obtain ⟨h1, _, h3⟩ := h
  have e1 : d.extract 0 d.size = d := by simp
  have e2 : d'.extract 0 d.size = d' := by rw [← h1]; simp
  rw [e1, e2] at h3
  rw [← h3.mem_iff]
  constructor
  · rintro ⟨i, hi, rfl⟩
    rw [getElem!_pos d' i hi]
    simp
  · intro hp
    obtain ⟨i, hi, e⟩ := List.getElem_of_mem hp
    refine ⟨i, by simpa using hi, ?_⟩
    rw [getElem!_pos d' i (by simpa using hi)]
    simpa using e
end Go.Proofs.Ytjkcmcpgppfhhaa
