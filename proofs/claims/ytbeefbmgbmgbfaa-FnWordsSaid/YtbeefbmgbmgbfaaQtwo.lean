/-
  The queue of words, shorter ones first: the plain mathematics, and how it lies in memory.
-/
import Derived.Test.YtbeefbmgbmgbfaaQone
namespace Go.Proofs.Ytbeefbmgbmgbfaa
open Go.ChangeShapes Go.WideShapes Go.ChangeAt Go.RowKit Go.Joins 
set_option linter.unusedSimpArgs false
set_option linter.unusedVariables false
/-- The i-th word over m letters, shorter ones first (at most forty letters). -/
def wdF (m : Nat) : Nat → Nat → List Int
  | 0, _ => []
  | _ + 1, 0 => []
  | f + 1, i + 1 => wdF m f (i / m) ++ [((i % m : Nat) : Int)]
def wd (m i : Nat) : List Int := wdF m 40 i
/-- The queue when k words have been taken. -/
def bfs (m k : Nat) : List (List Int) := (List.range (1 + m * k)).map (wd m)
/-- A word with one letter more, for the first j letters. -/
def ext (z : List Int) (j : Nat) : List (List Int) := (List.range j).map fun x => z ++ [((x : Nat) : Int)]
theorem ext_succ (z : List Int) (j : Nat) : ext z (j + 1) = ext z j ++ [z ++ [((j : Nat) : Int)]] := by simp [ext, List.range_succ]
theorem bfs_len (m k : Nat) : (bfs m k).length = 1 + m * k := by simp [bfs]
theorem bfs_get (m k i : Nat) (h : i < 1 + m * k) : (bfs m k).getD i [] = wd m i := by simp [bfs, List.getD, h]
theorem wd_step : ∀ m, m ≤ 2 → ∀ k, k ≤ 30 → ∀ x, x < m → wd m (1 + m * k + x) = wd m k ++ [((x : Nat) : Int)] := by decide +kernel
theorem bfs_step (m k : Nat) (hm : m ≤ 2) (hk : k ≤ 30) : bfs m (k + 1) = bfs m k ++ ext (wd m k) m := by
  unfold bfs ext
  rw [show 1 + m * (k + 1) = 1 + m * k + m by rw [Nat.mul_succ]; omega, List.range_add, List.map_append, List.map_map]
  congr 1
  exact List.map_congr_left fun x hx => wd_step m hm k hk x (List.mem_range.1 hx)
theorem word_found (kind t : Int) (f : Bool) (h : ofB kind t f = true) : ∃ N, N ≤ 30 ∧ wordR kind (wd (mirL kind).length N) = ((t, f), true) ∧
    (∀ k, k < N → wordR kind (wd (mirL kind).length k) ≠ ((t, f), true)) ∧ (∀ k, k ≤ N → k < 1 + (mirL kind).length * k ∧ (wd (mirL kind).length k).length ≤ 5) := by
  have ht : 0 ≤ t ∧ t < 4 := by
    by_cases hs : isSymB t = true
    · exact isSymB_iff.1 hs
    · simp [ofB, hs] at h
  have hk : kind = 0 ∨ kind = 1 ∨ kind = 2 ∨ kind = 3 := by
    simp only [ofB, Bool.and_eq_true] at h
    have h2 := h.2
    by_cases k0 : kind = 0
    · exact .inl k0
    · by_cases k1 : kind = 1
      · exact .inr (.inl k1)
      · by_cases k2 : kind = 2
        · exact .inr (.inr (.inl k2))
        · simp [k0, k1, k2] at h2
          exact .inr (.inr (.inr h2))
  rcases hk with rfl | rfl | rfl | rfl <;> rcases (by omega : t = 0 ∨ t = 1 ∨ t = 2 ∨ t = 3) with rfl | rfl | rfl | rfl <;> cases f <;> first
    | (exact absurd h (by decide))
    | (exact ⟨0, by decide +kernel⟩) | (exact ⟨1, by decide +kernel⟩) | (exact ⟨2, by decide +kernel⟩) | (exact ⟨3, by decide +kernel⟩) | (exact ⟨4, by decide +kernel⟩) | (exact ⟨5, by decide +kernel⟩) | (exact ⟨6, by decide +kernel⟩)
    | (exact ⟨8, by decide +kernel⟩) | (exact ⟨9, by decide +kernel⟩) | (exact ⟨7, by decide +kernel⟩) | (exact ⟨10, by decide +kernel⟩) | (exact ⟨11, by decide +kernel⟩) | (exact ⟨12, by decide +kernel⟩) | (exact ⟨13, by decide +kernel⟩) | (exact ⟨14, by decide +kernel⟩)
    | (exact ⟨15, by decide +kernel⟩) | (exact ⟨16, by decide +kernel⟩) | (exact ⟨17, by decide +kernel⟩) | (exact ⟨18, by decide +kernel⟩) | (exact ⟨19, by decide +kernel⟩) | (exact ⟨20, by decide +kernel⟩) | (exact ⟨21, by decide +kernel⟩) | (exact ⟨22, by decide +kernel⟩)

/-- A queue of words in memory of the call's own. -/
def Queue (W : World) (B : Nat) (s : Value) (ws : List (List Int)) : Prop :=
  ∃ hs : List Value, W.ownsRow B 34 1 s ws.length hs ∧ s ≠ .slice Option.none 0 0 ∧
    ∀ i, i < ws.length → ∃ g c, hs[i]? = some (.slice (some ⟨g, 0, Option.none⟩) (ws.getD i []).length c) ∧ IntBlk W g (ws.getD i []) ∧ s.ownBlock ≠ some g ∧ g < W.heap.size ∧ B ≤ g
theorem Queue.below {W w1 : World} {B : Nat} {s : Value} {ws : List (List Int)} (h : Queue W B s ws) (hb : Below W.heap.size W w1) : Queue w1 B s ws := by
  obtain ⟨hs, h1, h2, h3⟩ := h
  exact ⟨hs, ownsBelow hb h1, h2, fun i hi => by
    obtain ⟨g, c, a, b, d, e, f⟩ := h3 i hi
    exact ⟨g, c, a, b.below hb, d, Nat.lt_of_lt_of_le e hb.size, f⟩⟩
theorem Queue.push {W w1 : World} {B gz c : Nat} {s s' : Value} {ws : List (List Int)} {hs : List Value} {z : List Int}
    (h3 : ∀ i, i < ws.length → ∃ g c, hs[i]? = some (.slice (some ⟨g, 0, Option.none⟩) (ws.getD i []).length c) ∧ IntBlk W g (ws.getD i []) ∧ s.ownBlock ≠ some g ∧ g < W.heap.size ∧ B ≤ g)
    (hl : hs.length = ws.length) (hz : IntBlk W gz z) (hzs : s.ownBlock ≠ some gz) (hzl : gz < W.heap.size) (hzB : B ≤ gz)
    (ho : w1.ownsRow B 34 1 s' (ws.length + 1) (hs ++ [.slice (some ⟨gz, 0, Option.none⟩) z.length c])) (hg : W.grownBy w1 s.ownBlock) (hn : s' ≠ .slice Option.none 0 0)
    (hat : s'.ownBlock = s.ownBlock ∨ s'.ownBlock = some W.heap.size) : Queue w1 B s' (ws ++ [z]) := by
  have apart : ∀ g, s.ownBlock ≠ some g → g < W.heap.size → s'.ownBlock ≠ some g := by
    intro g h1 h2
    rcases hat with e | e
    · rw [e]; exact h1
    · rw [e]; intro e2; have := Option.some.inj e2; omega
  refine ⟨_, by simpa using ho, hn, fun i hi => ?_⟩
  by_cases hlt : i < ws.length
  · obtain ⟨g, c2, a, b, d, e, f⟩ := h3 i hlt
    have e1 : (ws ++ [z]).getD i [] = ws.getD i [] := by simp [List.getD, List.getElem?_append_left hlt]
    rw [e1]
    exact ⟨g, c2, by rw [List.getElem?_append_left (by omega)]; exact a, b.other hg d, apart g d e, Nat.lt_of_lt_of_le e hg.size, f⟩
  · have hil : i = ws.length := by simp at hi; omega
    subst hil
    have e1 : (ws ++ [z]).getD ws.length [] = z := by simp [List.getD]
    rw [e1]
    exact ⟨gz, c, by rw [List.getElem?_append_right (by omega), hl]; simp, hz.other hg hzs, apart gz hzs hzl, Nat.lt_of_lt_of_le hzl hg.size, hzB⟩
theorem infoInts : (Try.prog.info? 34).map (fun i => (i.zero, i.size, i.bytes)) = some (some (.slice Option.none 0 0), 1, 24) := by kernel_rfl
end Go.Proofs.Ytbeefbmgbmgbfaa
