/-
  All images of a point by the symmetries of mirrors of a kind: the list that the program builds before it sorts it.
-/
import Derived.Test.YtjkcmcpgppfhhaaOc
import Derived.Test.YtjkcmcpgppfhhaaSha
import Derived.Test.YtjkcmcpgppfhhaaGrow
import Derived.Test.YtjkcmcpgppfhhaaDone
import Derived.Maps.AppendAt
namespace Go.Proofs.Ytjkcmcpgppfhhaa
open Go.ChangeShapes Go.WideShapes Go.ChangeAt Go.RowKit Go.Joins
set_option linter.unusedSimpArgs false
set_option linter.unusedVariables false
set_option maxRecDepth 100000
attribute [local go_sem] store_f
open Ieee Go.Lib

/-- The image of a point. -/
def actP (s : Int × Bool) (p : PtW) : PtW := ⟨actV s.1.toNat s.2 p.1.1 (ngB p.1.1) p.1.2 (ngB p.1.2), act_pt _ _ p.2.1 p.2.2⟩
/-- The point that two drawn words stand for. -/
def ptOf {x y : Nat} (hx : okB x = true) (hy : okB y = true) : PtW := ⟨(cleanB x, cleanB y), pt_clean hx, pt_clean hy⟩
/-- The images by the symmetries of mirrors of a kind, in their order. -/
def imgs (l : List (Int × Bool)) (p : PtW) : List PtW := l.map fun s => actP s p

theorem actM_of {x y : Nat} (hx : okB x = true) (hy : okB y = true) {s : Int × Bool} (h : isSymB s.1 = true) : ActM s.1 s.2 x y (actP s (ptOf hx hy)).1.1 (actP s (ptOf hx hy)).1.2 := by
  obtain ⟨h1, h2⟩ := isSymB_iff.1 h
  have := act_of (t := s.1.toNat) s.2 (by omega) hx hy
  rwa [Int.toNat_of_nonneg h1] at this
theorem actM_pt (p : PtW) {s : Int × Bool} (h : isSymB s.1 = true) : ActM s.1 s.2 p.1.1 p.1.2 (actP s p).1.1 (actP s p).1.2 := by
  obtain ⟨h1, h2⟩ := isSymB_iff.1 h
  have := act_of_pt (t := s.1.toNat) s.2 (by omega) p.2.1 p.2.2
  rwa [Int.toNat_of_nonneg h1] at this

theorem infoC : (Try.prog.info? 28).map (fun i => (i.zero, i.size, i.bytes)) = some (some (.complex .f32 0 0), 1, 8) := by kernel_rfl

/-- What the images of a point are called as: a contract of ActSym at one word pair. -/
structure Acts (l : List (Int × Bool)) (x y : Nat) (p : PtW) : Prop where
  call : ∀ k, k < l.length → ActM (l.getD k (0, false)).1 (l.getD k (0, false)).2 x y (actP (l.getD k (0, false)) p).1.1 (actP (l.getD k (0, false)) p).1.2

theorem getD_memS {l : List (Int × Bool)} {k : Nat} (h : k < l.length) : l.getD k (0, false) ∈ l := by simp [List.getD, h]
theorem acts_of {l : List (Int × Bool)} (hl : ∀ s ∈ l, isSymB s.1 = true) {x y : Nat} (hx : okB x = true) (hy : okB y = true) : Acts l x y (ptOf hx hy) :=
  ⟨fun k hk => actM_of hx hy (hl _ (getD_memS hk))⟩
theorem acts_pt {l : List (Int × Bool)} (hl : ∀ s ∈ l, isSymB s.1 = true) (p : PtW) : Acts l p.1.1 p.1.2 p :=
  ⟨fun k hk => actM_pt p (hl _ (getD_memS hk))⟩

theorem imgs_snoc {l : List (Int × Bool)} (p : PtW) {k : Nat} (h : k < l.length) : (imgs (l.take (k + 1)) p).map encP = (imgs (l.take k) p).map encP ++ [encP (actP (l.getD k (0, false)) p)] := by
  unfold imgs
  rw [List.take_succ_eq_append_getElem h, List.map_append, List.map_append, show l.getD k (0, false) = l[k] by simp [List.getD, h]]
  rfl
theorem imgs_len (l : List (Int × Bool)) (p : PtW) : (imgs l p).length = l.length := by simp [imgs]

structure PtYes (x y : Nat) : Prop where
  call : ∀ w : World, Calls Try.prog 23 #[.complex .f32 x y] w fun e w' => e = .returned (.bool true) ∧ w' = w
structure SymsM (kind : Int) (l : List (Int × Bool)) : Prop where
  call : ∀ w : World, Calls Try.prog 15 #[.int .i64 kind] w fun e w' => ∃ g cap, e = .returned (.slice (some ⟨g, 0, Option.none⟩) l.length cap) ∧ w'.ownsRow w.heap.size 25 2 (.slice (some ⟨g, 0, Option.none⟩) l.length cap) l.length (symCells l) ∧ Below w.heap.size w w'

/-- The list before it is sorted lies in block g. -/
structure Listed (w : World) (w1 : World) (g cap n : Nat) (l : List PtW) : Prop where
  lo : w.heap.size ≤ g
  lt : g < w1.heap.size
  len : l.length = n
  cap : n ≤ cap
  small : n ≤ 1000
  holds : Sort.Holds encP w1 g 0 l.toArray
  below : Below w.heap.size w w1

theorem listed_of {w w1 : World} {v : Value} {n : Nat} {l : List PtW} (hown : w1.ownsRow w.heap.size 28 1 v n (l.map encP)) (hnn : v ≠ .slice Option.none 0 0) (hb : Below w.heap.size w w1) (hs : n ≤ 1000) :
    ∃ g cap, v = .slice (some ⟨g, 0, Option.none⟩) n cap ∧ Listed w w1 g cap n l := by
  obtain ⟨hl, ⟨hv, _⟩ | ⟨g, cap, cur, hv, hbg, hg, hn, hc, hsz, hx⟩⟩ := hown
  · exact absurd hv hnn
  · refine ⟨g, cap, hv, ⟨hbg, (Array.getElem?_eq_some_iff.1 hg).1, by simpa using hl, hn, hs, fun j hj => ?_, hb⟩⟩
    have hj' : j < l.length := by simpa using hj
    have hln : l.length = n := by simpa using hl
    constructor
    · rw [cell_of_block hg]
      have e1 : cur[0 + j]? = (l.map encP)[j]? := by
        rw [← hx, List.getElem?_take, if_pos (by omega)]
        simp
      rw [e1, List.getElem?_map, List.getElem?_eq_getElem hj', getElem!_pos l.toArray j (by simpa using hj')]
      simp
    · exact unfrozen_of_block hg _
end Go.Proofs.Ytjkcmcpgppfhhaa
