/-
  Texts of this proof, joined: Ob, Oc, Od, Of, Og, Oh, Oi.
-/
import Derived.Test.YtlnikapkheldeaaK34
import Derived.Test.YtlnikapkheldeaaK35
import Derived.Shelf.SlSortCmp.Kit1
import Derived.Lib.SlicesCompact
import Derived.Test.YtlnikapkheldeaaK23
import Derived.Test.YtlnikapkheldeaaK02
import Derived.Maps.AppendAt
/-
  Points in reach as the library's sort and its Compact take them.
-/
namespace Go.Proofs.Ytlnikapkheldeaa
open Go.ChangeShapes Go.WideShapes Go.ChangeAt Go.RowKit Go.Joins
set_option linter.unusedSimpArgs false
set_option linter.unusedVariables false
set_option maxRecDepth 100000
attribute [local go_sem] store_f
open Ieee

/-- How two points compare. -/
def cfV (X Y U V : Int) : Int := if cmpV X U = 0 then cmpV Y V else cmpV X U

set_option maxHeartbeats 1000000 in
theorem comparePoints_of {x y u v : Nat} {n m : Int} (C1 : CmpM x u n) (C2 : CmpM y v m) (w : World) :
    Calls Try.prog 106 #[.complex .f32 x y, .complex .f32 u v] w fun e w' => e = .returned (.int .i64 (if n = 0 then m else n)) ∧ ∃ o, w' = w.alloc o := by
  have O := fun g w => or_i g n m w
  have HO : Hid (∀ (g : Nat) (w : World), w.cell? ⟨g, 0, Option.none⟩ = some (.int .i64 n) → w.cell? ⟨g, 1, Option.none⟩ = some (.int .i64 m) → Calls Try.prog 149 #[.slice (some ⟨g, 0, Option.none⟩) 2 2] w fun e w' => e = .returned (.int .i64 (if n = 0 then m else n)) ∧ w = w') := O
  clear O
  generalize (if n = 0 then m else n) = r at HO ⊢
  go_enter Try.func106, Try.ntmps106
  go_wp2_with fail
  refine (C1.call _).mono ?_
  rintro e w1 ⟨rfl, rfl⟩
  go_wp2_with fail
  refine (C2.call _).mono ?_
  rintro e w2 ⟨rfl, rfl⟩
  go_wp2_with fail
  refine (HO.out _ _ (by ((repeat (first | (with_reducible assumption) | (with_reducible exact cNewAt (by first | rfl | (simp only [World.size_alloc, World.size_setCell, World.size_drew]; done) | omega) rfl) | (with_reducible exact sNewAt (by first | rfl | (simp only [World.size_alloc, World.size_setCell, World.size_drew]; done) | omega) rfl) | (simp; done) | (with_reducible apply cAlloc) | (with_reducible apply cDrew) | (with_reducible refine cSet (by dsimp only; omega) ?_) | (with_reducible refine cSetOff (by dsimp only; omega) ?_) | (with_reducible apply cSame) | (with_reducible refine cBelow (by assumption) ?_) | (with_reducible apply sAlloc) | (with_reducible apply sDrew) | (with_reducible refine sBelow (by assumption) ?_) | (with_reducible refine sSet (by dsimp only; omega) ?_))); first | done | (simp [*]; done))) (by ((repeat (first | (with_reducible assumption) | (with_reducible exact cNewAt (by first | rfl | (simp only [World.size_alloc, World.size_setCell, World.size_drew]; done) | omega) rfl) | (with_reducible exact sNewAt (by first | rfl | (simp only [World.size_alloc, World.size_setCell, World.size_drew]; done) | omega) rfl) | (simp; done) | (with_reducible apply cAlloc) | (with_reducible apply cDrew) | (with_reducible refine cSet (by dsimp only; omega) ?_) | (with_reducible refine cSetOff (by dsimp only; omega) ?_) | (with_reducible apply cSame) | (with_reducible refine cBelow (by assumption) ?_) | (with_reducible apply sAlloc) | (with_reducible apply sDrew) | (with_reducible refine sBelow (by assumption) ?_) | (with_reducible refine sSet (by dsimp only; omega) ?_))); first | done | (simp [*]; done)))).mono ?_
  rintro e w3 ⟨rfl, rfl⟩
  go_wp2
  go_ret
  exact ⟨rfl, _, rfl⟩

/-- A point whose parts are finite words of 32 bits in reach, 0 being +0. -/
abbrev PtW := { p : Nat × Nat // Pt p.1 ∧ Pt p.2 }
instance : Inhabited PtW := ⟨⟨(0, 0), ⟨⟨cl_zero, ok_zero⟩, ⟨cl_zero, ok_zero⟩⟩⟩⟩
/-- The point as the value that it is in memory. -/
def encP (p : PtW) : Value := .complex .f32 p.1.1 p.1.2
/-- The values of the parts. -/
def vX (p : PtW) : Int := valOf F32 p.1.1
def vY (p : PtW) : Int := valOf F32 p.1.2
def cfP (p q : PtW) : Int := cfV (vX p) (vY p) (vX q) (vY q)

theorem cl_inj {x y : Nat} (hx : Cl x) (hy : Cl y) (h : valOf F32 x = valOf F32 y) : x = y := by
  by_cases h0 : rungOf F32 x = 0
  · have h1 := val_eq_zero.2 h0
    rw [h1] at h
    rw [hx.zero h0, hy.zero (val_eq_zero.1 h.symm)]
  · have e1 : magOf F32 (rungOf F32 x) = magOf F32 (rungOf F32 y) := by
      unfold valOf at h
      split at h <;> split at h <;> omega
    have e2 : rungOf F32 x = rungOf F32 y := magOf_inj F32 e1
    have hp : 0 < magOf F32 (rungOf F32 x) := magOf_pos (by omega)
    have e3 : negOf F32 x = negOf F32 y := by
      unfold valOf at h
      cases hnx : negOf F32 x <;> cases hny : negOf F32 y <;> simp [hnx, hny] at h ⊢ <;> omega
    rw [← word_of F32 (w := x) (by rw [F32_w]; exact hx.lt), ← word_of F32 (w := y) (by rw [F32_w]; exact hy.lt), e2, e3]
theorem ptW_inj {p q : PtW} (h1 : vX p = vX q) (h2 : vY p = vY q) : p = q := by
  apply Subtype.ext
  apply Prod.ext
  · exact cl_inj p.2.1.cl q.2.1.cl h1
  · exact cl_inj p.2.2.cl q.2.2.cl h2

theorem oneP : OneCell encP := fun _ => rfl
theorem lt_iff (p q : PtW) : ltOf cfP p q = true ↔ (vX p < vX q ∨ (vX p = vX q ∧ vY p < vY q)) := by
  unfold ltOf cfP cfV cmpV
  rw [decide_eq_true_iff]
  generalize vX p = X
  generalize vX q = U
  generalize vY p = Y
  generalize vY q = V
  by_cases h1 : X < U
  · simp [h1]
  · by_cases h2 : U < X
    · have h3 : ¬ X = U := by omega
      simp [h1, h2, h3]
    · have h3 : X = U := by omega
      by_cases h4 : Y < V
      · simp [h3, h4]
      · by_cases h5 : V < Y
        · simp [h3, h4, h5]
        · simp [h3, h4, h5]
theorem lt_no (p q : PtW) : ltOf cfP p q = false ↔ ¬ (vX p < vX q ∨ (vX p = vX q ∧ vY p < vY q)) := by
  rw [← lt_iff]; simp
theorem swoP : Sort.SWO (ltOf cfP) := by
  refine ⟨fun x => ?_, fun x y z h1 h2 => ?_, fun x y z h1 h2 => ?_⟩
  · rw [lt_no]; omega
  · rw [lt_iff] at *; omega
  · rw [lt_no] at *; omega

theorem cmpLaysP (blk off size : Nat) (w : World) : CmpLays1 Try.prog 106 #[] encP cfP blk off size w := fun m os dk hs p q => by
  refine (comparePoints_of (x := p.1.1) (y := p.1.2) (u := q.1.1) (v := q.1.2) ⟨fun w => compare_v p.2.1.cl.fin q.2.1.cl.fin w⟩ ⟨fun w => compare_v p.2.2.cl.fin q.2.2.cl.fin w⟩ _).mono ?_
  rintro e w' ⟨rfl, o, rfl⟩
  exact ⟨rfl, 0, #[o], by rw [Sort.alloc_eq_grow]; rfl⟩

theorem eq_words {x y : Nat} (hx : Cl x) (hy : Cl y) : (FloatKind.f32.format.order x y == some .eq) = decide (x = y) := by
  show (F32.order x y == some .eq) = _
  rw [order_fin F32 hx.fin hy.fin, cmp_eq]
  by_cases h : x = y
  · subst h; simp
  · have : ¬ valOf F32 x = valOf F32 y := fun e => h (cl_inj hx hy e)
    simp [h, this]
theorem eq_points (p q : PtW) : ((FloatKind.f32.format.order p.1.1 q.1.1 == some .eq) && (FloatKind.f32.format.order p.1.2 q.1.2 == some .eq)) = decide (p = q) := by
  rw [eq_words p.2.1.cl q.2.1.cl, eq_words p.2.2.cl q.2.2.cl]
  by_cases h : p = q
  · subst h; simp
  · have : ¬ (p.1.1 = q.1.1 ∧ p.1.2 = q.1.2) := fun e => h (Subtype.ext (Prod.ext e.1 e.2))
    simp only [h, decide_false]
    simp only [Bool.and_eq_false_iff, decide_eq_false_iff_not]
    omega
theorem guardP (P : Program) (T : TypeId) : GuardAt P T encP := fun op a b x y w => by
  unfold encP
  rw [eqGuard_at_complex]; rfl
theorem eqlP (P : Program) (T : TypeId) : EqlAt P T encP (fun x y => decide (x = y)) := ⟨fun x y w => by unfold encP; rw [run_eql_complex, eq_points], guardP P T⟩
theorem neqP (P : Program) (T : TypeId) : NeqAt P T encP (fun x y => decide (x = y)) := ⟨fun x y w => by unfold encP; rw [run_neq_complex, eq_points], guardP P T⟩
end Go.Proofs.Ytlnikapkheldeaa

/-
  A sorted row of points without repetition: the plain mathematics.
-/
namespace Go.Proofs.Ytlnikapkheldeaa
open Go.ChangeShapes Go.WideShapes Go.ChangeAt Go.RowKit Go.Joins
set_option linter.unusedSimpArgs false
set_option linter.unusedVariables false
set_option maxRecDepth 100000
attribute [local go_sem] store_f
open Ieee Go.Lib

theorem nodup_len {α : Type} [DecidableEq α] : ∀ {l m : List α}, l.Nodup → m.Nodup → (∀ x, x ∈ l → x ∈ m) → l.length ≤ m.length
  | [], _, _, _, _ => Nat.zero_le _
  | x :: l, m, hl, hm, h => by
    rw [List.nodup_cons] at hl
    have hx := h x (by simp)
    have ih := nodup_len (l := l) (m := m.erase x) hl.2 (hm.erase x) (fun y hy => by
      have hne : y ≠ x := fun e => hl.1 (e ▸ hy)
      exact (List.mem_erase_of_ne hne).2 (h y (by simp [hy])))
    rw [List.length_erase_of_mem hx] at ih
    have := List.length_pos_of_mem hx
    simp only [List.length_cons]
    omega
theorem nodup_len_eq {α : Type} [DecidableEq α] {l m : List α} (hl : l.Nodup) (hm : m.Nodup) (h : ∀ x, x ∈ l ↔ x ∈ m) : l.length = m.length :=
  Nat.le_antisymm (nodup_len hl hm fun x => (h x).1) (nodup_len hm hl fun x => (h x).2)

theorem le_total (p q : PtW) : ltOf cfP p q = true ∨ p = q ∨ ltOf cfP q p = true := by
  rw [lt_iff, lt_iff]
  by_cases h : vX p = vX q
  · by_cases h2 : vY p = vY q
    · exact .inr (.inl (ptW_inj h h2))
    · omega
  · omega

/-- A sorted row: what is kept are its elements, each once. -/
theorem compact_sorted {d : Array PtW} (hs : Sort.SortedIn (ltOf cfP) 0 d.size d) :
    (compactUpTo d d.size).Nodup ∧ ∀ p, p ∈ compactUpTo d d.size ↔ ∃ i, i < d.size ∧ d[i]! = p := by
  have le : ∀ i j, i ≤ j → j < d.size → ltOf cfP d[j]! d[i]! = false := fun i j hij hj => by
    rcases Nat.lt_or_ge i j with h | h
    · exact hs i j (Nat.zero_le _) h hj
    · have : i = j := by omega
      subst this; exact swoP.irrefl _
  constructor
  · unfold compactUpTo List.Nodup
    rw [List.pairwise_map]
    refine List.Pairwise.imp_of_mem ?_ ((List.pairwise_lt_range (n := d.size)).filter _)
    intro i j hi hj hij he
    have hjm := List.mem_filter.1 hj
    have hjr : j < d.size := List.mem_range.1 hjm.1
    have hk : j = 0 ∨ d[j]! ≠ d[j - 1]! := of_decide_eq_true hjm.2
    rcases hk with h0 | hne
    · omega
    · have h1 := le i (j - 1) (by omega) (by omega)
      have h2 := le (j - 1) j (by omega) hjr
      rw [he] at h1
      rcases le_total d[j]! d[j - 1]! with h | h | h
      · rw [h] at h2; cases h2
      · exact hne h
      · rw [h] at h1; cases h1
  · intro p
    unfold compactUpTo
    constructor
    · intro h
      obtain ⟨i, hi, rfl⟩ := List.mem_map.1 h
      exact ⟨i, List.mem_range.1 (List.mem_filter.1 hi).1, rfl⟩
    · rintro ⟨i, hi, rfl⟩
      induction i with
      | zero => exact List.mem_map.2 ⟨0, List.mem_filter.2 ⟨List.mem_range.2 hi, by simp [keeps]⟩, rfl⟩
      | succ i ih =>
        by_cases he : d[i + 1]! = d[i]!
        · rw [he]; exact ih (by omega)
        · exact List.mem_map.2 ⟨i + 1, List.mem_filter.2 ⟨List.mem_range.2 hi, by simpa [keeps] using he⟩, rfl⟩

theorem perm_mem {d d' : Array PtW} (h : Sort.PermIn 0 d.size d d') (p : PtW) : (∃ i, i < d'.size ∧ d'[i]! = p) ↔ p ∈ d.toList := by
  obtain ⟨h1, _, h3⟩ := h
  have e1 : d.extract 0 d.size = d := by simp
  have e2 : d'.extract 0 d.size = d' := by rw [← h1]; simp
  rw [e1, e2] at h3
  rw [← h3.mem_iff]
  constructor
  · rintro ⟨i, hi, rfl⟩
    rw [getElem!_pos d' i hi]
    simp
  · intro hp
    obtain ⟨i, hi, e⟩ := List.getElem_of_mem hp
    refine ⟨i, by simpa using hi, ?_⟩
    rw [getElem!_pos d' i (by simpa using hi)]
    simpa using e
end Go.Proofs.Ytlnikapkheldeaa

/-
  All images of a point by the symmetries of mirrors of a kind: the list that the program builds before it sorts it.
-/
namespace Go.Proofs.Ytlnikapkheldeaa
open Go.ChangeShapes Go.WideShapes Go.ChangeAt Go.RowKit Go.Joins
set_option linter.unusedSimpArgs false
set_option linter.unusedVariables false
set_option maxRecDepth 100000
attribute [local go_sem] store_f
open Ieee Go.Lib

/-- The image of a point. -/
def actP (s : Int × Bool) (p : PtW) : PtW := ⟨actV s.1.toNat s.2 p.1.1 (ngB p.1.1) p.1.2 (ngB p.1.2), act_pt _ _ p.2.1 p.2.2⟩
/-- The point that two drawn words stand for. -/
def ptOf {x y : Nat} (hx : okB x = true) (hy : okB y = true) : PtW := ⟨(cleanB x, cleanB y), pt_clean hx, pt_clean hy⟩
/-- The images by the symmetries of mirrors of a kind, in their order. -/
def imgs (l : List (Int × Bool)) (p : PtW) : List PtW := l.map fun s => actP s p

theorem actM_of {x y : Nat} (hx : okB x = true) (hy : okB y = true) {s : Int × Bool} (h : isSymB s.1 = true) : ActM s.1 s.2 x y (actP s (ptOf hx hy)).1.1 (actP s (ptOf hx hy)).1.2 := by
  obtain ⟨h1, h2⟩ := isSymB_iff.1 h
  have := act_of (t := s.1.toNat) s.2 (by omega) hx hy
  rwa [Int.toNat_of_nonneg h1] at this
theorem actM_pt (p : PtW) {s : Int × Bool} (h : isSymB s.1 = true) : ActM s.1 s.2 p.1.1 p.1.2 (actP s p).1.1 (actP s p).1.2 := by
  obtain ⟨h1, h2⟩ := isSymB_iff.1 h
  have := act_of_pt (t := s.1.toNat) s.2 (by omega) p.2.1 p.2.2
  rwa [Int.toNat_of_nonneg h1] at this

theorem infoCx : (Try.prog.info? 28).map (fun i => (i.zero, i.size, i.bytes)) = some (some (.complex .f32 0 0), 1, 8) := by kernel_rfl

/-- What the images of a point are called as: a contract of ActSym at one word pair. -/
structure Acts (l : List (Int × Bool)) (x y : Nat) (p : PtW) : Prop where
  call : ∀ k, k < l.length → ActM (l.getD k (0, false)).1 (l.getD k (0, false)).2 x y (actP (l.getD k (0, false)) p).1.1 (actP (l.getD k (0, false)) p).1.2

theorem getD_memS {l : List (Int × Bool)} {k : Nat} (h : k < l.length) : l.getD k (0, false) ∈ l := by simp [List.getD, h]
theorem acts_of {l : List (Int × Bool)} (hl : ∀ s ∈ l, isSymB s.1 = true) {x y : Nat} (hx : okB x = true) (hy : okB y = true) : Acts l x y (ptOf hx hy) :=
  ⟨fun k hk => actM_of hx hy (hl _ (getD_memS hk))⟩
theorem acts_pt {l : List (Int × Bool)} (hl : ∀ s ∈ l, isSymB s.1 = true) (p : PtW) : Acts l p.1.1 p.1.2 p :=
  ⟨fun k hk => actM_pt p (hl _ (getD_memS hk))⟩

theorem imgs_snoc {l : List (Int × Bool)} (p : PtW) {k : Nat} (h : k < l.length) : (imgs (l.take (k + 1)) p).map encP = (imgs (l.take k) p).map encP ++ [encP (actP (l.getD k (0, false)) p)] := by
  unfold imgs
  rw [List.take_succ_eq_append_getElem h, List.map_append, List.map_append, show l.getD k (0, false) = l[k] by simp [List.getD, h]]
  rfl
theorem imgs_len (l : List (Int × Bool)) (p : PtW) : (imgs l p).length = l.length := by simp [imgs]

structure PtYes (x y : Nat) : Prop where
  call : ∀ w : World, Calls Try.prog 77 #[.complex .f32 x y] w fun e w' => e = .returned (.bool true) ∧ w' = w
structure SymsM (kind : Int) (l : List (Int × Bool)) : Prop where
  call : ∀ w : World, Calls Try.prog 33 #[.int .i64 kind] w fun e w' => ∃ g cap, e = .returned (.slice (some ⟨g, 0, Option.none⟩) l.length cap) ∧ w'.ownsRow w.heap.size 25 2 (.slice (some ⟨g, 0, Option.none⟩) l.length cap) l.length (symCells l) ∧ Below w.heap.size w w'

/-- The list before it is sorted lies in block g. -/
structure Listed (w : World) (w1 : World) (g cap n : Nat) (l : List PtW) : Prop where
  lo : w.heap.size ≤ g
  lt : g < w1.heap.size
  len : l.length = n
  cap : n ≤ cap
  small : n ≤ 1000
  holds : Sort.Holds encP w1 g 0 l.toArray
  below : Below w.heap.size w w1

theorem listed_of {w w1 : World} {v : Value} {n : Nat} {l : List PtW} (hown : w1.ownsRow w.heap.size 28 1 v n (l.map encP)) (hnn : v ≠ .slice Option.none 0 0) (hb : Below w.heap.size w w1) (hs : n ≤ 1000) :
    ∃ g cap, v = .slice (some ⟨g, 0, Option.none⟩) n cap ∧ Listed w w1 g cap n l := by
  obtain ⟨hl, ⟨hv, _⟩ | ⟨g, cap, cur, hv, hbg, hg, hn, hc, hsz, hx⟩⟩ := hown
  · exact absurd hv hnn
  · refine ⟨g, cap, hv, ⟨hbg, (Array.getElem?_eq_some_iff.1 hg).1, by simpa using hl, hn, hs, fun j hj => ?_, hb⟩⟩
    have hj' : j < l.length := by simpa using hj
    have hln : l.length = n := by simpa using hl
    constructor
    · rw [cell_of_block hg]
      have e1 : cur[0 + j]? = (l.map encP)[j]? := by
        rw [← hx, List.getElem?_take, if_pos (by omega)]
        simp
      rw [e1, List.getElem?_map, List.getElem?_eq_getElem hj', getElem!_pos l.toArray j (by simpa using hj')]
      simp
    · exact unfrozen_of_block hg _
end Go.Proofs.Ytlnikapkheldeaa

/-
  slices.Compact at this program's points.
-/
namespace Go.Proofs.Ytlnikapkheldeaa
open Go.ChangeShapes Go.WideShapes Go.ChangeAt Go.RowKit Go.Joins
set_option linter.unusedSimpArgs false
set_option linter.unusedVariables false
set_option maxRecDepth 100000
attribute [local go_sem] store_f
open Ieee Go.Lib

theorem block_mapBlock (w : World) (b k : Nat) (f : Array Value → Array Value) (h : k ≠ b) : (Sort.mapBlock w b f).heap[k]? = w.heap[k]? := by
  unfold Sort.mapBlock
  simp only [Array.getElem?_modify]
  rw [if_neg (fun e => h e.symm)]
theorem below_put {B : Nat} (w : World) (b o q : Nat) (d : Array PtW) (h : B ≤ b) : Below B w (Sort.putRow encP (Sort.ahead w q) b o d) :=
  ⟨rfl, rfl, rfl, by unfold Sort.putRow Sort.mapBlock Sort.ahead; simp, fun k hk => block_mapBlock _ _ _ _ (by omega)⟩
theorem below_grow {B : Nat} {w w1 : World} (h : Below B w w1) (hB : B ≤ w1.heap.size) (os : Array Obj) : Below B w (Sort.grow w1 os) :=
  ⟨h.os, h.tape, h.output, by rw [Sort.size_grow]; have := h.size; omega, fun k hk => by rw [Sort.heap_grow_old _ _ (by omega)]; exact h.block k hk⟩
theorem holds_ahead {w : World} {b o : Nat} {d : Array PtW} (h : Sort.Holds encP w b o d) (q : Nat) : Sort.Holds encP (Sort.ahead w q) b o d := h
theorem size_put (w : World) (b o q : Nat) (d : Array PtW) : (Sort.putRow encP (Sort.ahead w q) b o d).heap.size = w.heap.size := by unfold Sort.putRow Sort.mapBlock Sort.ahead; simp

/-- What lies in block g behind slices.Compact: the elements of a sorted list, each once. -/
structure Once (w w1 : World) (g cap : Nat) (m l : List PtW) : Prop where
  lo : w.heap.size ≤ g
  lt : g < w1.heap.size
  holds : ∀ k, k < m.length → w1.cell? ⟨g, k, Option.none⟩ = some (encP (m.getD k default))
  nodup : m.Nodup
  mem : ∀ p, p ∈ m ↔ p ∈ l
  len : m.length ≤ l.length
  below : Below w.heap.size w w1

theorem compact_m {w w1 : World} {g cap n : Nat} {l : List PtW} (H : Listed w w1 g cap n l) (hs : Sort.SortedIn (ltOf cfP) 0 l.toArray.size l.toArray) :
    Calls Try.prog 107 #[.slice (some ⟨g, 0, Option.none⟩) n cap] w1 fun e w' =>
      ∃ m, e = .returned (.slice (some ⟨g, 0, Option.none⟩) m.length cap) ∧ Once w w' g cap m l := by
  have hn := H.len
  have hsz : l.toArray.size = n := by simpa using hn
  obtain ⟨c1, c2⟩ := compact_sorted hs
  have zr : PtW := default
  have v23 : ∀ w, (zeroValue 28).run Try.prog w = .ok (encP default) w := fun w => by kernel_rfl
  have hcon := AnyE.slices_Compact Try.compC encP oneP (eqlP _ _) (neqP _ _) (default : PtW) v23 g 0 cap l.toArray w1 H.holds (by rw [hsz]; have := H.small; omega) (by rw [hsz]; exact H.cap)
  change Calls Try.prog 107 _ _ _ at hcon
  have hle : (compactUpTo l.toArray l.toArray.size).length ≤ l.toArray.size := by
    unfold compactUpTo
    rw [List.length_map]
    have := List.length_filter_le (keeps l.toArray) (List.range l.toArray.size)
    simpa using this
  have hm : ∀ p, p ∈ compactUpTo l.toArray l.toArray.size ↔ p ∈ l := fun p => by
    rw [c2]
    constructor
    · rintro ⟨i, hi, rfl⟩
      rw [getElem!_pos l.toArray i hi]
      simp
    · intro hp
      obtain ⟨i, hi, e⟩ := List.getElem_of_mem hp
      refine ⟨i, by simpa using hi, ?_⟩
      rw [getElem!_pos l.toArray i (by simpa using hi)]
      simpa using e
  generalize compactUpTo l.toArray l.toArray.size = m at hcon c1 hle hm
  rw [hsz] at hcon hle
  refine hcon.mono ?_
  rintro e w' ⟨rfl, q, rfl⟩
  have hd : (m ++ List.replicate (n - m.length) default : List PtW).toArray.size = l.toArray.size := by simp; omega
  have hH := Sort.holds_putRow encP _ g 0 l.toArray _ (holds_ahead H.holds q) hd
  refine ⟨m, rfl, ⟨H.lo, by rw [size_put]; exact H.lt, fun k hk => ?_, c1, hm, by omega, H.below.trans (below_put w1 g 0 q _ H.lo)⟩⟩
  have h1 := (hH k (by simp; omega)).1
  rw [Nat.zero_add] at h1
  rw [h1, getElem!_pos _ k (by simp; omega)]
  simp [List.getElem_append, hk, List.getD]
end Go.Proofs.Ytlnikapkheldeaa

/-
  OrbitOf: all images of a point, each once.
-/
namespace Go.Proofs.Ytlnikapkheldeaa
open Go.ChangeShapes Go.WideShapes Go.ChangeAt Go.RowKit Go.Joins
set_option linter.unusedSimpArgs false
set_option linter.unusedVariables false
set_option maxRecDepth 100000
attribute [local go_sem] store_f
open Ieee Go.Lib

/-- The sort's contract at this program's points. -/
structure SortM : Prop where
  call : ∀ {w w1 : World} {g cap n : Nat} {l : List PtW}, Listed w w1 g cap n l →
    Calls Try.prog 105 #[.slice (some ⟨g, 0, Option.none⟩) n cap, .func (.func 106) #[] #[]] w1 fun e w' =>
      e = .returned (.tuple #[]) ∧ ∃ l', Listed w w' g cap n l' ∧ Sort.SortedIn (ltOf cfP) 0 l'.toArray.size l'.toArray ∧ ∀ p, p ∈ l' ↔ p ∈ l

/-- What OrbitOf gives. -/
structure Orbit (w : World) (e : Ending) (w' : World) (l : List PtW) : Prop where
  some : ∃ g cap m, e = .returned (.slice (some ⟨g, 0, Option.none⟩) m.length cap) ∧ Once w w' g cap m l

theorem SymRow.grown {W w1 : World} {g : Nat} {l : List (Int × Bool)} {r : Option Nat} (h : SymRow W g l) (hlt : g < W.heap.size) (hg : W.grownBy w1 r) (hne : r ≠ Option.some g) : SymRow w1 g l :=
  fun k hk => ⟨(World.cell?_of_block (hg.block g hlt (fun e => hne e.symm))).trans (h k hk).1, (World.cell?_of_block (hg.block g hlt (fun e => hne e.symm))).trans (h k hk).2⟩

set_option maxHeartbeats 4000000 in
set_option maxRecDepth 1000000 in
theorem orbitOf_i (S : SortM) {kind : Int} {l : List (Int × Bool)} {x y : Nat} {p : PtW} (SM : SymsM kind l) (hlen : l.length ≤ 8) (PY : PtYes x y) (A : Acts l x y p) (w : World) :
    Calls Try.prog 40 #[.int .i64 kind, .complex .f32 x y] w fun e w' => Orbit w e w' (imgs l p) := by
  obtain ⟨i0, hi, hz0, hz1, hz2⟩ := info_parts infoCx
  go_enter Try.func40, Try.ntmps40
  go_wp2_with fail
  refine (PY.call _).mono ?_
  rintro e w0 ⟨rfl, rfl⟩
  go_wp2_with fail
  refine (SM.call _).mono ?_
  rintro e w1 ⟨gs, cs, rfl, own, hb1⟩
  have hS : SymRow w1 gs l := symRow_of own rfl
  have hgs := (own.lt _ rfl).1
  simp only [World.size_alloc] at hgs
  have hO : w1.ownsRow w.heap.size 28 1 (.slice (some ⟨w.heap.size, 0, Option.none⟩) 0 0) 0 [] := ownsBelow hb1 (World.ownsRow_lit _ #[] 0 (by simp) (by unfold maxLen; omega) rfl)
  have hB : Below w.heap.size w w1 := by (repeat' (first | (with_reducible exact Below.refl _ _) | (with_reducible assumption) | (with_reducible refine Below.alloc ?_ ?_ _) | (with_reducible refine Below.drew ?_) | (with_reducible refine Below.setCell ?_ ?_ _) | (with_reducible refine Below.trans ?_ (Below.mono (by assumption) ?_)) | (with_reducible exact Nat.le_refl _) | omega | (simp only [World.size_alloc, World.size_setCell, World.size_drew]; omega) | (simp; omega) | (simp; done)))
  have hgl := (own.lt _ rfl).2
  have HS : Hid (SymRow w1 gs l) := hS
  have HO : Hid (w1.ownsRow w.heap.size 28 1 (.slice (some ⟨w.heap.size, 0, Option.none⟩) 0 0) 0 []) := hO
  have HB : Hid (Below w.heap.size w w1) := hB
  clear own hb1 hS hO hB
  go_wp2_with fail
  go_loopw [5, 16] (fun v i wr => ∃ k : Nat, k ≤ l.length ∧ i = .int .i64 k ∧ wr.ownsRow w.heap.size 28 1 v k ((imgs (l.take k) p).map encP) ∧ v ≠ .slice Option.none 0 0 ∧ v.ownBlock ≠ Option.some gs ∧ SymRow wr gs l ∧ gs < wr.heap.size ∧ Below w.heap.size w wr)
    (fun _ i _ => l.length - (intOf i).toNat)
  case atStart => exact ⟨0, by omega, rfl, HO.out, by simp, by simp [Value.ownBlock]; omega, HS.out, hgl, HB.out⟩
  case round =>
    obtain ⟨k, hk, rfl, hown, hnn, hne, hS, hgl, hbel⟩ := hrel
    have HN : Hid (u5 ≠ .slice Option.none 0 0) := hnn
    have HE : Hid (u5.ownBlock ≠ Option.some gs) := hne
    have HR : Hid (SymRow wr gs l) := hS
    have hbs := hbel.size
    clear hnn hne
    by_cases hlt : k < l.length
    · have HA := A.call k hlt
      have HY : Hid ((imgs (l.take (k + 1)) p).map encP = (imgs (l.take k) p).map encP ++ [.complex .f32 (actP (l.getD k (0, false)) p).1.1 (actP (l.getD k (0, false)) p).1.2]) := imgs_snoc p hlt
      obtain ⟨c0, c1⟩ := hS k hlt
      clear hS
      generalize (actP (l.getD k (0, false)) p).1.1 = a1 at HA HY
      generalize (actP (l.getD k (0, false)) p).1.2 = a2 at HA HY
      generalize l.getD k (0, false) = s at HA c0 c1
      obtain ⟨t, f⟩ := s
      simp only [] at c0 c1
      go_wp2_with fail
      refine (HA.call _).mono ?_
      rintro e w2 ⟨rfl, hb2⟩
      have hB2 : Below w.heap.size w w2 := by (repeat' (first | (with_reducible exact Below.refl _ _) | (with_reducible assumption) | (with_reducible refine Below.alloc ?_ ?_ _) | (with_reducible refine Below.drew ?_) | (with_reducible refine Below.setCell ?_ ?_ _) | (with_reducible refine Below.trans ?_ (Below.mono (by assumption) ?_)) | (with_reducible exact Nat.le_refl _) | omega | (simp only [World.size_alloc, World.size_setCell, World.size_drew]; omega) | (simp; omega) | (simp; done)))
      have hs2 := hb2.size
      simp only [World.size_alloc] at hs2
      have HR2 : Hid (SymRow w2 gs l) := HR.out.alloc.below hb2
      have hO2 : w2.ownsRow w.heap.size 28 1 u5 k ((imgs (l.take k) p).map encP) := ownsBelow hb2 (World.ownsRow.alloc hown _)
      clear c0 c1 hb2 HR
      go_wp2_with (at_builtin; go_loud (refine wpList_append_own_at _ rfl _ _ 61 rfl w.heap.size 28 i0 (.complex .f32 0 0) 1 8 Try.underlying61 hi hz0 hz1 hz2 rfl (by decide) _ k ((imgs (l.take k) p).map encP) rfl ?hown ⟨w2.heap.size, 0, Option.none⟩ 1 1 [.complex .f32 a1 a2] rfl rfl ?c1 ?c2 ?c3 ?c4 ?c5 ?_))
      case hown => (change World.ownsRow _ _ _ _ u5 _ _; (repeat (first | (with_reducible assumption) | (with_reducible refine World.ownsRow.alloc ?_ _) | (with_reducible refine World.ownsRow.drew ?_) | (with_reducible refine ownsBelow (by assumption) ?_))))
      case c1 =>
        intro j u hj
        rcases j with _ | j <;> simp at hj
        subst hj
        simp [Addr.add]
      case c2 =>
        intro u hu
        simp at hu
        subst hu
        rfl
      case c3 => (unfold maxLen; omega)
      case c4 => omega
      case c5 => first | omega | (simp only [World.size_alloc, World.size_setCell, World.size_drew]; omega)
      intro v' w3 hown' hgrow hvn hat
      have HV : Hid (v' ≠ .slice Option.none 0 0) := hvn
      have hb3 : Below w.heap.size w w3 := Below.grown (by (repeat' (first | (with_reducible exact Below.refl _ _) | (with_reducible assumption) | (with_reducible refine Below.alloc ?_ ?_ _) | (with_reducible refine Below.drew ?_) | (with_reducible refine Below.setCell ?_ ?_ _) | (with_reducible refine Below.trans ?_ (Below.mono (by assumption) ?_)) | (with_reducible exact Nat.le_refl _) | omega | (simp only [World.size_alloc, World.size_setCell, World.size_drew]; omega) | (simp; omega) | (simp; done)))) hgrow (by first | omega | (simp only [World.size_alloc, World.size_setCell, World.size_drew]; omega)) (fun q hq => (hown.lt q hq).1)
      have HR3 : Hid (SymRow w3 gs l) := (HR2.out.alloc).grown (by simp; omega) hgrow HE.out
      have hz3 := hgrow.size
      simp only [World.size_alloc] at hz3
      have HE3 : Hid (v'.ownBlock ≠ Option.some gs) := (show v'.ownBlock ≠ Option.some gs from by
        rcases hat with e | e
        · rw [e]; exact HE.out
        · rw [e]; simp; omega)
      clear hgrow hvn hat HR2 HE HN
      go_wp2
      go_roundw
      case rel => exact ⟨k + 1, by omega, by go_num, by rw [HY.out]; simpa using hown', HV.out, HE3.out, HR3.out, by omega, hb3⟩
      case measure => simp [intOf]; omega
    · have hkl : k = l.length := by omega
      subst hkl
      rw [List.take_length] at hown
      obtain ⟨g, cap, rfl, HL⟩ := listed_of hown HN.out hbel (by omega)
      clear hown hS
      go_wp2_with fail
      refine (S.call HL).mono ?_
      rintro e w2 ⟨rfl, l', HL2, hs, hm⟩
      go_wp2_with fail
      refine (compact_m HL2 hs).mono ?_
      rintro e w3 ⟨m, rfl, HM⟩
      have HF : Hid (Once w w3 g cap m (imgs l p)) := ⟨HM.lo, HM.lt, HM.holds, HM.nodup, fun q => (HM.mem q).trans (hm q), by have := HM.len; have := HL2.len; have := HL.len; omega, HM.below⟩
      clear hs hm HM HL2 HL hbel
      go_wp2
      go_ret
      exact ⟨g, cap, m, rfl, HF.out⟩
end Go.Proofs.Ytlnikapkheldeaa

/-
  KeepersOf: the symmetries that leave a point where it is.
-/
namespace Go.Proofs.Ytlnikapkheldeaa
open Go.ChangeShapes Go.WideShapes Go.ChangeAt Go.RowKit Go.Joins
set_option linter.unusedSimpArgs false
set_option linter.unusedVariables false
set_option maxRecDepth 100000
attribute [local go_sem] store_f
open Ieee Go.Lib

/-- Words that stand for a point: what is equal to them is this point. -/
structure EqZ (x y : Nat) (p : PtW) : Prop where
  eq : ∀ q : PtW, ((FloatKind.f32.format.order q.1.1 x == some .eq) && (FloatKind.f32.format.order q.1.2 y == some .eq)) = decide (q = p)

theorem val_clean {x : Nat} (h : Fin32 x) : valOf F32 (cleanB x) = valOf F32 x := by
  rw [clean_eq h]
  by_cases h0 : rungOf F32 x = 0
  · rw [if_pos h0, val_zero, val_eq_zero.2 h0]
  · rw [if_neg h0]
theorem order_clean_r {a x : Nat} (ha : Fin32 a) (h : okB x = true) : F32.order a x = F32.order a (cleanB x) := by
  rw [order_fin F32 ha (ok_fin h), order_fin F32 ha (cl_clean (ok_fin h) (ok_lt h)).fin, val_clean (ok_fin h)]
theorem eqz_of {x y : Nat} (hx : okB x = true) (hy : okB y = true) : EqZ x y (ptOf hx hy) := ⟨fun q => by
  rw [← eq_points q (ptOf hx hy)]
  show ((F32.order q.1.1 x == some .eq) && (F32.order q.1.2 y == some .eq)) = ((F32.order q.1.1 (cleanB x) == some .eq) && (F32.order q.1.2 (cleanB y) == some .eq))
  rw [order_clean_r q.2.1.cl.fin hx, order_clean_r q.2.2.cl.fin hy]⟩
theorem eqz_pt (p : PtW) : EqZ p.1.1 p.1.2 p := ⟨fun q => eq_points q p⟩

/-- Of the symmetries of a list those that leave a point where it is. -/
def keepL' (l : List (Int × Bool)) (p : PtW) : List (Int × Bool) := l.filter fun s => decide (actP s p = p)
theorem keep_yes {l : List (Int × Bool)} {p : PtW} {k : Nat} (h : k < l.length) (hd : decide (actP (l.getD k (0, false)) p = p) = true) : keepL' (l.take (k + 1)) p = keepL' (l.take k) p ++ [l.getD k (0, false)] := by
  have e : l.getD k (0, false) = l[k] := by simp [List.getD, h]
  unfold keepL'
  rw [List.take_succ_eq_append_getElem h, List.filter_append, e]
  rw [e] at hd
  simp only [List.filter_cons, hd, if_true, List.filter_nil]
theorem keep_no {l : List (Int × Bool)} {p : PtW} {k : Nat} (h : k < l.length) (hd : decide (actP (l.getD k (0, false)) p = p) = false) : keepL' (l.take (k + 1)) p = keepL' (l.take k) p := by
  have e : l.getD k (0, false) = l[k] := by simp [List.getD, h]
  unfold keepL'
  rw [List.take_succ_eq_append_getElem h, List.filter_append]
  rw [e] at hd
  simp [List.filter_cons, hd]
theorem keep_le (l : List (Int × Bool)) (p : PtW) (k : Nat) : (keepL' (l.take k) p).length ≤ k := by
  have := List.length_filter_le (fun s => decide (actP s p = p)) (l.take k)
  unfold keepL'
  simp only [List.length_take] at this
  omega

end Go.Proofs.Ytlnikapkheldeaa

/-
  Images of a point as pairs of whole numbers: as many images as a point has, times as many symmetries as keep it, are all symmetries.
-/
namespace Go.Proofs.Ytlnikapkheldeaa
open Go.ChangeShapes Go.WideShapes Go.ChangeAt Go.RowKit Go.Joins
set_option linter.unusedSimpArgs false
set_option linter.unusedVariables false
set_option maxRecDepth 100000
attribute [local go_sem] store_f
open Ieee Go.Lib

/-- The image of a pair of numbers. -/
def actI (s : Int × Bool) (z : Int × Int) : Int × Int :=
  match s.1.toNat, s.2 with
  | 0, false => (z.1, z.2)
  | 0, true => (z.1, -z.2)
  | 1, false => (-z.2, z.1)
  | 1, true => (z.2, z.1)
  | 2, false => (-z.1, -z.2)
  | 2, true => (-z.1, z.2)
  | _, false => (z.2, -z.1)
  | _, true => (-z.2, -z.1)

theorem val_ng {x : Nat} (h : Fin32 x) : valOf F32 (ngB x) = -valOf F32 x := by
  have hr := fin_rung h
  unfold ngB
  by_cases h0 : rungOf F32 x = 0
  · rw [if_pos h0, val_zero, val_eq_zero.2 h0]; rfl
  · rw [if_neg h0]
    unfold valOf
    rw [rungOf_word F32 _ (by rw [F32_sw]; omega), negOf_word F32 _ (by rw [F32_sw]; omega)]
    cases negOf F32 x <;> simp

def vP (p : PtW) : Int × Int := (vX p, vY p)
theorem vP_inj {p q : PtW} (h : vP p = vP q) : p = q := ptW_inj (Prod.mk.inj h).1 (Prod.mk.inj h).2
theorem vP_act (s : Int × Bool) (p : PtW) : vP (actP s p) = actI s (vP p) := by
  have nx := val_ng p.2.1.cl.fin
  have ny := val_ng p.2.2.cl.fin
  obtain ⟨t, f⟩ := s
  unfold vP vX vY actP actI
  dsimp only
  generalize t.toNat = n
  rcases n with _ | _ | _ | n <;> cases f <;> simp [actV, nx, ny]

theorem syms0 : symsTo 0 8 = [(0, false)] := by decide
theorem syms1 : symsTo 1 8 = [(0, false), (0, true)] := by decide
theorem syms2 : symsTo 2 8 = [(0, false), (2, false), (0, true), (2, true)] := by decide
theorem syms3 : symsTo 3 8 = [(0, false), (1, false), (2, false), (3, false), (0, true), (1, true), (2, true), (3, true)] := by decide

/-- The images as numbers. -/
def imgsI (l : List (Int × Bool)) (z : Int × Int) : List (Int × Int) := l.map fun s => actI s z
def keepI (l : List (Int × Bool)) (z : Int × Int) : List (Int × Bool) := l.filter fun s => decide (actI s z = z)

theorem cnt_of {kind X Y : Int} {m L : List (Int × Int)} {a b : Nat} (hn : m.Nodup) (hm : ∀ q, q ∈ m ↔ q ∈ imgsI (symsTo kind 8) (X, Y)) (hL : L.Nodup) (hi : ∀ q, q ∈ imgsI (symsTo kind 8) (X, Y) ↔ q ∈ L) (ha : L.length = a) (hb : (keepI (symsTo kind 8) (X, Y)).length = b) (hc : a * b = (symsTo kind 8).length) :
    m.length * (keepI (symsTo kind 8) (X, Y)).length = (symsTo kind 8).length := by
  rw [nodup_len_eq hn hL (fun q => (hm q).trans (hi q)), ha, hb, hc]

theorem cnt_I (kind X Y : Int) (h0 : 0 ≤ kind) (h3 : kind ≤ 3) {m : List (Int × Int)} (hn : m.Nodup) (hm : ∀ q, q ∈ m ↔ q ∈ imgsI (symsTo kind 8) (X, Y)) :
    m.length * (keepI (symsTo kind 8) (X, Y)).length = (symsTo kind 8).length := by
  rcases (by omega : kind = 0 ∨ kind = 1 ∨ kind = 2 ∨ kind = 3) with rfl | rfl | rfl | rfl
  · refine cnt_of (L := [(X, Y)]) hn hm (by simp) (fun q => ?_) rfl (b := 1) ?_ (by rw [syms0]; rfl)
    · rw [syms0]; simp [imgsI, actI]
    · rw [syms0]; simp [keepI, actI]
  · by_cases hY : Y = 0
    · subst hY
      refine cnt_of (L := [(X, 0)]) hn hm (by simp) (fun q => ?_) rfl (b := 2) ?_ (by rw [syms1]; rfl)
      · rw [syms1]; simp [imgsI, actI]
      · rw [syms1]; simp [keepI, actI]
    · have e1 : (-Y = Y) = False := by simp; omega
      have e2 : (Y = -Y) = False := by simp; omega
      refine cnt_of (L := [(X, Y), (X, -Y)]) hn hm (by simp [e2]) (fun q => ?_) rfl (b := 1) ?_ (by rw [syms1]; rfl)
      · rw [syms1]; simp [imgsI, actI]
      · rw [syms1]; simp [keepI, actI, e1]
  · by_cases hY : Y = 0 <;> by_cases hX : X = 0
    · subst hY hX
      refine cnt_of (L := [(0, 0)]) hn hm (by simp) (fun q => ?_) rfl (b := 4) ?_ (by rw [syms2]; rfl)
      · rw [syms2]; simp [imgsI, actI]
      · rw [syms2]; simp [keepI, actI]
    · subst hY
      have e1 : (-X = X) = False := by simp; omega
      have e2 : (X = -X) = False := by simp; omega
      refine cnt_of (L := [(X, 0), (-X, 0)]) hn hm (by simp [e2]) (fun q => ?_) rfl (b := 2) ?_ (by rw [syms2]; rfl)
      · rw [syms2]; obtain ⟨a, b⟩ := q; simp [imgsI, actI]; omega
      · rw [syms2]; simp [keepI, actI, e1]
    · subst hX
      have e1 : (-Y = Y) = False := by simp; omega
      have e2 : (Y = -Y) = False := by simp; omega
      refine cnt_of (L := [(0, Y), (0, -Y)]) hn hm (by simp [e2]) (fun q => ?_) rfl (b := 2) ?_ (by rw [syms2]; rfl)
      · rw [syms2]; obtain ⟨a, b⟩ := q; simp [imgsI, actI]; omega
      · rw [syms2]; simp [keepI, actI, e1]
    · have e1 : (-Y = Y) = False := by simp; omega
      have e2 : (Y = -Y) = False := by simp; omega
      have e3 : (-X = X) = False := by simp; omega
      have e4 : (X = -X) = False := by simp; omega
      refine cnt_of (L := [(X, Y), (-X, -Y), (X, -Y), (-X, Y)]) hn hm (by simp [e1, e2, e3, e4]) (fun q => ?_) rfl (b := 1) ?_ (by rw [syms2]; rfl)
      · rw [syms2]; simp [imgsI, actI]
      · rw [syms2]; simp [keepI, actI, e1, e3]
  · by_cases hY : Y = 0 <;> by_cases hX : X = 0
    · subst hY hX
      refine cnt_of (L := [(0, 0)]) hn hm (by simp) (fun q => ?_) rfl (b := 8) ?_ (by rw [syms3]; rfl)
      · rw [syms3]; simp [imgsI, actI]
      · rw [syms3]; simp [keepI, actI]
    · subst hY
      have e1 : (-X = X) = False := by simp; omega
      have e2 : (X = -X) = False := by simp; omega
      have e3 : (0 = X) = False := by simp; omega
      have e4 : (X = 0) = False := by simp; omega
      refine cnt_of (L := [(X, 0), (0, X), (-X, 0), (0, -X)]) hn hm (by simp [e2, e3, e4]) (fun q => ?_) rfl (b := 2) ?_ (by rw [syms3]; rfl)
      · rw [syms3]; obtain ⟨a, b⟩ := q; simp [imgsI, actI]; omega
      · rw [syms3]; simp [keepI, actI, e1, e3, e4]
    · subst hX
      have e1 : (-Y = Y) = False := by simp; omega
      have e2 : (Y = -Y) = False := by simp; omega
      have e3 : (0 = Y) = False := by simp; omega
      have e4 : (Y = 0) = False := by simp; omega
      refine cnt_of (L := [(0, Y), (-Y, 0), (0, -Y), (Y, 0)]) hn hm (by simp [e1, e2, e3, e4]) (fun q => ?_) rfl (b := 2) ?_ (by rw [syms3]; rfl)
      · rw [syms3]; obtain ⟨a, b⟩ := q; simp [imgsI, actI]; omega
      · rw [syms3]; simp [keepI, actI, e1, e3, e4]
    · have e1 : (-Y = Y) = False := by simp; omega
      have e2 : (Y = -Y) = False := by simp; omega
      have e3 : (-X = X) = False := by simp; omega
      have e4 : (X = -X) = False := by simp; omega
      by_cases h1 : X = Y
      · subst h1
        refine cnt_of (L := [(X, X), (-X, X), (-X, -X), (X, -X)]) hn hm (by simp [e1, e2]) (fun q => ?_) rfl (b := 2) ?_ (by rw [syms3]; rfl)
        · rw [syms3]; obtain ⟨a, b⟩ := q; simp [imgsI, actI]; omega
        · rw [syms3]; simp [keepI, actI, e1]
      · by_cases h2 : X = -Y
        · subst h2
          refine cnt_of (L := [(-Y, Y), (-Y, -Y), (Y, -Y), (Y, Y)]) hn hm (by simp [e1, e2]) (fun q => ?_) rfl (b := 2) ?_ (by rw [syms3]; rfl)
          · rw [syms3]; obtain ⟨a, b⟩ := q; simp [imgsI, actI]; omega
          · rw [syms3]; simp [keepI, actI, e1, e2]
        · have f1 : (X = Y) = False := by simp; omega
          have f2 : (Y = X) = False := by simp; omega
          have f3 : (X = -Y) = False := by simp; omega
          have f4 : (-Y = X) = False := by simp; omega
          have f5 : (-X = Y) = False := by simp; omega
          have f6 : (Y = -X) = False := by simp; omega
          refine cnt_of (L := [(X, Y), (-Y, X), (-X, -Y), (Y, -X), (X, -Y), (Y, X), (-X, Y), (-Y, -X)]) hn hm (by simp [e1, e2, e3, e4, f1, f2, f3, f4, f5, f6]) (fun q => ?_) rfl (b := 1) ?_ (by rw [syms3]; rfl)
          · rw [syms3]; simp [imgsI, actI]
          · rw [syms3]; simp [keepI, actI, e1, e3, f1, f2, f4, f5]

theorem keep_I (l : List (Int × Bool)) (p : PtW) : keepL' l p = keepI l (vP p) := by
  unfold keepL' keepI
  congr 1
  funext s
  rw [← vP_act]
  by_cases h : actP s p = p
  · rw [h]
    simp
  · have : ¬ vP (actP s p) = vP p := fun e => h (vP_inj e)
    simp [h, this]

theorem map_nodup {α β : Type} {f : α → β} (hf : ∀ a b, f a = f b → a = b) {m : List α} (h : m.Nodup) : (m.map f).Nodup := by
  unfold List.Nodup at *
  rw [List.pairwise_map]
  exact h.imp fun hne e => hne (hf _ _ e)

/-- As many images as a point has, times as many symmetries as keep it, are all symmetries. -/
theorem orbit_count {kind : Int} (h0 : 0 ≤ kind) (h3 : kind ≤ 3) (p : PtW) {m : List PtW} (hn : m.Nodup) (hm : ∀ q, q ∈ m ↔ q ∈ imgs (symsTo kind 8) p) :
    m.length * (keepL' (symsTo kind 8) p).length = (symsTo kind 8).length := by
  have h := cnt_I kind (vX p) (vY p) h0 h3 (m := m.map vP) (map_nodup (fun _ _ => vP_inj) hn) (fun q => by
    rw [List.mem_map]
    unfold imgsI
    rw [List.mem_map]
    constructor
    · rintro ⟨a, ha, rfl⟩
      obtain ⟨s, hs, rfl⟩ := List.mem_map.1 ((hm a).1 ha)
      exact ⟨s, hs, (vP_act s p).symm⟩
    · rintro ⟨s, hs, rfl⟩
      exact ⟨actP s p, (hm _).2 (List.mem_map.2 ⟨s, hs, rfl⟩), vP_act s p⟩)
  rw [List.length_map] at h
  rw [keep_I]
  exact h

theorem keep_pos {kind : Int} (h0 : 0 ≤ kind) (h3 : kind ≤ 3) (p : PtW) : 0 < (keepL' (symsTo kind 8) p).length := by
  have hmem : ((0 : Int), false) ∈ keepL' (symsTo kind 8) p := by
    unfold keepL'
    rw [List.mem_filter]
    refine ⟨?_, ?_⟩
    · rcases (by omega : kind = 0 ∨ kind = 1 ∨ kind = 2 ∨ kind = 3) with rfl | rfl | rfl | rfl <;> decide
    · exact decide_eq_true (Subtype.ext rfl)
  exact List.length_pos_of_mem hmem
end Go.Proofs.Ytlnikapkheldeaa
