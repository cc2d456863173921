/-
  Texts Ob Oc Od Of, joined.
-/
import Derived.Test.YtfdgijmmgllmgaaGreatR43
import Derived.Test.YtfdgijmmgllmgaaGreatR06
import Derived.Test.YtfdgijmmgllmgaaGreatShelf
import Derived.Shelf.SlSortCmp.Kit1
import Derived.Lib.SlicesCompact
import Derived.Test.YtfdgijmmgllmgaaGreatR07
import Derived.Test.YtfdgijmmgllmgaaGreatR01
import Derived.Maps.AppendAt
namespace Go.Proofs.YtfdgijmmgllmgaaGreat
open Go.ChangeShapes Go.WideShapes Go.ChangeAt Go.RowKit Go.Joins
set_option linter.unusedSimpArgs false
set_option linter.unusedVariables false
set_option maxRecDepth 100000
attribute [local go_sem] store_f
open Ieee
def cfV (X Y U V : Int) : Int := if cmpV X U = 0 then cmpV Y V else cmpV X U
set_option maxHeartbeats 1000000 in
theorem comparePoints_of {x y u v : Nat} {n m : Int} (C1 : CmpM x u n) (C2 : CmpM y v m) (w : World) :
    Calls Tryz.prog 55 #[.complex .f32 x y, .complex .f32 u v] w fun e w' => e = .returned (.int .i64 (if n = 0 then m else n)) ∧ ∃ o, w' = w.alloc o := by
  have O := fun g w => or_i g n m w
  have HO : Hid (∀ (g : Nat) (w : World), w.cell? ⟨g, 0, Option.none⟩ = some (.int .i64 n) → w.cell? ⟨g, 1, Option.none⟩ = some (.int .i64 m) → Calls Tryz.prog 94 #[.slice (some ⟨g, 0, Option.none⟩) 2 2] w fun e w' => e = .returned (.int .i64 (if n = 0 then m else n)) ∧ w = w') := O
  clear O
  generalize (if n = 0 then m else n) = r at HO ⊢
  go_enter Tryz.func55, Tryz.ntmps55
  go_wp2_with fail
  refine (C1.call _).mono ?_
  rintro e w1 ⟨rfl, rfl⟩
  go_wp2_with fail
  refine (C2.call _).mono ?_
  rintro e w2 ⟨rfl, rfl⟩
  go_wp2_with fail
  refine (HO.out _ _ (by ((repeat (first | (with_reducible assumption) | (with_reducible exact cNewAt (by first | rfl | (simp only [World.size_alloc, World.size_setCell, World.size_drew]; done) | omega) rfl) | (with_reducible exact sNewAt (by first | rfl | (simp only [World.size_alloc, World.size_setCell, World.size_drew]; done) | omega) rfl) | (simp; done) | (with_reducible apply cAlloc) | (with_reducible apply cDrew) | (with_reducible refine cSet (by dsimp only; omega) ?_) | (with_reducible refine cSetOff (by dsimp only; omega) ?_) | (with_reducible apply cSame) | (with_reducible refine cBelow (by assumption) ?_) | (with_reducible apply sAlloc) | (with_reducible apply sDrew) | (with_reducible refine sBelow (by assumption) ?_) | (with_reducible refine sSet (by dsimp only; omega) ?_))); first | done | (simp [*]; done))) (by ((repeat (first | (with_reducible assumption) | (with_reducible exact cNewAt (by first | rfl | (simp only [World.size_alloc, World.size_setCell, World.size_drew]; done) | omega) rfl) | (with_reducible exact sNewAt (by first | rfl | (simp only [World.size_alloc, World.size_setCell, World.size_drew]; done) | omega) rfl) | (simp; done) | (with_reducible apply cAlloc) | (with_reducible apply cDrew) | (with_reducible refine cSet (by dsimp only; omega) ?_) | (with_reducible refine cSetOff (by dsimp only; omega) ?_) | (with_reducible apply cSame) | (with_reducible refine cBelow (by assumption) ?_) | (with_reducible apply sAlloc) | (with_reducible apply sDrew) | (with_reducible refine sBelow (by assumption) ?_) | (with_reducible refine sSet (by dsimp only; omega) ?_))); first | done | (simp [*]; done)))).mono ?_
  rintro e w3 ⟨rfl, rfl⟩
  go_wp2
  go_ret
  exact ⟨rfl, _, rfl⟩
def cfP (p q : PtW) : Int := cfV (vX p) (vY p) (vX q) (vY q)
theorem oneP : OneCell encP := fun _ => rfl
theorem lt_iff (p q : PtW) : ltOf cfP p q = true ↔ (vX p < vX q ∨ (vX p = vX q ∧ vY p < vY q)) := by
  unfold ltOf cfP cfV cmpV
  rw [decide_eq_true_iff]
  generalize vX p = X
  generalize vX q = U
  generalize vY p = Y
  generalize vY q = V
  by_cases h1 : X < U
  · simp [h1]
  · by_cases h2 : U < X
    · have h3 : ¬ X = U := by omega
      simp [h1, h2, h3]
    · have h3 : X = U := by omega
      by_cases h4 : Y < V
      · simp [h3, h4]
      · by_cases h5 : V < Y
        · simp [h3, h4, h5]
        · simp [h3, h4, h5]
theorem lt_no (p q : PtW) : ltOf cfP p q = false ↔ ¬ (vX p < vX q ∨ (vX p = vX q ∧ vY p < vY q)) := by
  rw [← lt_iff]; simp
theorem swoP : Sort.SWO (ltOf cfP) := by
  refine ⟨fun x => ?_, fun x y z h1 h2 => ?_, fun x y z h1 h2 => ?_⟩
  · rw [lt_no]; omega
  · rw [lt_iff] at *; omega
  · rw [lt_no] at *; omega
theorem cmpLaysP (blk off size : Nat) (w : World) : CmpLays1 Tryz.prog 55 #[] encP cfP blk off size w := fun m os dk hs p q => by
  refine (comparePoints_of (x := p.1.1) (y := p.1.2) (u := q.1.1) (v := q.1.2) ⟨fun w => compare_v p.2.1.cl.fin q.2.1.cl.fin w⟩ ⟨fun w => compare_v p.2.2.cl.fin q.2.2.cl.fin w⟩ _).mono ?_
  rintro e w' ⟨rfl, o, rfl⟩
  exact ⟨rfl, 0, #[o], by rw [Sort.alloc_eq_grow]; rfl⟩
theorem guardP (P : Program) (T : TypeId) : GuardAt P T encP := fun op a b x y w => by
  unfold encP
  rw [eqGuard_at_complex]; rfl
theorem eqlP (P : Program) (T : TypeId) : EqlAt P T encP (fun x y => decide (x = y)) := ⟨fun x y w => by unfold encP; rw [run_eql_complex, eq_points], guardP P T⟩
theorem neqP (P : Program) (T : TypeId) : NeqAt P T encP (fun x y => decide (x = y)) := ⟨fun x y w => by unfold encP; rw [run_neq_complex, eq_points], guardP P T⟩
end Go.Proofs.YtfdgijmmgllmgaaGreat
namespace Go.Proofs.YtfdgijmmgllmgaaGreat
open Go.ChangeShapes Go.WideShapes Go.ChangeAt Go.RowKit Go.Joins
set_option linter.unusedSimpArgs false
set_option linter.unusedVariables false
set_option maxRecDepth 100000
attribute [local go_sem] store_f
open Ieee Go.Lib
theorem le_total (p q : PtW) : ltOf cfP p q = true ∨ p = q ∨ ltOf cfP q p = true := by
  rw [lt_iff, lt_iff]
  by_cases h : vX p = vX q
  · by_cases h2 : vY p = vY q
    · exact .inr (.inl (ptW_inj h h2))
    · omega
  · omega
theorem compact_sorted {d : Array PtW} (hs : Sort.SortedIn (ltOf cfP) 0 d.size d) :
    (compactUpTo d d.size).Nodup ∧ ∀ p, p ∈ compactUpTo d d.size ↔ ∃ i, i < d.size ∧ d[i]! = p := by
  have le : ∀ i j, i ≤ j → j < d.size → ltOf cfP d[j]! d[i]! = false := fun i j hij hj => by
    rcases Nat.lt_or_ge i j with h | h
    · exact hs i j (Nat.zero_le _) h hj
    · have : i = j := by omega
      subst this; exact swoP.irrefl _
  constructor
  · unfold compactUpTo List.Nodup
    rw [List.pairwise_map]
    refine List.Pairwise.imp_of_mem ?_ ((List.pairwise_lt_range (n := d.size)).filter _)
    intro i j hi hj hij he
    have hjm := List.mem_filter.1 hj
    have hjr : j < d.size := List.mem_range.1 hjm.1
    have hk : j = 0 ∨ d[j]! ≠ d[j - 1]! := of_decide_eq_true hjm.2
    rcases hk with h0 | hne
    · omega
    · have h1 := le i (j - 1) (by omega) (by omega)
      have h2 := le (j - 1) j (by omega) hjr
      rw [he] at h1
      rcases le_total d[j]! d[j - 1]! with h | h | h
      · rw [h] at h2; cases h2
      · exact hne h
      · rw [h] at h1; cases h1
  · intro p
    unfold compactUpTo
    constructor
    · intro h
      obtain ⟨i, hi, rfl⟩ := List.mem_map.1 h
      exact ⟨i, List.mem_range.1 (List.mem_filter.1 hi).1, rfl⟩
    · rintro ⟨i, hi, rfl⟩
      induction i with
      | zero => exact List.mem_map.2 ⟨0, List.mem_filter.2 ⟨List.mem_range.2 hi, by simp [keeps]⟩, rfl⟩
      | succ i ih =>
        by_cases he : d[i + 1]! = d[i]!
        · rw [he]; exact ih (by omega)
        · exact List.mem_map.2 ⟨i + 1, List.mem_filter.2 ⟨List.mem_range.2 hi, by simpa [keeps] using he⟩, rfl⟩
theorem perm_mem {d d' : Array PtW} (h : Sort.PermIn 0 d.size d d') (p : PtW) : (∃ i, i < d'.size ∧ d'[i]! = p) ↔ p ∈ d.toList := by
  obtain ⟨h1, _, h3⟩ := h
  have e1 : d.extract 0 d.size = d := by simp
  have e2 : d'.extract 0 d.size = d' := by rw [← h1]; simp
  rw [e1, e2] at h3
  rw [← h3.mem_iff]
  constructor
  · rintro ⟨i, hi, rfl⟩
    rw [getElem!_pos d' i hi]
    simp
  · intro hp
    obtain ⟨i, hi, e⟩ := List.getElem_of_mem hp
    refine ⟨i, by simpa using hi, ?_⟩
    rw [getElem!_pos d' i (by simpa using hi)]
    simpa using e
end Go.Proofs.YtfdgijmmgllmgaaGreat
namespace Go.Proofs.YtfdgijmmgllmgaaGreat
open Go.ChangeShapes Go.WideShapes Go.ChangeAt Go.RowKit Go.Joins
set_option linter.unusedSimpArgs false
set_option linter.unusedVariables false
set_option maxRecDepth 100000
attribute [local go_sem] store_f
open Ieee Go.Lib
theorem infoCx : (Tryz.prog.info? 28).map (fun i => (i.zero, i.size, i.bytes)) = some (some (.complex .f32 0 0), 1, 8) := by kernel_rfl
theorem imgs_snoc {l : List (Int × Bool)} (p : PtW) {k : Nat} (h : k < l.length) : (imgs (l.take (k + 1)) p).map encP = (imgs (l.take k) p).map encP ++ [encP (actP (l.getD k (0, false)) p)] := by
  unfold imgs
  rw [List.take_succ_eq_append_getElem h, List.map_append, List.map_append, show l.getD k (0, false) = l[k] by simp [List.getD, h]]
  rfl
structure Listed (w : World) (w1 : World) (g cap n : Nat) (l : List PtW) : Prop where
  lo : w.heap.size ≤ g
  lt : g < w1.heap.size
  len : l.length = n
  cap : n ≤ cap
  small : n ≤ 1000
  holds : Sort.Holds encP w1 g 0 l.toArray
  below : Below w.heap.size w w1
theorem listed_of {w w1 : World} {v : Value} {n : Nat} {l : List PtW} (hown : w1.ownsRow w.heap.size 28 1 v n (l.map encP)) (hnn : v ≠ .slice Option.none 0 0) (hb : Below w.heap.size w w1) (hs : n ≤ 1000) :
    ∃ g cap, v = .slice (some ⟨g, 0, Option.none⟩) n cap ∧ Listed w w1 g cap n l := by
  obtain ⟨hl, ⟨hv, _⟩ | ⟨g, cap, cur, hv, hbg, hg, hn, hc, hsz, hx⟩⟩ := hown
  · exact absurd hv hnn
  · refine ⟨g, cap, hv, ⟨hbg, (Array.getElem?_eq_some_iff.1 hg).1, by simpa using hl, hn, hs, fun j hj => ?_, hb⟩⟩
    have hj' : j < l.length := by simpa using hj
    have hln : l.length = n := by simpa using hl
    constructor
    · rw [cell_of_block hg]
      have e1 : cur[0 + j]? = (l.map encP)[j]? := by
        rw [← hx, List.getElem?_take, if_pos (by omega)]
        simp
      rw [e1, List.getElem?_map, List.getElem?_eq_getElem hj', getElem!_pos l.toArray j (by simpa using hj')]
      simp
    · exact unfrozen_of_block hg _
end Go.Proofs.YtfdgijmmgllmgaaGreat
namespace Go.Proofs.YtfdgijmmgllmgaaGreat
open Go.ChangeShapes Go.WideShapes Go.ChangeAt Go.RowKit Go.Joins
set_option linter.unusedSimpArgs false
set_option linter.unusedVariables false
set_option maxRecDepth 100000
attribute [local go_sem] store_f
open Ieee Go.Lib
theorem block_mapBlock (w : World) (b k : Nat) (f : Array Value → Array Value) (h : k ≠ b) : (Sort.mapBlock w b f).heap[k]? = w.heap[k]? := by
  unfold Sort.mapBlock
  simp only [Array.getElem?_modify]
  rw [if_neg (fun e => h e.symm)]
theorem below_put {B : Nat} (w : World) (b o q : Nat) (d : Array PtW) (h : B ≤ b) : Below B w (Sort.putRow encP (Sort.ahead w q) b o d) :=
  ⟨rfl, rfl, rfl, by unfold Sort.putRow Sort.mapBlock Sort.ahead; simp, fun k hk => block_mapBlock _ _ _ _ (by omega)⟩
theorem below_grow {B : Nat} {w w1 : World} (h : Below B w w1) (hB : B ≤ w1.heap.size) (os : Array Obj) : Below B w (Sort.grow w1 os) :=
  ⟨h.os, h.tape, h.output, by rw [Sort.size_grow]; have := h.size; omega, fun k hk => by rw [Sort.heap_grow_old _ _ (by omega)]; exact h.block k hk⟩
theorem holds_ahead {w : World} {b o : Nat} {d : Array PtW} (h : Sort.Holds encP w b o d) (q : Nat) : Sort.Holds encP (Sort.ahead w q) b o d := h
theorem size_put (w : World) (b o q : Nat) (d : Array PtW) : (Sort.putRow encP (Sort.ahead w q) b o d).heap.size = w.heap.size := by unfold Sort.putRow Sort.mapBlock Sort.ahead; simp
structure Once (w w1 : World) (g cap : Nat) (m l : List PtW) : Prop where
  lo : w.heap.size ≤ g
  lt : g < w1.heap.size
  holds : ∀ k, k < m.length → w1.cell? ⟨g, k, Option.none⟩ = some (encP (m.getD k default))
  nodup : m.Nodup
  mem : ∀ p, p ∈ m ↔ p ∈ l
  len : m.length ≤ l.length
  below : Below w.heap.size w w1
theorem compact_m {w w1 : World} {g cap n : Nat} {l : List PtW} (H : Listed w w1 g cap n l) (hs : Sort.SortedIn (ltOf cfP) 0 l.toArray.size l.toArray) :
    Calls Tryz.prog 56 #[.slice (some ⟨g, 0, Option.none⟩) n cap] w1 fun e w' =>
      ∃ m, e = .returned (.slice (some ⟨g, 0, Option.none⟩) m.length cap) ∧ Once w w' g cap m l := by
  have hn := H.len
  have hsz : l.toArray.size = n := by simpa using hn
  obtain ⟨c1, c2⟩ := compact_sorted hs
  have zr : PtW := default
  have v23 : ∀ w, (zeroValue 28).run Tryz.prog w = .ok (encP default) w := fun w => by kernel_rfl
  have hcon := AnyE.slices_Compact Tryz.compC encP oneP (eqlP _ _) (neqP _ _) (default : PtW) v23 g 0 cap l.toArray w1 H.holds (by rw [hsz]; have := H.small; omega) (by rw [hsz]; exact H.cap)
  change Calls Tryz.prog 56 _ _ _ at hcon
  have hle : (compactUpTo l.toArray l.toArray.size).length ≤ l.toArray.size := by
    unfold compactUpTo
    rw [List.length_map]
    have := List.length_filter_le (keeps l.toArray) (List.range l.toArray.size)
    simpa using this
  have hm : ∀ p, p ∈ compactUpTo l.toArray l.toArray.size ↔ p ∈ l := fun p => by
    rw [c2]
    constructor
    · rintro ⟨i, hi, rfl⟩
      rw [getElem!_pos l.toArray i hi]
      simp
    · intro hp
      obtain ⟨i, hi, e⟩ := List.getElem_of_mem hp
      refine ⟨i, by simpa using hi, ?_⟩
      rw [getElem!_pos l.toArray i (by simpa using hi)]
      simpa using e
  generalize compactUpTo l.toArray l.toArray.size = m at hcon c1 hle hm
  rw [hsz] at hcon hle
  refine hcon.mono ?_
  rintro e w' ⟨rfl, q, rfl⟩
  have hd : (m ++ List.replicate (n - m.length) default : List PtW).toArray.size = l.toArray.size := by simp; omega
  have hH := Sort.holds_putRow encP _ g 0 l.toArray _ (holds_ahead H.holds q) hd
  refine ⟨m, rfl, ⟨H.lo, by rw [size_put]; exact H.lt, fun k hk => ?_, c1, hm, by omega, H.below.trans (below_put w1 g 0 q _ H.lo)⟩⟩
  have h1 := (hH k (by simp; omega)).1
  rw [Nat.zero_add] at h1
  rw [h1, getElem!_pos _ k (by simp; omega)]
  simp [List.getElem_append, hk, List.getD]
end Go.Proofs.YtfdgijmmgllmgaaGreat
