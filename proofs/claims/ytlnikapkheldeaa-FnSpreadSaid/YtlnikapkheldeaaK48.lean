/-
  Texts of this proof, joined: Nf, Ng, Oe.
-/
import Derived.Test.YtlnikapkheldeaaK23
import Derived.Test.YtlnikapkheldeaaK47
import Derived.Test.YtlnikapkheldeaaK36
import Derived.Shelf.SlSortCmp.Whole1
/-
  Spreading: twice is as good as once, what is spread has the mirrors, and first cells stay.
-/
namespace Go.Proofs.Ytlnikapkheldeaa
open Go.ChangeShapes Go.WideShapes Go.ChangeAt Go.RowKit Go.Joins
set_option linter.unusedSimpArgs false
set_option linter.unusedVariables false
set_option maxRecDepth 100000
attribute [local go_sem] store_f
open Ieee

def spreadFine (kind : Int) (n : Nat) : Bool := (List.range (n * n)).all fun k =>
  (leastN kind n (leastN kind n k) == leastN kind n k) && (symsTo kind 8).all fun p =>
    leastN kind n (cellN n (backT p.1.toNat p.2).toNat (backF p.1.toNat p.2) k) == leastN kind n k && decide (cellN n (backT p.1.toNat p.2).toNat (backF p.1.toNat p.2) k < n * n)
theorem spreadFine_all : ∀ kd : Fin 4, ∀ m : Fin 8, spreadFine (kd.val : Int) (m.val + 1) = true := by decide +kernel
theorem leastN_le (kind : Int) (n k : Nat) : leastN kind n k ≤ k := leastL_le _ _ _
theorem spreadFine_at {kd n k : Nat} (h3 : kd < 4) (h1 : 1 ≤ n) (h8 : n ≤ 8) (hk : k < n * n) :
    leastN kd n (leastN kd n k) = leastN kd n k ∧ ∀ p ∈ symsTo (kd : Int) 8, leastN kd n (cellN n (backT p.1.toNat p.2).toNat (backF p.1.toNat p.2) k) = leastN kd n k ∧ cellN n (backT p.1.toNat p.2).toNat (backF p.1.toNat p.2) k < n * n := by
  have h := spreadFine_all ⟨kd, h3⟩ ⟨n - 1, by omega⟩
  dsimp only at h
  rw [Nat.sub_add_cancel h1] at h
  have h2 := List.all_eq_true.1 h k (List.mem_range.2 hk)
  simp only [Bool.and_eq_true, beq_iff_eq, List.all_eq_true, decide_eq_true_eq] at h2
  exact h2
theorem spread_len (kind : Int) (n : Nat) (l : List Lit) : (spreadCols kind n l).length = n * n := by unfold spreadCols; rw [colsTo_len]
theorem spread_get {kind : Int} {n k : Nat} {l : List Lit} (h : k < n * n) : (spreadCols kind n l).getD k default = l.getD (leastN kind n k) default := by
  unfold spreadCols; rw [colsTo_get h]
theorem colsTo_congr {f g : Nat → Lit} {N : Nat} (h : ∀ k, k < N → f k = g k) : colsTo f N = colsTo g N := by
  unfold colsTo
  exact List.map_congr_left (fun k hk => h k (List.mem_range.1 hk))
theorem spread_again {kd n : Nat} {l : List Lit} (h3 : kd < 4) (h1 : 1 ≤ n) (h8 : n ≤ 8) : spreadCols kd n (spreadCols kd n l) = spreadCols kd n l := by
  show colsTo _ _ = colsTo _ _
  refine colsTo_congr fun k hk => ?_
  rw [spread_get (Nat.lt_of_le_of_lt (leastN_le _ _ _) hk), (spreadFine_at h3 h1 h8 hk).1]
theorem spread_oks {kd n : Nat} {l : List Lit} (hl : l.length = n * n) (hok : Oks l) : Oks (spreadCols kd n l) := by
  intro c hc
  unfold spreadCols colsTo at hc
  obtain ⟨k, hk, rfl⟩ := List.mem_map.1 hc
  have h1 : leastN kd n k < l.length := by rw [hl]; exact Nat.lt_of_le_of_lt (leastN_le _ _ _) (List.mem_range.1 hk)
  exact hok _ (by simp [List.getD, h1])
theorem spread_act {kd n : Nat} {l : List Lit} {p : Int × Bool} (h3 : kd < 4) (h1 : 1 ≤ n) (h8 : n ≤ 8) (hp : p ∈ symsTo (kd : Int) 8) : actCols n p.1.toNat p.2 (spreadCols kd n l) = spreadCols kd n l := by
  show colsTo _ _ = colsTo _ _
  refine colsTo_congr fun k hk => ?_
  obtain ⟨e, hlt⟩ := (spreadFine_at h3 h1 h8 hk).2 p hp
  rw [spread_get hlt, e]
theorem spread_keeps {kd n : Nat} {l : List Lit} {p : Int × Bool} (h3 : kd < 4) (h1 : 1 ≤ n) (h8 : n ≤ 8) (hl : l.length = n * n) (hok : Oks l) (hp : p ∈ symsTo (kd : Int) 8) : keepsB n (spreadCols kd n l) p = true := by
  unfold keepsB
  rw [spread_act h3 h1 h8 hp]
  exact (colsEq_ok (spread_oks hl hok) (spread_oks hl hok) rfl).2 rfl
theorem syms_sub' : ∀ k : Fin 4, ∀ p ∈ symsTo (k.val : Int) 8, p ∈ symsTo 3 8 := by decide +kernel
theorem spread_mir {kd n : Nat} {l : List Lit} (h3 : kd < 4) (h1 : 1 ≤ n) (h8 : n ≤ 8) (hl : l.length = n * n) (hok : Oks l) : (kd : Int) ≤ mirN (hasAll (picSyms n (spreadCols kd n l))) := by
  refine mirN_le _ (by omega) (by omega) ?_
  unfold hasAll picSyms
  rw [List.all_eq_true]
  intro s hs
  simp only [decide_eq_true_eq, List.mem_filter]
  exact ⟨(syms_sub' ⟨kd, h3⟩) s hs, spread_keeps h3 h1 h8 hl hok hs⟩
theorem firstsTo_mem {kind : Int} {n N : Nat} {x : Int} (h : x ∈ firstsTo kind n N) : ∃ k : Nat, x = k ∧ k < N ∧ leastN kind n k = k := by
  unfold firstsTo at h
  obtain ⟨k, hk, rfl⟩ := List.mem_map.1 h
  obtain ⟨h1, h2⟩ := List.mem_filter.1 hk
  exact ⟨k, rfl, List.mem_range.1 h1, by simpa using h2⟩
end Go.Proofs.Ytlnikapkheldeaa

/-
  As many images as the first cells have, all together, are all cells.
-/
namespace Go.Proofs.Ytlnikapkheldeaa
open Go.ChangeShapes Go.WideShapes Go.ChangeAt Go.RowKit Go.Joins
set_option linter.unusedSimpArgs false
set_option linter.unusedVariables false
set_option maxRecDepth 100000
attribute [local go_sem] store_f
open Ieee

theorem val_iw_all : ∀ m : Nat, m < 15 → valOf F32 (iw ((m : Int) - 7)) = ((m : Int) - 7) * valOf F32 (iw 1) := by decide +kernel
theorem val_iw {z : Int} (h1 : -7 ≤ z) (h2 : z ≤ 7) : valOf F32 (iw z) = z * valOf F32 (iw 1) := by
  have h := val_iw_all (z + 7).toNat (by omega)
  have e : (((z + 7).toNat : Nat) : Int) - 7 = z := by omega
  rw [e] at h
  exact h
theorem val_one : valOf F32 (iw 1) ≠ 0 := by decide +kernel
theorem act_scale (s : Int × Bool) (X Y c : Int) : actI s (X * c, Y * c) = ((actN s.1.toNat s.2 X Y).1 * c, (actN s.1.toNat s.2 X Y).2 * c) := by
  obtain ⟨t, f⟩ := s
  unfold actI actN
  dsimp only
  generalize t.toNat = n
  rcases n with _ | _ | _ | n <;> cases f <;> simp [Int.neg_mul]
theorem act_fix (s : Int × Bool) (X Y : Int) {c : Int} (hc : c ≠ 0) : actI s (X * c, Y * c) = (X * c, Y * c) ↔ actN s.1.toNat s.2 X Y = (X, Y) := by
  rw [act_scale, Prod.mk.injEq, Int.mul_eq_mul_right_iff hc, Int.mul_eq_mul_right_iff hc, Prod.ext_iff]
/-- How many symmetries keep a cell, and how many images it has. -/
def keepN (kind : Int) (n k : Nat) : Nat := ((symsTo kind 8).filter fun s => decide (actN s.1.toNat s.2 (plX n k) (plY n k) = (plX n k, plY n k))).length
def orbN (kind : Int) (n k : Nat) : Nat := (symsTo kind 8).length / keepN kind n k
def orbSum (kind : Int) (n : Nat) (l : List Int) : Nat := (l.map fun x => orbN kind n x.toNat).sum
theorem orb_all : ∀ kd : Fin 4, ∀ m : Fin 8, orbSum (kd.val : Int) (m.val + 1) (firstsTo (kd.val : Int) (m.val + 1) ((m.val + 1) * (m.val + 1))) = (m.val + 1) * (m.val + 1) := by decide +kernel
theorem orb_sum {kd n : Nat} (h3 : kd < 4) (h1 : 1 ≤ n) (h8 : n ≤ 8) : orbSum kd n (firstsTo kd n (n * n)) = n * n := by
  have h := orb_all ⟨kd, h3⟩ ⟨n - 1, by omega⟩
  dsimp only at h
  rw [Nat.sub_add_cancel h1] at h
  exact h

structure OrbM (kind : Int) (n k c : Nat) : Prop where
  call : ∀ w : World, Calls Try.prog 40 #[.int .i64 kind, .complex .f32 (iw (plX n k)) (iw (plY n k))] w fun e w' => (∃ g cap, e = .returned (.slice (some ⟨g, 0, Option.none⟩) c cap)) ∧ Below w.heap.size w w'
theorem orbM (S : SortM) {kd n k : Nat} (h3 : kd < 4) (h1 : 1 ≤ n) (h8 : n ≤ 8) (hk : k < n * n) : OrbM kd n k (orbN kd n k) := ⟨fun w => by
  obtain ⟨bx, by'⟩ := pl_bd h1 hk
  have X := iw_of (z := plX n k) (by omega) (by omega)
  have Y := iw_of (z := plY n k) (by omega) (by omega)
  have hx := X.1
  have hy := Y.1
  have vx := val_iw (z := plX n k) (by omega) (by omega)
  have vy := val_iw (z := plY n k) (by omega) (by omega)
  have SM : SymsM (kd : Int) (symsTo kd 8) := ⟨fun w => symsOf_i kd w⟩
  have PY : PtYes (iw (plX n k)) (iw (plY n k)) := ⟨fun w => isPoint_yes _ _ w (ok_in hx) (ok_in hy)⟩
  have AA := acts_of (syms_range (kd : Int) (by omega) (by omega)) hx hy
  have hvp : vP (ptOf hx hy) = (plX n k * valOf F32 (iw 1), plY n k * valOf F32 (iw 1)) := by
    show (valOf F32 (cleanB (iw (plX n k))), valOf F32 (cleanB (iw (plY n k)))) = _
    rw [X.2.1, Y.2.1, vx, vy]
  have hkp : (keepL' (symsTo kd 8) (ptOf hx hy)).length = keepN kd n k := by
    rw [keep_I, hvp]
    unfold keepI keepN
    congr 1
    refine List.filter_congr fun s _ => ?_
    exact decide_eq_decide.2 (act_fix s _ _ val_one)
  have hpos := keep_pos (kind := (kd : Int)) (by omega) (by omega) (ptOf hx hy)
  refine (orbitOf_i S SM (symsTo_le (kd : Int) 8) PY AA w).mono ?_
  rintro e w' ⟨g, cap, m, rfl, HO⟩
  have hc := orbit_count (kind := (kd : Int)) (by omega) (by omega) (ptOf hx hy) HO.nodup HO.mem
  rw [hkp] at hc hpos
  have hm : m.length = orbN kd n k := by
    unfold orbN
    rw [← hc, Nat.mul_div_cancel _ hpos]
  exact ⟨⟨g, cap, by rw [hm]⟩, HO.below⟩⟩
end Go.Proofs.Ytlnikapkheldeaa

/-
  slices.SortFunc at this program's points.
-/
namespace Go.Proofs.Ytlnikapkheldeaa
open Go.ChangeShapes Go.WideShapes Go.ChangeAt Go.RowKit Go.Joins
set_option linter.unusedSimpArgs false
set_option linter.unusedVariables false
set_option maxRecDepth 100000
attribute [local go_sem] store_f
open Ieee Go.Lib

/-- The sort's contract at this program's points: the list in block g is permuted, and sorted. -/
theorem sort_m {w w1 : World} {g cap n : Nat} {l : List PtW} (H : Listed w w1 g cap n l) :
    Calls Try.prog 105 #[.slice (some ⟨g, 0, Option.none⟩) n cap, .func (.func 106) #[] #[]] w1 fun e w' =>
      e = .returned (.tuple #[]) ∧ ∃ l', Listed w w' g cap n l' ∧ Sort.SortedIn (ltOf cfP) 0 l'.toArray.size l'.toArray ∧ ∀ p, p ∈ l' ↔ p ∈ l := by
  have eg : ∀ args w, (callFunc 106 args).run Try.prog w = .ok (.enter 106 args) w := enters_of Try.func106 (by kernel_rfl) rfl
  have hn := H.len
  have hsz : l.toArray.size = n := by simpa using hn
  have hn64 : n < 4611686018427387904 := by have := H.small; omega
  have hcon := Any.slices_SortFunc Try.sortC encP oneP cfP swoP 106 #[] g 0 cap l.toArray w1 eg (cmpLaysP g 0 _ w1) H.holds H.lt (by rw [hsz]; exact hn64)
  change Calls Try.prog 105 _ _ _ at hcon
  rw [hsz] at hcon
  refine hcon.mono ?_
  rintro e w' ⟨rfl, d', m, os, hp, hs, rfl⟩
  have hd : d'.size = n := by rw [hp.1, hsz]
  have hH : Sort.Holds encP (Proofs.sortWorld encP w1 g 0 m d' os) g 0 d' :=
    Sort.holds_grow encP _ os g 0 d' (by rw [size_put]; exact H.lt) (Sort.holds_putRow encP _ g 0 l.toArray d' (holds_ahead H.holds m) (by rw [hd, hsz]))
  have hB : Below w.heap.size w (Proofs.sortWorld encP w1 g 0 m d' os) := by
    have h1 := H.below.size
    exact H.below.trans (below_grow (below_put w1 g 0 m d' H.lo) (by rw [size_put]; exact h1) os)
  refine ⟨rfl, d'.toList, ⟨H.lo, ?_, by simpa using hd, H.cap, H.small, by simpa using hH, hB⟩, by simpa [hd] using hs, fun p => ?_⟩
  · show g < (Sort.grow (Sort.putRow encP (Sort.ahead w1 m) g 0 d') os).heap.size
    rw [Sort.size_grow, size_put]; have := H.lt; omega
  · rw [← hsz] at hp
    have := perm_mem hp p
    rw [← show p ∈ l.toArray.toList ↔ p ∈ l by simp, ← this]
    rw [List.mem_iff_getElem]
    constructor
    · rintro ⟨i, hi, rfl⟩
      exact ⟨i, by simpa using hi, by rw [getElem!_pos d' i (by simpa using hi)]; simp⟩
    · rintro ⟨i, hi, rfl⟩
      exact ⟨i, by simpa using hi, by rw [getElem!_pos d' i hi]; simp⟩
end Go.Proofs.Ytlnikapkheldeaa
