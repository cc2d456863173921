/-
  Texts of this proof, joined: Hp, Mf, Sha, Mg, Opic.
-/
import Derived.Test.YtlnikapkheldeaaK16
import Derived.Test.YtlnikapkheldeaaK22
import Derived.Test.YtlnikapkheldeaaK12
import Derived.Deep.QuietTactic
import Derived.BigQuiet
import Derived.Test.YtlnikapkheldeaaK18
import Derived.Test.YtlnikapkheldeaaK11
import Derived.Test.YtlnikapkheldeaaK19
import Derived.Deep.Slices
import Derived.Deep.Fields
import Derived.ChangeSame
/-
  The symmetries of a picture are a group.
-/
namespace Go.Proofs.Ytlnikapkheldeaa
open Go.ChangeShapes Go.WideShapes Go.ChangeAt Go.RowKit Go.Joins
set_option linter.unusedSimpArgs false
set_option linter.unusedVariables false
set_option maxRecDepth 100000
attribute [local go_sem] store_f
open Ieee

/-! Colours of parts are the same only if their words are. -/
theorem val_inj {x y : Nat} (hx : x < 2147483648) (hy : y < 2147483648) (h : valOf F32 x = valOf F32 y) : x = y := by
  rw [val_of_lt hx, val_of_lt hy] at h
  rcases Nat.lt_trichotomy x y with g | g | g
  · have := magOf_lt F32 g; omega
  · exact g
  · have := magOf_lt F32 g; omega
theorem part_eq {x y : Nat} (hx : x ≤ 1065353216) (hy : y ≤ 1065353216) : (FloatKind.f32.format.order x y == some .eq) = decide (x = y) := by
  show (F32.order x y == some .eq) = _
  rw [order_fin F32 (fin_of_lt (by omega)) (fin_of_lt (by omega)), cmp_eq, decide_eq_decide]
  exact ⟨fun h => val_inj (by omega) (by omega) h, fun h => by rw [h]⟩
theorem colEq_ok {c d : Lit} (hc : c.Ok) (hd : d.Ok) : colEq c d = true ↔ c = d := by
  unfold colEq
  rw [part_eq hc.r hd.r, part_eq hc.g hd.g, part_eq hc.b hd.b]
  simp only [Bool.and_eq_true, decide_eq_true_eq]
  constructor
  · rintro ⟨h1, h2, h3⟩
    cases c; cases d
    simp only [] at h1 h2 h3
    rw [h1, h2, h3]
  · rintro rfl; exact ⟨rfl, rfl, rfl⟩
theorem getD_mem {l : List Lit} {i : Nat} (h : i < l.length) : l.getD i default ∈ l := by simp [List.getD, h]
theorem list_ext {l k : List Lit} (h : l.length = k.length) (hi : ∀ i, i < l.length → l.getD i default = k.getD i default) : l = k := by
  apply List.ext_getElem h
  intro i h1 h2
  have := hi i h1
  simpa [List.getD, h1, h2] using this
theorem colsEq_ok {l k : List Lit} (hl : Oks l) (hk : Oks k) (h : l.length = k.length) : colsEq l k = true ↔ l = k := by
  rw [colsEq_iff h]
  constructor
  · intro hi
    exact list_ext h fun i h1 => (colEq_ok (hl _ (getD_mem h1)) (hk _ (getD_mem (by omega)))).1 (hi i h1)
  · rintro rfl i h1
    exact (colEq_ok (hl _ (getD_mem h1)) (hl _ (getD_mem h1))).2 rfl

/-! Acting on lists of cells. -/
theorem colsTo_get {col : Nat → Lit} {N k : Nat} (h : k < N) : (colsTo col N).getD k default = col k := by
  unfold colsTo
  simp [List.getD, h]
theorem act_len (n t : Nat) (f : Bool) (l : List Lit) : (actCols n t f l).length = n * n := by unfold actCols; rw [colsTo_len]
theorem act_get {n t k : Nat} {f : Bool} {l : List Lit} (h : k < n * n) : (actCols n t f l).getD k default = l.getD (cellN n (backT t f).toNat (backF t f) k) default := by
  unfold actCols; rw [colsTo_get h]
theorem act_oks {n t : Nat} {f : Bool} {l : List Lit} (h8 : n ≤ 8) (ht : t < 4) (hl : l.length = n * n) (hok : Oks l) : Oks (actCols n t f l) := by
  intro c hc
  unfold actCols colsTo at hc
  obtain ⟨k, hk, rfl⟩ := List.mem_map.1 hc
  have hJ := back_in ⟨t, ht⟩ f
  dsimp only at hJ
  exact hok _ (getD_mem (by rw [hl]; exact cell_lt' h8 (List.mem_range.1 hk) hJ.2))
theorem back_then : ∀ (t u : Fin 4) (f g : Bool), thenT (backT (u.val : Int) g) (backT (t.val : Int) f) (backF (t.val : Int) f) = backT (thenT (t.val : Int) u.val g) (thenF t.val u.val f g) ∧ thenF (backT (u.val : Int) g) (backT (t.val : Int) f) (backF u.val g) (backF t.val f) = backF (thenT (t.val : Int) u.val g) (thenF t.val u.val f g) := by decide +kernel
theorem act_act {n t u : Nat} {f g : Bool} {l : List Lit} (h8 : n ≤ 8) (ht : t < 4) (hu : u < 4) : actCols n u g (actCols n t f l) = actCols n (thenT t u g).toNat (thenF t u f g) l := by
  have hI := then_in ⟨t, ht⟩ ⟨u, hu⟩ g
  have hJ := back_in ⟨t, ht⟩ f
  have hJu := back_in ⟨u, hu⟩ g
  have hB := back_then ⟨t, ht⟩ ⟨u, hu⟩ f g
  dsimp only at hI hJ hJu hB
  apply list_ext (by rw [act_len, act_len])
  intro k hk
  rw [act_len] at hk
  rw [act_get hk, act_get (cell_lt' h8 hk hJu.2), act_get hk, cell_then h8 hk hJu.2 hJ.2, ← hJ.1, ← hJu.1, hB.1, hB.2, ← hI.1]
theorem act_zero {n : Nat} {l : List Lit} (h8 : n ≤ 8) (hl : l.length = n * n) : actCols n 0 false l = l := by
  apply list_ext (by rw [act_len, hl])
  intro k hk
  rw [act_len] at hk
  have e1 : (backT ((0 : Nat) : Int) false).toNat = 0 := rfl
  have e2 : backF ((0 : Nat) : Int) false = false := rfl
  rw [act_get hk, e1, e2, cell_none h8 hk]
theorem act_back' {n t : Nat} {f : Bool} {l : List Lit} (h8 : n ≤ 8) (ht : t < 4) (hl : l.length = n * n) : actCols n (backT t f).toNat (backF t f) (actCols n t f l) = l := by
  have hJ := back_in ⟨t, ht⟩ f
  have hB := then_back ⟨t, ht⟩ f
  dsimp only at hJ hB
  rw [act_act h8 ht hJ.2, ← hJ.1, hB.1, hB.2.1]
  exact act_zero h8 hl

/-! Symmetries as pairs. -/
def thenP (p q : Int × Bool) : Int × Bool := (thenT p.1 q.1 q.2, thenF p.1 q.1 p.2 q.2)
def backP (p : Int × Bool) : Int × Bool := (backT p.1 p.2, backF p.1 p.2)
def actL (n : Nat) (p : Int × Bool) (l : List Lit) : List Lit := actCols n p.1.toNat p.2 l
theorem all_in : ∀ p ∈ symsTo 3 8, ∃ t : Nat, p.1 = t ∧ t < 4 := symsTo_in 3
theorem all_then : ∀ p ∈ symsTo 3 8, ∀ q ∈ symsTo 3 8, thenP p q ∈ symsTo 3 8 := by decide +kernel
theorem all_back : ∀ p ∈ symsTo 3 8, backP p ∈ symsTo 3 8 := by decide +kernel
theorem all_zero : ((0, false) : Int × Bool) ∈ symsTo 3 8 := by decide +kernel
theorem all_of {t : Nat} (f : Bool) (h : t < 4) : ((t : Int), f) ∈ symsTo 3 8 := by
  rcases (by omega : t = 0 ∨ t = 1 ∨ t = 2 ∨ t = 3) with rfl | rfl | rfl | rfl <;> cases f <;> decide +kernel
theorem all_conj : ∀ p ∈ symsTo 3 8, ((symsTo 3 8).map fun s => thenP (thenP p s) (backP p)).Perm (symsTo 3 8) := by decide +kernel
theorem all_same : ∀ p ∈ symsTo 3 8, thenP p (backP p) = (0, false) ∧ thenP (backP p) p = (0, false) ∧ backP (backP p) = p := by decide +kernel
theorem actL_then {n : Nat} {p q : Int × Bool} {l : List Lit} (h8 : n ≤ 8) (hp : p ∈ symsTo 3 8) (hq : q ∈ symsTo 3 8) : actL n q (actL n p l) = actL n (thenP p q) l := by
  obtain ⟨t, e1, h1⟩ := all_in p hp
  obtain ⟨u, e2, h2⟩ := all_in q hq
  obtain ⟨p1, f⟩ := p
  obtain ⟨q1, g⟩ := q
  simp only [] at e1 e2
  subst e1 e2
  exact act_act h8 h1 h2
theorem actL_len (n : Nat) (p : Int × Bool) (l : List Lit) : (actL n p l).length = n * n := act_len _ _ _ _
theorem actL_oks {n : Nat} {p : Int × Bool} {l : List Lit} (h8 : n ≤ 8) (hp : p ∈ symsTo 3 8) (hl : l.length = n * n) (hok : Oks l) : Oks (actL n p l) := by
  obtain ⟨t, e1, h1⟩ := all_in p hp
  unfold actL
  rw [e1]
  exact act_oks h8 h1 hl hok
theorem actL_zero {n : Nat} {l : List Lit} (h8 : n ≤ 8) (hl : l.length = n * n) : actL n (0, false) l = l := act_zero h8 hl
theorem keeps_iff {n : Nat} {p : Int × Bool} {l : List Lit} (h8 : n ≤ 8) (hp : p ∈ symsTo 3 8) (hl : l.length = n * n) (hok : Oks l) : keepsB n l p = true ↔ actL n p l = l :=
  colsEq_ok (actL_oks h8 hp hl hok) hok (by rw [act_len, hl])
theorem picSyms_iff {n : Nat} {p : Int × Bool} {l : List Lit} (h8 : n ≤ 8) (hl : l.length = n * n) (hok : Oks l) : p ∈ picSyms n l ↔ p ∈ symsTo 3 8 ∧ actL n p l = l := by
  unfold picSyms
  rw [List.mem_filter]
  constructor
  · rintro ⟨h1, h2⟩; exact ⟨h1, (keeps_iff h8 h1 hl hok).1 h2⟩
  · rintro ⟨h1, h2⟩; exact ⟨h1, (keeps_iff h8 h1 hl hok).2 h2⟩
theorem picSyms_then {n : Nat} {p q : Int × Bool} {l : List Lit} (h8 : n ≤ 8) (hl : l.length = n * n) (hok : Oks l) (hp : p ∈ picSyms n l) (hq : q ∈ picSyms n l) : thenP p q ∈ picSyms n l := by
  obtain ⟨a1, a2⟩ := (picSyms_iff h8 hl hok).1 hp
  obtain ⟨b1, b2⟩ := (picSyms_iff h8 hl hok).1 hq
  exact (picSyms_iff h8 hl hok).2 ⟨all_then p a1 q b1, by rw [← actL_then h8 a1 b1, a2, b2]⟩
theorem picSyms_zero {n : Nat} {l : List Lit} (h8 : n ≤ 8) (hl : l.length = n * n) (hok : Oks l) : ((0, false) : Int × Bool) ∈ picSyms n l :=
  (picSyms_iff h8 hl hok).2 ⟨all_zero, actL_zero h8 hl⟩
theorem picSyms_le (n : Nat) (l : List Lit) : (picSyms n l).length ≤ 8 := by
  have h1 := List.length_filter_le (keepsB n l) (symsTo 3 8)
  have h2 := symsTo_le 3 8
  unfold picSyms
  omega
/-- As many symmetries has a picture as one that is acted on. -/
theorem picSyms_conj {n : Nat} {p : Int × Bool} {l : List Lit} (h8 : n ≤ 8) (hp : p ∈ symsTo 3 8) (hl : l.length = n * n) (hok : Oks l) : (picSyms n (actL n p l)).length = (picSyms n l).length := by
  have hbp := all_back p hp
  obtain ⟨z1, z2, z3⟩ := all_same p hp
  have key : ∀ s ∈ symsTo 3 8, keepsB n (actL n p l) s = keepsB n l (thenP (thenP p s) (backP p)) := by
    intro s hs
    have hps := all_then p hp s hs
    have hc := all_then _ hps _ hbp
    rw [Bool.eq_iff_iff, keeps_iff h8 hs (actL_len _ _ _) (actL_oks h8 hp hl hok), keeps_iff h8 hc hl hok]
    rw [actL_then h8 hp hs, ← actL_then h8 hps hbp]
    constructor
    · intro h
      rw [h, actL_then h8 hp hbp, z1]
      exact actL_zero h8 hl
    · intro h
      have h2 := congrArg (actL n p) h
      rw [actL_then h8 hbp hp, z2, actL_zero h8 (actL_len _ _ _)] at h2
      exact h2
  unfold picSyms
  have e1 : (symsTo 3 8).filter (keepsB n (actL n p l)) = (symsTo 3 8).filter (fun s => keepsB n l (thenP (thenP p s) (backP p))) := List.filter_congr key
  rw [e1]
  have e2 := (List.Perm.filter (keepsB n l) (all_conj p hp)).length_eq
  rw [← e2, List.filter_map, List.length_map]
  rfl

/-! Mirrors of a list of symmetries. -/
theorem mirN_ge (P : Int → Bool) (h : P 0 = true) : 0 ≤ mirN P ∧ mirN P ≤ 3 ∧ P (mirN P) = true := by
  unfold mirN
  by_cases h3 : P 3 = true
  · rw [if_pos h3]; exact ⟨by omega, by omega, h3⟩
  · rw [if_neg h3]
    by_cases h2 : P 2 = true
    · rw [if_pos h2]; exact ⟨by omega, by omega, h2⟩
    · rw [if_neg h2]
      by_cases h1 : P 1 = true
      · rw [if_pos h1]; exact ⟨by omega, by omega, h1⟩
      · rw [if_neg h1, if_pos h]; exact ⟨by omega, by omega, h⟩
theorem mirN_le (P : Int → Bool) {k : Int} (h0 : 0 ≤ k) (h3 : k ≤ 3) (h : P k = true) : k ≤ mirN P := by
  unfold mirN
  rcases (by omega : k = 0 ∨ k = 1 ∨ k = 2 ∨ k = 3) with rfl | rfl | rfl | rfl
  all_goals (simp only [h, if_true]; repeat' split) <;> omega
theorem hasAll_zero {m : List (Int × Bool)} (h : ((0, false) : Int × Bool) ∈ m) : hasAll m 0 = true := by
  unfold hasAll
  rw [List.all_eq_true]
  intro s hs
  have e : symsTo 0 8 = [(0, false)] := by decide +kernel
  rw [e] at hs
  simp at hs
  subst hs
  simpa using h
theorem hasAll_mem {m : List (Int × Bool)} {k : Int} (h : hasAll m k = true) : ∀ s ∈ symsTo k 8, s ∈ m := fun s hs => by
  have := List.all_eq_true.1 h s hs
  simpa using this
end Go.Proofs.Ytlnikapkheldeaa

/-
  The draw of a picture out of a code.
-/
namespace Go.Proofs.Ytlnikapkheldeaa
open Go.ChangeShapes Go.WideShapes Go.ChangeAt Go.RowKit Go.Joins
set_option linter.unusedSimpArgs false
set_option linter.unusedVariables false
set_option maxRecDepth 100000
attribute [local go_sem] store_f
open Ieee

structure PictureDrawn (w : World) (e : Ending) (w' : World) (n : Nat) (l : List Lit) (g cap : Nat) : Prop where
  ret : e = .returned (.agg #[.int .i64 n, .slice (some ⟨g, 0, Option.none⟩) l.length cap])
  row : LitRow w' g 0 l
  lt : g < w'.heap.size
  ge : 1 ≤ n
  le : n ≤ 5
  len : l.length = n * n
  ok : Oks l
  below : Below w.heap.size w w'
set_option maxHeartbeats 4000000 in
theorem drawPicture_s (a : Option Addr) (len cap : Nat) (bs : List Int) (w : World) (hrow : ByteRow w w.heap.size a len bs) (hlen : len ≤ 4096) :
    Calls Try.prog 27 #[.slice a len cap] w fun e w' => ∃ n l g cp, PictureDrawn w e w' n l g cp := by
  have HR : Hid (ByteRow w w.heap.size a len bs) := hrow
  clear hrow
  go_enter Try.func27, Try.ntmps27
  go_wp2_with fail
  generalize hV : w.alloc (.cells #[.int .i64 0, .slice Option.none 0 0] 37) = V
  have RV : Hid (Blk V w.heap.size #[.int .i64 0, .slice Option.none 0 0] 37) := by rw [← hV]; exact Blk.new _ _ _
  have hB : Below w.heap.size w V := by rw [← hV]; (repeat' (first | (with_reducible exact Below.refl _ _) | (with_reducible assumption) | (with_reducible refine Below.alloc ?_ ?_ _) | (with_reducible refine Below.drew ?_) | (with_reducible refine Below.setCell ?_ ?_ _) | (with_reducible refine Below.trans ?_ (Below.mono (by assumption) ?_)) | (with_reducible exact Nat.le_refl _) | omega | (simp only [World.size_alloc, World.size_setCell, World.size_drew]; omega) | (simp; omega) | (simp; done)))
  have sV : V.heap.size = w.heap.size + 1 := by rw [← hV]; simp
  clear hV
  refine (l1New_s a len cap bs _ ((HR.out.of hB).mono hB.size) hlen).mono ?_
  rintro e w1 ⟨q, rfl, hql, hcur, hb1⟩
  have hqB := hcur.ge
  have C1 : Hid (Cur V.heap.size w1 q) := hcur
  have R1 : Hid (Blk w1 w.heap.size #[.int .i64 0, .slice Option.none 0 0] 37) := RV.out.below hb1
  have B1 : Hid (Below w.heap.size w w1) := hB.trans (hb1.mono (by omega))
  have s1 := hb1.size
  clear hcur hb1 hB RV HR
  go_wp2_with fail
  refine (l4Draw_s V.heap.size q _ C1.out).mono ?_
  rintro e w2 ⟨n, l, ⟨⟨g, cp, rfl, hg0, hg1, hrow⟩, h1, h5, hlen', hok, hc2, hg2⟩⟩
  have R2 : Hid (Blk w2 w.heap.size #[.int .i64 0, .slice Option.none 0 0] 37) := R1.out.grown hg2 (by omega)
  have B2 : Hid (Below w.heap.size w w2) := B1.out.trans (below_of_grown hg2 (by omega) (by omega))
  have HL : Hid (LitRow w2 g 0 l) := hrow
  have HN : Hid (l.length = n * n) := hlen'
  have HO : Hid (Oks l) := hok
  have lr := R2.out.lt
  have r0 := Blk.cellAt (i := 0) R2.out rfl
  have r1 := Blk.cellAt (i := 1) R2.out rfl
  have f0 := R2.out.free 0
  have f1 := R2.out.free 1
  simp only [List.getElem_toArray, List.getElem_cons_zero, List.getElem_cons_succ] at r0 r1
  have RS := (R2.out.set (i := 0) (v := .int .i64 n)).set (i := 1) (v := .slice (some ⟨g, 0, Option.none⟩) l.length cp)
  have e0 := RS.cell 0
  have e1 := RS.cell 1
  simp only [List.setIfInBounds_toArray, List.set_cons_zero, List.set_cons_succ, List.getElem?_toArray, List.getElem?_cons_zero, List.getElem?_cons_succ] at e0 e1
  have HE0 : Hid (((w2.setCell ⟨w.heap.size, 0, Option.none⟩ (.int .i64 n)).setCell ⟨w.heap.size, 1, Option.none⟩ (.slice (some ⟨g, 0, Option.none⟩) l.length cp)).cell? ⟨w.heap.size, 0, Option.none⟩ = some (.int .i64 n)) := e0
  have HE1 : Hid (((w2.setCell ⟨w.heap.size, 0, Option.none⟩ (.int .i64 n)).setCell ⟨w.heap.size, 1, Option.none⟩ (.slice (some ⟨g, 0, Option.none⟩) l.length cp)).cell? ⟨w.heap.size, 1, Option.none⟩ = some (.slice (some ⟨g, 0, Option.none⟩) l.length cp)) := e1
  have HLE : Hid (LitRow ((w2.setCell ⟨w.heap.size, 0, Option.none⟩ (.int .i64 n)).setCell ⟨w.heap.size, 1, Option.none⟩ (.slice (some ⟨g, 0, Option.none⟩) l.length cp)) g 0 l) := LitRow.set (LitRow.set HL.out (by dsimp only; omega)) (by dsimp only; omega)
  have HBE : Hid (Below w.heap.size w ((w2.setCell ⟨w.heap.size, 0, Option.none⟩ (.int .i64 n)).setCell ⟨w.heap.size, 1, Option.none⟩ (.slice (some ⟨g, 0, Option.none⟩) l.length cp))) := (B2.out.setCell (Nat.le_refl _) _).setCell (Nat.le_refl _) _
  have HG : Hid (g < ((w2.setCell ⟨w.heap.size, 0, Option.none⟩ (.int .i64 n)).setCell ⟨w.heap.size, 1, Option.none⟩ (.slice (some ⟨g, 0, Option.none⟩) l.length cp)).heap.size) := by show g < _; simp; omega
  clear hrow hlen' hok hc2 hg2 RS e0 e1 C1
  go_wp2
  have e0 := HE0.out
  have e1 := HE1.out
  exact bodyPost_ret (v := .agg #[.int .i64 n, .slice (some ⟨g, 0, Option.none⟩) l.length cp]) (by simp [results, Try.results27, go_sem, e0, e1]) rfl ⟨n, l, g, cp, rfl, HLE.out, HG.out, h1, h5, HN.out, HO.out, HBE.out⟩
end Go.Proofs.Ytlnikapkheldeaa

/-
  Is a symmetry in a list?
-/
namespace Go.Proofs.Ytlnikapkheldeaa
open Go.ChangeShapes Go.WideShapes Go.ChangeAt Go.RowKit Go.Joins 
set_option linter.unusedSimpArgs false
set_option linter.unusedVariables false
set_option maxHeartbeats 4000000 in
set_option maxRecDepth 1000000 in
theorem has_yes (l : List (Int × Bool)) (g n cap : Nat) (t : Int) (f : Bool) (w : World) (hn : l.length = n) (hsm : n ≤ 1000000) (hl : SymRow w g l) (hmem : (t, f) ∈ l) :
    Calls Try.prog 31 #[.slice (some ⟨g, 0, Option.none⟩) n cap, .agg #[.int .i64 t, .bool f]] w fun e w' => e = .returned (.bool true) ∧ Below w.heap.size w w' := by
  have HR : Hid (SymRow w g l) := hl
  have HL : Hid (l.length = n) := hn
  have HM : Hid ((t, f) ∈ l) := hmem
  clear hl hn hmem
  go_enter Try.func31, Try.ntmps31
  go_wp2
  go_loopw [5] (fun i wr => ∃ k : Nat, k ≤ n ∧ i = .int .i64 k ∧ (t, f) ∈ l.drop k ∧ Below w.heap.size w wr ∧ Blk wr w.heap.size #[.int .i64 t, .bool f] 25) (fun i _ => n - (intOf i).toNat)
  case atStart => exact ⟨0, by omega, rfl, HM.out, by (repeat' (first | (with_reducible exact Below.refl _ _) | (with_reducible assumption) | (with_reducible refine Below.alloc ?_ ?_ _) | (with_reducible refine Below.drew ?_) | (with_reducible refine Below.setCell ?_ ?_ _) | (with_reducible refine Below.trans ?_ (Below.mono (by assumption) ?_)) | (with_reducible exact Nat.le_refl _) | omega | (simp only [World.size_alloc, World.size_setCell, World.size_drew]; omega) | (simp; omega) | (simp; done))), Blk.new _ _ _⟩
  case round =>
    obtain ⟨k, hk, rfl, hin, hbel, hblk⟩ := hrel
    have HIN : Hid ((t, f) ∈ l.drop k) := hin
    have hlt : k < n := by
      have h1 := List.length_pos_of_mem hin
      have h2 := HL.out
      simp at h1
      omega
    clear hin
    have b0 : wr.cell? ⟨w.heap.size, 0, Option.none⟩ = some (.int .i64 t) := hblk.cell 0
    have b1 : wr.cell? ⟨w.heap.size, 1, Option.none⟩ = some (.bool f) := hblk.cell 1
    have HBK : Hid (Blk wr w.heap.size #[.int .i64 t, .bool f] 25) := hblk
    clear hblk
    have hA := (HR.out).below hbel k (by have := HL.out; omega)
    have hd : l.drop k = l.getD k (0, false) :: l.drop (k + 1) := by
      have h2 := HL.out
      rw [List.drop_eq_getElem_cons (by omega)]
      simp [List.getD, show k < l.length by omega]
    generalize l.getD k (0, false) = p at hA hd
    obtain ⟨t2, f2⟩ := p
    obtain ⟨a0, a1⟩ := hA
    simp only [] at a0 a1
    have HD : Hid (l.drop k = (t2, f2) :: l.drop (k + 1)) := hd
    clear hd
    by_cases ht : t2 = t
    · subst ht
      by_cases hf : f2 = f
      · subst hf
        go_wp2_with fail
        go_quiet (fail)
        go_wp2
        go_ret
        exact ⟨rfl, hbel.trans (below_draws _ _ _)⟩
      · have hf2 : (f2 == f) = false := by simpa using hf
        go_wp2_with fail
        go_quiet (fail)
        go_wp2
        have hds := hbel.size
        go_roundw
        case rel =>
          refine ⟨k + 1, by omega, by go_num, ?_, hbel.trans (below_draws _ _ _), HBK.out⟩
          have h3 := HIN.out
          rw [HD.out] at h3
          rcases List.mem_cons.1 h3 with e | h3
          · exact absurd (Prod.mk.inj e).2.symm hf
          · exact h3
        case measure => simp [intOf]; omega
    · have ht2 : (t2 == t) = false := by simpa using ht
      go_wp2_with fail
      go_quiet (fail)
      go_wp2
      have hds := hbel.size
      go_roundw
      case rel =>
        refine ⟨k + 1, by omega, by go_num, ?_, hbel.trans (below_draws _ _ _), HBK.out⟩
        have h3 := HIN.out
        rw [HD.out] at h3
        rcases List.mem_cons.1 h3 with e | h3
        · exact absurd (Prod.mk.inj e).1.symm ht
        · exact h3
      case measure => simp [intOf]; omega

theorem syms_back (kind : Int) (h0 : 0 ≤ kind) (h3 : kind ≤ 3) : ∀ p ∈ symsTo kind 8, (backT p.1 p.2, backF p.1 p.2) ∈ symsTo kind 8 := by
  rcases (by omega : kind = 0 ∨ kind = 1 ∨ kind = 2 ∨ kind = 3) with rfl | rfl | rfl | rfl <;> decide
theorem syms_range (kind : Int) (h0 : 0 ≤ kind) (h3 : kind ≤ 3) : ∀ p ∈ symsTo kind 8, isSymB p.1 = true := by
  rcases (by omega : kind = 0 ∨ kind = 1 ∨ kind = 2 ∨ kind = 3) with rfl | rfl | rfl | rfl <;> decide
theorem syms_count (kind : Int) (h0 : 0 ≤ kind) (h3 : kind ≤ 3) : (symsTo kind 8).length = [1, 2, 4, 8].getD kind.toNat 0 := by
  rcases (by omega : kind = 0 ∨ kind = 1 ∨ kind = 2 ∨ kind = 3) with rfl | rfl | rfl | rfl <;> decide
end Go.Proofs.Ytlnikapkheldeaa

/-
  The model's PlaceOf, and its CellTo where there is no answer.
-/
namespace Go.Proofs.Ytlnikapkheldeaa
open Go.ChangeShapes Go.WideShapes Go.ChangeAt Go.RowKit Go.Joins
set_option linter.unusedSimpArgs false
set_option linter.unusedVariables false
set_option maxRecDepth 100000
attribute [local go_sem] store_f
open Ieee
attribute [local go_sem] store_c

set_option maxHeartbeats 4000000 in
theorem cellS_no {n k t : Int} (f : Bool) (h : cellB n k = false ∨ isSymB t = false) : CellS n k t f (-1) := ⟨fun w => by
  by_cases hn : 1 ≤ n ∧ n ≤ 8
  · have L1 : LieM n 1 8 true := lieM_yes hn.1 hn.2
    obtain ⟨m, rfl, h1, h8⟩ := size_cases (n := n) (by unfold sizeB; simp; omega)
    obtain ⟨N, hN⟩ : ∃ N : Nat, N = m * m := ⟨_, rfl⟩
    have hN64 : N ≤ 64 := by rw [hN]; exact Nat.le_trans (Nat.mul_le_mul h8 h8) (by omega)
    have hNN : (m : Int) * (m : Int) = (N : Int) := by rw [hN]; simp
    by_cases hk : 0 ≤ k ∧ k ≤ (N : Int) - 1
    · have L2 : LieM k 0 ((N : Int) - 1) true := lieM_yes hk.1 hk.2
      have hc : cellB (m : Int) k = true := by
        unfold cellB sizeB
        rw [hNN]
        simp
        omega
      have hi := h.resolve_left (by rw [hc]; decide)
      have Y := isSymS t f
      rw [hi] at Y
      clear hc hi h hN
      go_enter Try.func49, Try.ntmps49
      go_wp2_with (first | (go_at_call 112; (first | (with_reducible refine (L1.call _).mono ?_) | (with_reducible refine (L2.call _).mono ?_)); rintro e w1 ⟨rfl, hb⟩; obtain ⟨hc, hf⟩ := bcell hb; have HL := keepL (by (repeat (first | (with_reducible assumption) | (with_reducible apply AllLt.alloc) | (with_reducible apply AllLt.setCell) | (with_reducible apply AllLt.drew) | (with_reducible exact AllLt.nil _)))) hb; have hq := HL; simp only [AllLt, and_true, World.size_alloc, World.size_setCell, World.size_drew] at hq; have hbs := hb.size; try simp only [World.size_alloc, World.size_setCell, World.size_drew] at hbs) | (go_at_call 117; refine (Y.call _).mono ?_; rintro e w1 ⟨rfl, hb⟩; obtain ⟨hc, hf⟩ := bcell hb; have HL := keepL (by (repeat (first | (with_reducible assumption) | (with_reducible apply AllLt.alloc) | (with_reducible apply AllLt.setCell) | (with_reducible apply AllLt.drew) | (with_reducible exact AllLt.nil _)))) hb; have hq := HL; simp only [AllLt, and_true, World.size_alloc, World.size_setCell, World.size_drew] at hq; have hbs := hb.size; try simp only [World.size_alloc, World.size_setCell, World.size_drew] at hbs))
      go_ret
      exact ⟨rfl, by (repeat' (first | (with_reducible exact Below.refl _ _) | (with_reducible assumption) | (with_reducible refine Below.alloc ?_ ?_ _) | (with_reducible refine Below.drew ?_) | (with_reducible refine Below.setCell ?_ ?_ _) | (with_reducible refine Below.trans ?_ (Below.mono (by assumption) ?_)) | (with_reducible exact Nat.le_refl _) | omega | (simp only [World.size_alloc, World.size_setCell, World.size_drew]; omega) | (simp; omega) | (simp; done)))⟩
    · have L2 : LieM k 0 ((N : Int) - 1) false := lieM_no hk
      clear h hN hk
      go_enter Try.func49, Try.ntmps49
      go_wp2_with (first | (go_at_call 112; (first | (with_reducible refine (L1.call _).mono ?_) | (with_reducible refine (L2.call _).mono ?_)); rintro e w1 ⟨rfl, hb⟩; obtain ⟨hc, hf⟩ := bcell hb; have HL := keepL (by (repeat (first | (with_reducible assumption) | (with_reducible apply AllLt.alloc) | (with_reducible apply AllLt.setCell) | (with_reducible apply AllLt.drew) | (with_reducible exact AllLt.nil _)))) hb; have hq := HL; simp only [AllLt, and_true, World.size_alloc, World.size_setCell, World.size_drew] at hq; have hbs := hb.size; try simp only [World.size_alloc, World.size_setCell, World.size_drew] at hbs))
      go_ret
      exact ⟨rfl, by (repeat' (first | (with_reducible exact Below.refl _ _) | (with_reducible assumption) | (with_reducible refine Below.alloc ?_ ?_ _) | (with_reducible refine Below.drew ?_) | (with_reducible refine Below.setCell ?_ ?_ _) | (with_reducible refine Below.trans ?_ (Below.mono (by assumption) ?_)) | (with_reducible exact Nat.le_refl _) | omega | (simp only [World.size_alloc, World.size_setCell, World.size_drew]; omega) | (simp; omega) | (simp; done)))⟩
  · have L1 : LieM n 1 8 false := lieM_no hn
    clear h hn
    go_enter Try.func49, Try.ntmps49
    go_wp2_with (first | (go_at_call 112; refine (L1.call _).mono ?_; rintro e w1 ⟨rfl, hb⟩; obtain ⟨hc, hf⟩ := bcell hb; have HL := keepL (by (repeat (first | (with_reducible assumption) | (with_reducible apply AllLt.alloc) | (with_reducible apply AllLt.setCell) | (with_reducible apply AllLt.drew) | (with_reducible exact AllLt.nil _)))) hb; have hq := HL; simp only [AllLt, and_true, World.size_alloc, World.size_setCell, World.size_drew] at hq; have hbs := hb.size; try simp only [World.size_alloc, World.size_setCell, World.size_drew] at hbs))
    go_ret
    exact ⟨rfl, by (repeat' (first | (with_reducible exact Below.refl _ _) | (with_reducible assumption) | (with_reducible refine Below.alloc ?_ ?_ _) | (with_reducible refine Below.drew ?_) | (with_reducible refine Below.setCell ?_ ?_ _) | (with_reducible refine Below.trans ?_ (Below.mono (by assumption) ?_)) | (with_reducible exact Nat.le_refl _) | omega | (simp only [World.size_alloc, World.size_setCell, World.size_drew]; omega) | (simp; omega) | (simp; done)))⟩⟩

structure PlS (n k : Int) (x y : Nat) (b : Bool) : Prop where
  call : ∀ w : World, Calls Try.prog 47 #[.int .i64 n, .int .i64 k] w fun e w' => e = .returned (.tuple #[.complex .f32 x y, .bool b]) ∧ Below w.heap.size w w'
set_option maxHeartbeats 4000000 in
theorem plS_yes {n k : Nat} (h1 : 1 ≤ n) (h8 : n ≤ 8) (hk : k < n * n) : PlS n k (iw (plX n k)) (iw (plY n k)) true := ⟨fun w => by
  have P := placeS h1 h8 hk
  have L1 : LieM n 1 8 true := lieM_yes (by omega) (by omega)
  obtain ⟨N, hN⟩ : ∃ N : Nat, N = n * n := ⟨_, rfl⟩
  have hN64 : N ≤ 64 := by rw [hN]; exact Nat.le_trans (Nat.mul_le_mul h8 h8) (by omega)
  have hNN : (n : Int) * (n : Int) = (N : Int) := by rw [hN]; simp
  have L2 : LieM k 0 ((N : Int) - 1) true := lieM_yes (by omega) (by omega)
  generalize iw (plX n k) = x at P ⊢
  generalize iw (plY n k) = y at P ⊢
  clear hN hk
  go_enter Try.func47, Try.ntmps47
  go_wp2_with (first | (go_at_call 112; (first | (with_reducible refine (L1.call _).mono ?_) | (with_reducible refine (L2.call _).mono ?_)); rintro e w1 ⟨rfl, hb⟩; obtain ⟨hc, hf⟩ := bcell hb; have HL := keepL (by (repeat (first | (with_reducible assumption) | (with_reducible apply AllLt.alloc) | (with_reducible apply AllLt.setCell) | (with_reducible apply AllLt.drew) | (with_reducible exact AllLt.nil _)))) hb; have hq := HL; simp only [AllLt, and_true, World.size_alloc, World.size_setCell, World.size_drew] at hq; have hbs := hb.size; try simp only [World.size_alloc, World.size_setCell, World.size_drew] at hbs) | (go_at_call 116; refine (P.call _).mono ?_; rintro e w1 ⟨rfl, hb⟩; obtain ⟨hc, hf⟩ := bcell hb; have HL := keepL (by (repeat (first | (with_reducible assumption) | (with_reducible apply AllLt.alloc) | (with_reducible apply AllLt.setCell) | (with_reducible apply AllLt.drew) | (with_reducible exact AllLt.nil _)))) hb; have hq := HL; simp only [AllLt, and_true, World.size_alloc, World.size_setCell, World.size_drew] at hq; have hbs := hb.size; try simp only [World.size_alloc, World.size_setCell, World.size_drew] at hbs))
  go_ret2
  exact ⟨rfl, by (repeat' (first | (with_reducible exact Below.refl _ _) | (with_reducible assumption) | (with_reducible refine Below.alloc ?_ ?_ _) | (with_reducible refine Below.drew ?_) | (with_reducible refine Below.setCell ?_ ?_ _) | (with_reducible refine Below.trans ?_ (Below.mono (by assumption) ?_)) | (with_reducible exact Nat.le_refl _) | omega | (simp only [World.size_alloc, World.size_setCell, World.size_drew]; omega) | (simp; omega) | (simp; done)))⟩⟩
set_option maxHeartbeats 4000000 in
theorem plS_no {n k : Int} (h : cellB n k = false) : PlS n k 0 0 false := ⟨fun w => by
  by_cases hn : 1 ≤ n ∧ n ≤ 8
  · have L1 : LieM n 1 8 true := lieM_yes hn.1 hn.2
    obtain ⟨m, rfl, h1, h8⟩ := size_cases (n := n) (by unfold sizeB; simp; omega)
    obtain ⟨N, hN⟩ : ∃ N : Nat, N = m * m := ⟨_, rfl⟩
    have hN64 : N ≤ 64 := by rw [hN]; exact Nat.le_trans (Nat.mul_le_mul h8 h8) (by omega)
    have hNN : (m : Int) * (m : Int) = (N : Int) := by rw [hN]; simp
    have L2 : LieM k 0 ((N : Int) - 1) false := lieM_no (fun hk => by
      have hc : cellB (m : Int) k = true := by
        unfold cellB sizeB
        rw [hNN]
        simp
        omega
      rw [hc] at h
      exact absurd h (by decide))
    clear h hN
    go_enter Try.func47, Try.ntmps47
    go_wp2_with (first | (go_at_call 112; (first | (with_reducible refine (L1.call _).mono ?_) | (with_reducible refine (L2.call _).mono ?_)); rintro e w1 ⟨rfl, hb⟩; obtain ⟨hc, hf⟩ := bcell hb; have HL := keepL (by (repeat (first | (with_reducible assumption) | (with_reducible apply AllLt.alloc) | (with_reducible apply AllLt.setCell) | (with_reducible apply AllLt.drew) | (with_reducible exact AllLt.nil _)))) hb; have hq := HL; simp only [AllLt, and_true, World.size_alloc, World.size_setCell, World.size_drew] at hq; have hbs := hb.size; try simp only [World.size_alloc, World.size_setCell, World.size_drew] at hbs))
    go_ret2
    exact ⟨rfl, by (repeat' (first | (with_reducible exact Below.refl _ _) | (with_reducible assumption) | (with_reducible refine Below.alloc ?_ ?_ _) | (with_reducible refine Below.drew ?_) | (with_reducible refine Below.setCell ?_ ?_ _) | (with_reducible refine Below.trans ?_ (Below.mono (by assumption) ?_)) | (with_reducible exact Nat.le_refl _) | omega | (simp only [World.size_alloc, World.size_setCell, World.size_drew]; omega) | (simp; omega) | (simp; done)))⟩
  · have L1 : LieM n 1 8 false := lieM_no hn
    clear h hn
    go_enter Try.func47, Try.ntmps47
    go_wp2_with (first | (go_at_call 112; refine (L1.call _).mono ?_; rintro e w1 ⟨rfl, hb⟩; obtain ⟨hc, hf⟩ := bcell hb; have HL := keepL (by (repeat (first | (with_reducible assumption) | (with_reducible apply AllLt.alloc) | (with_reducible apply AllLt.setCell) | (with_reducible apply AllLt.drew) | (with_reducible exact AllLt.nil _)))) hb; have hq := HL; simp only [AllLt, and_true, World.size_alloc, World.size_setCell, World.size_drew] at hq; have hbs := hb.size; try simp only [World.size_alloc, World.size_setCell, World.size_drew] at hbs))
    go_ret2
    exact ⟨rfl, by (repeat' (first | (with_reducible exact Below.refl _ _) | (with_reducible assumption) | (with_reducible refine Below.alloc ?_ ?_ _) | (with_reducible refine Below.drew ?_) | (with_reducible refine Below.setCell ?_ ?_ _) | (with_reducible refine Below.trans ?_ (Below.mono (by assumption) ?_)) | (with_reducible exact Nat.le_refl _) | omega | (simp only [World.size_alloc, World.size_setCell, World.size_drew]; omega) | (simp; omega) | (simp; done)))⟩⟩
end Go.Proofs.Ytlnikapkheldeaa

/-
  What a picture looks like when it is read as data.
-/
namespace Go.Proofs.Ytlnikapkheldeaa
open Go.ChangeShapes Go.WideShapes Go.ChangeAt Go.RowKit Go.Joins
set_option linter.unusedSimpArgs false
set_option linter.unusedVariables false
set_option maxRecDepth 100000
attribute [local go_sem] store_f
open Go.Deep

section
variable {H : Type} {enc : TypeId × Value → H} {W : World} {base : Nat} {spare : Nat → Bool} {held : Bool} {v : Value} {d : DataW H} {p : List MemPlace}

theorem word32 {b : Nat} (h : (Lit.float .f32 b).wf = true) : b < 4294967296 := by
  simp [Go.Lit.wf] at h; exact h
set_option maxRecDepth 100000 in
theorem one_float {n : Nat} {v : Value} {x : DataW H × List MemPlace} (h : DataW.trod enc Try.prog W base spare held n 47 [v] = some x) : ∃ b : Nat, v = .float .f32 b ∧ b < 4294967296 := by
  cases n with
  | zero => simp [DataW.trod] at h
  | succ n =>
    unfold DataW.trod at h
    rw [Try.underlying47] at h
    split at h <;> simp_all
    rename_i hv
    obtain ⟨⟨rfl, hw⟩, _⟩ := h
    subst hv
    exact word32 hw
set_option maxRecDepth 100000 in
theorem three_cells {n : Nat} {c0 c1 c2 : Value} {x : DataW H × List MemPlace} (h : DataW.trod enc Try.prog W 0 spare held n 181 [c0, c1, c2] = some x) :
    ∃ c : Lit, c0 = .float .f32 c.r ∧ c1 = .float .f32 c.g ∧ c2 = .float .f32 c.b ∧ c.W := by
  have hone : oneCellFields Try.prog (Try.prog.fieldsOf 181) = true := by kernel_rfl
  have hu : Try.prog.underlying 181 = some (.struct (Try.prog.fieldsOf 181)) := by kernel_rfl
  obtain ⟨ys, n', _, _, _, hyl, hf⟩ := DataW.trod_struct hu h
  have g0 := hf 0 _ rfl
  have g1 := hf 1 _ rfl
  have g2 := hf 2 _ rfl
  obtain ⟨o0, k0⟩ := hone_of hone 0 _ rfl
  obtain ⟨o1, k1⟩ := hone_of hone 1 _ rfl
  obtain ⟨o2, k2⟩ := hone_of hone 2 _ rfl
  rw [o0, k0] at g0
  rw [o1, k1] at g1
  rw [o2, k2] at g2
  have hl3 : ys.length = 3 := hyl
  simp only [List.drop_zero, List.drop_succ_cons, List.take_succ_cons, List.take_zero] at g0 g1 g2
  rw [List.getElem?_eq_getElem (by omega)] at g0 g1 g2
  obtain ⟨r, rfl, w0⟩ := one_float g0
  obtain ⟨g, rfl, w1⟩ := one_float g1
  obtain ⟨b, rfl, w2⟩ := one_float g2
  exact ⟨⟨r, g, b⟩, rfl, rfl, rfl, w0, w1, w2⟩
theorem len3 {cs : List Value} (h : cs.length = 3) : ∃ c0 c1 c2, cs = [c0, c1, c2] := by
  match cs, h with
  | [c0, c1, c2], _ => exact ⟨c0, c1, c2, rfl⟩

/-- A list out of what stands at each place. -/
theorem list_of {P : Nat → Lit → Prop} : ∀ (n : Nat), (∀ i, i < n → ∃ c, P i c) → ∃ l : List Lit, l.length = n ∧ ∀ i, i < n → P i (l.getD i default)
  | 0, _ => ⟨[], rfl, fun i hi => absurd hi (by omega)⟩
  | n + 1, h => by
    obtain ⟨l, hl, hi⟩ := list_of n (fun i hi => h i (by omega))
    obtain ⟨c, hc⟩ := h n (by omega)
    refine ⟨l ++ [c], by simp [hl], fun i hin => ?_⟩
    rcases (by omega : i < n ∨ i = n) with h1 | rfl
    · have e : (l ++ [c]).getD i default = l.getD i default := by simp [List.getD, show i < l.length by omega, show i < l.length + 1 by omega, List.getElem_append_left]
      rw [e]; exact hi i h1
    · have e : (l ++ [c]).getD i default = c := by subst hl; simp [List.getD]
      rw [e]; exact hc

set_option maxRecDepth 100000 in
theorem open_lpic (hok : Value.okWide Try.prog W .any base 69 v) (h : DataW.Trod enc Try.prog W 0 spare held 69 v d p) :
    ∃ (n : Int) (a : Option Addr) (cap : Nat) (l : List Lit), v = .agg #[.int .i64 n, .slice a l.length cap] ∧ -9223372036854775808 ≤ n ∧ n ≤ 9223372036854775807 ∧ LitsAt W a l ∧ (∀ c ∈ l, c.W) ∧ l.length ≤ cap ∧ cap ≤ 9223372036854775807 := by
  obtain ⟨c0, c1, y0, y1, m, rfl, rfl, rfl, hy0, hy1⟩ := Go.Joins.open_agg2 Try.underlying69 (by kernel_rfl) (by kernel_rfl) hok h
  obtain ⟨n, e0, rfl, wn⟩ := DataW.trod_int Try.underlying3 hy0
  simp at e0
  subst e0
  have wn' := wf_i64 wn
  rcases open_slice Try.underlying67 hy1 with ⟨e, _⟩ | ⟨a, len, cap, mm, k, D, Pl, e, _, hlc, hcm, hmm, _, hi⟩
  · simp at e
    subst e
    exact ⟨n, Option.none, 0, [], rfl, wn'.1, wn'.2, .inl rfl, by simp, by simp, by omega⟩
  · simp at e
    subst e
    have hC : Try.prog.cellsOf 181 = 3 := by kernel_rfl
    have hlm : len ≤ mm := by rw [hmm]; split <;> omega
    have key : ∀ i, i < len → ∃ c : Lit, (W.cell? (a.add (i * 3)) = some (.float .f32 c.r) ∧ W.cell? (a.add (i * 3 + 1)) = some (.float .f32 c.g) ∧ W.cell? (a.add (i * 3 + 2)) = some (.float .f32 c.b)) ∧ c.W := by
      intro i hil
      obtain ⟨cs, hc, ht⟩ := hi i (by omega)
      rw [hC] at hc
      obtain ⟨_, hl3, hat⟩ := World.cells?_some hc
      obtain ⟨u0, u1, u2, rfl⟩ := len3 hl3
      obtain ⟨c, rfl, rfl, rfl, hw⟩ := three_cells ht
      have a0 := hat 0 (by omega)
      have a1 := hat 1 (by omega)
      have a2 := hat 2 (by omega)
      rw [add_add] at a0 a1 a2
      exact ⟨c, ⟨a0, a1, a2⟩, hw⟩
    obtain ⟨l, hl, hP⟩ := list_of len key
    unfold maxLen at hcm
    have hW : ∀ c ∈ l, c.W := fun c hc => by
      obtain ⟨i, hi', rfl⟩ := List.mem_iff_getElem.1 hc
      have := (hP i (by omega)).2
      simpa [List.getD, hi'] using this
    refine ⟨n, some a, cap, l, by rw [hl], wn'.1, wn'.2, ?_, hW, by omega, by omega⟩
    by_cases h0 : len = 0
    · left
      exact List.eq_nil_of_length_eq_zero (by omega)
    · obtain ⟨b, off, spot⟩ := a
      have hspot : spot = Option.none := by
        have := World.cell?_spot (hP 0 (by omega)).1.1
        simpa [Addr.add] using this
      subst hspot
      refine .inr ⟨b, off, rfl, fun i hil => ?_⟩
      have := (hP i (by omega)).1
      simp only [Go.WideShapes.add_plain] at this
      rw [show off + i * 3 + 1 = off + (i * 3 + 1) by omega, show off + i * 3 + 2 = off + (i * 3 + 2) by omega]
      exact this
end
end Go.Proofs.Ytlnikapkheldeaa
