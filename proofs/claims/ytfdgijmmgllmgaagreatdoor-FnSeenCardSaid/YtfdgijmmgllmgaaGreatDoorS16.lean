/-
  Texts Gk Gt Ceq, joined.
-/
import Derived.Test.YtfdgijmmgllmgaaGreatDoorS12
import Derived.Test.YtfdgijmmgllmgaaGreatDoorS15
import Derived.Test.YtfdgijmmgllmgaaGreatDoorS05
import Derived.Test.YtfdgijmmgllmgaaGreatDoorS10
import Derived.Deep.RegionHeld3
namespace Go.Proofs.YtfdgijmmgllmgaaGreatDoor
open Go.ChangeShapes Go.WideShapes Go.ChangeAt Go.RowKit Go.Joins
set_option linter.unusedSimpArgs false
set_option linter.unusedVariables false
set_option maxRecDepth 100000
attribute [local go_sem] store_f
open Ieee
attribute [local go_sem] store_c
def passC (s : Shd) (c : Lit) : Lit := ⟨mixB (mulB c.r s.r) c.r s.k, mixB (mulB c.g s.g) c.g s.k, mixB (mulB c.b s.b) c.b s.k⟩
def stepC (x y : Nat) (c : Lit) (s : Shd) : Lit := if inSh s x y then passC s c else c
def lightOf (x y : Nat) (l : List Shd) (c : Lit) : Lit := l.foldl (stepC x y) c
theorem passC_ok {s : Shd} {c : Lit} (hs : s.Ok) (hc : c.Ok) : (passC s c).Ok :=
  ⟨mixB_le ((Part.mul (.inl hc.r) hs.r)) (.inl hc.r) hs.k, mixB_le ((Part.mul (.inl hc.g) hs.g)) (.inl hc.g) hs.k, mixB_le ((Part.mul (.inl hc.b) hs.b)) (.inl hc.b) hs.k⟩
theorem stepC_ok {x y : Nat} {s : Shd} {c : Lit} (hs : s.Ok) (hc : c.Ok) : (stepC x y c s).Ok := by
  unfold stepC; split
  · exact passC_ok hs hc
  · exact hc
theorem lightOf_nil (x y : Nat) (c : Lit) : lightOf x y [] c = c := by unfold lightOf; rw [List.foldl_nil]
theorem lightOf_cons (x y : Nat) (s : Shd) (l : List Shd) (c : Lit) : lightOf x y (s :: l) c = lightOf x y l (stepC x y c s) := by unfold lightOf; rw [List.foldl_cons]
theorem lightOf_append (x y : Nat) (l m : List Shd) (c : Lit) : lightOf x y (l ++ m) c = lightOf x y m (lightOf x y l c) := by unfold lightOf; rw [List.foldl_append]
theorem lightOf_ok {x y : Nat} (l : List Shd) : ∀ {c : Lit}, (∀ s ∈ l, s.Ok) → c.Ok → (lightOf x y l c).Ok := by
  induction l with
  | nil => intro c _ hc; rw [lightOf_nil]; exact hc
  | cons s l ih =>
    intro c h hc
    rw [lightOf_cons]
    exact ih (fun t ht => h t (List.mem_cons_of_mem _ ht)) (stepC_ok (h s (List.mem_cons_self ..)) hc)
theorem lightOf_snoc {x y : Nat} {l : List Shd} {c : Lit} {j : Nat} (h : j < l.length) : lightOf x y (l.take (j + 1)) c = stepC x y (lightOf x y (l.take j) c) (l.getD j default) := by
  have e : l.getD j default = l[j] := by simp [List.getD, h]
  rw [List.take_succ_eq_append_getElem h, lightOf_append, lightOf_cons, lightOf_nil, e]
theorem stepC_no {x y : Nat} {c : Lit} {s : Shd} (h : inSh s x y = false) : stepC x y c s = c := by
  unfold stepC; rw [h]; exact if_neg (by decide)
theorem stepC_yes {x y : Nat} {c : Lit} {s : Shd} (h : inSh s x y = true) : stepC x y c s = passC s c := by
  unfold stepC; rw [h]; exact if_pos rfl
structure FilM (a b c x y z p q r : Nat) : Prop where
  call : ∀ w : World, Calls Tryz.prog 82 #[.agg #[.float .f32 a, .float .f32 b, .float .f32 c], .agg #[.float .f32 x, .float .f32 y, .float .f32 z]] w fun e w' => e = .returned (.agg #[.float .f32 p, .float .f32 q, .float .f32 r]) ∧ Below w.heap.size w w'
structure MixN (a b c x y z k p q r : Nat) : Prop where
  call : ∀ w : World, Calls Tryz.prog 81 #[.agg #[.float .f32 a, .float .f32 b, .float .f32 c], .agg #[.float .f32 x, .float .f32 y, .float .f32 z], .float .f32 k] w fun e w' => e = .returned (.agg #[.float .f32 p, .float .f32 q, .float .f32 r]) ∧ Below w.heap.size w w'
theorem filM {a b c x y z : Nat} (ha : Part a) (hb : Part b) (hc : Part c) (hx : Part x) (hy : Part y) (hz : Part z) : FilM a b c x y z (mulB a x) (mulB b y) (mulB c z) :=
  ⟨fun w => filter_i_yes a b c x y z ha hb hc hx hy hz w⟩
theorem mixN {a b c x y z k : Nat} (pa : Part a) (pb : Part b) (pc : Part c) (px : Part x) (py : Part y) (pz : Part z) (pk : Part k) : MixN a b c x y z k (mixB a x k) (mixB b y k) (mixB c z k) := by
  have iA : AreC a b c x y z true := ⟨fun w => by
    have h := areColours_i a b c x y z w
    rw [parts_colB pa pb pc, parts_colB px py pz] at h
    exact h⟩
  have iK : ShaI k true := ⟨fun w => part_share pk ▸ isShare_i k w⟩
  exact ⟨fun w => mix_i_yes a b c x y z k _ _ _ _ _ _ iA iK ⟨fun w => differenceOf_p part_one pk w⟩ (wide_bits (part_less pk).fin) (wide_bits pk.fin) ⟨fun w => pairsOf_i a b c x y z w⟩ ⟨fun qa qb w ca cb => eachMix_of (mixI pa px pk) (mixI pb py pk) (mixI pc pz pk) qa qb w ca cb⟩ ⟨fun w => colourOf_i _ _ _ w⟩ w⟩
structure StepM (x y : Nat) (c : Lit) (s : Shd) (d : Lit) : Prop where
  call : ∀ (q : Nat) (w : World), w.cell? ⟨q, 0, Option.none⟩ = some (.complex .f32 x y) → Calls Tryz.prog 79 #[.agg #[.float .f32 c.r, .float .f32 c.g, .float .f32 c.b], .agg #[.complex .f32 s.a1 s.a2, .complex .f32 s.b1 s.b2, .complex .f32 s.c1 s.c2, .float .f32 s.r, .float .f32 s.g, .float .f32 s.b, .float .f32 s.k], .pointer (some ⟨q, 0, Option.none⟩)] w fun e w' =>
    e = .returned (.agg #[.float .f32 d.r, .float .f32 d.g, .float .f32 d.b]) ∧ Below w.heap.size w w'
set_option maxHeartbeats 8000000 in
theorem step_no {x y : Nat} {c : Lit} {s : Shd} (I : InIs s x y false) : StepM x y c s c := ⟨fun q w hq => by
  have HQ : Hid (w.cell? ⟨q, 0, Option.none⟩ = some (.complex .f32 x y)) := hq
  clear hq
  go_enter Tryz.func79, Tryz.ntmps79
  generalize hW : ((w.alloc (.cells #[.float .f32 c.r, .float .f32 c.g, .float .f32 c.b] 26)).alloc (.cells #[.complex .f32 s.a1 s.a2, .complex .f32 s.b1 s.b2, .complex .f32 s.c1 s.c2, .float .f32 s.r, .float .f32 s.g, .float .f32 s.b, .float .f32 s.k] 36)).alloc (.cells #[.float .f32 0, .float .f32 0, .float .f32 0] 26) = X
  have C0 : Hid (Blk X w.heap.size #[.float .f32 c.r, .float .f32 c.g, .float .f32 c.b] 26) := by rw [← hW]; exact ((Blk.new _ _ _).alloc).alloc
  have R0 : Hid (Blk X (w.heap.size + 1 + 1) #[.float .f32 0, .float .f32 0, .float .f32 0] 26) := by rw [← hW]; exact Blk.newAt (by simp)
  have Q0 : Hid (X.cell? ⟨q, 0, Option.none⟩ = some (.complex .f32 x y)) := by rw [← hW]; exact cAlloc (cAlloc (cAlloc HQ.out))
  have hB : Below w.heap.size w X := by rw [← hW]; (repeat' (first | (with_reducible exact Below.refl _ _) | (with_reducible assumption) | (with_reducible refine Below.alloc ?_ ?_ _) | (with_reducible refine Below.drew ?_) | (with_reducible refine Below.setCell ?_ ?_ _) | (with_reducible refine Below.trans ?_ (Below.mono (by assumption) ?_)) | (with_reducible exact Nat.le_refl _) | omega | (simp only [World.size_alloc, World.size_setCell, World.size_drew]; omega) | (simp; omega) | (simp; done)))
  have hsz : X.heap.size = w.heap.size + 3 := by rw [← hW]; simp
  have HB : Hid (Below w.heap.size w X) := hB
  have q0 := Q0.out
  clear hB
  subst hW
  go_wp2_with fail
  refine (I.call _).mono ?_
  rintro e w1 ⟨rfl, hb⟩
  have C1 : Hid (Blk w1 w.heap.size #[.float .f32 c.r, .float .f32 c.g, .float .f32 c.b] 26) := C0.out.below hb
  have R1 : Hid (Blk w1 (w.heap.size + 1 + 1) #[.float .f32 0, .float .f32 0, .float .f32 0] 26) := R0.out.below hb
  have hb1 : Below w.heap.size w w1 := HB.out.trans (hb.mono (by simp; omega))
  have HB1 : Hid (Below w.heap.size w w1) := hb1
  have hl := R1.out.lt
  clear hb hb1 C0 R0 Q0 HB q0
  have d0 := Blk.cellAt (i := 0) C1.out rfl
  have d1 := Blk.cellAt (i := 1) C1.out rfl
  have d2 := Blk.cellAt (i := 2) C1.out rfl
  have o0 := Blk.cellAt (i := 0) R1.out rfl
  have o1 := Blk.cellAt (i := 1) R1.out rfl
  have o2 := Blk.cellAt (i := 2) R1.out rfl
  have f0 := R1.out.free 0
  have f1 := R1.out.free 1
  have f2 := R1.out.free 2
  simp only [List.getElem_toArray, List.getElem_cons_zero, List.getElem_cons_succ] at d0 d1 d2 o0 o1 o2
  go_wp2
  have hbb := HB1.out
  (have d0 := (R1.out.set (i := 0) (v := .float .f32 c.r)).cell 0; have d1 := ((R1.out.set (i := 0) (v := .float .f32 c.r)).set (i := 1) (v := .float .f32 c.g)).cell 1; have d2 := (((R1.out.set (i := 0) (v := .float .f32 c.r)).set (i := 1) (v := .float .f32 c.g)).set (i := 2) (v := .float .f32 c.b)).cell 2; simp only [List.setIfInBounds_toArray, List.set_cons_zero, List.set_cons_succ, List.getElem?_toArray, List.getElem?_cons_zero, List.getElem?_cons_succ] at d0 d1 d2; exact bodyPost_ret (v := .agg #[.float .f32 c.r, .float .f32 c.g, .float .f32 c.b]) (by simp [results, Tryz.results79, go_sem, d0, d1, d2]) rfl ⟨rfl, by (repeat' (first | (with_reducible exact Below.refl _ _) | (with_reducible assumption) | (with_reducible refine Below.alloc ?_ ?_ _) | (with_reducible refine Below.drew ?_) | (with_reducible refine Below.setCell ?_ ?_ _) | (with_reducible refine Below.trans ?_ (Below.mono (by assumption) ?_)) | (with_reducible exact Nat.le_refl _) | omega | (simp only [World.size_alloc, World.size_setCell, World.size_drew]; omega) | (simp; omega) | (simp; done)))⟩)⟩
set_option maxHeartbeats 8000000 in
theorem step_yes {x y f1 f2 f3 : Nat} {c d : Lit} {s : Shd} (I : InIs s x y true) (F : FilM c.r c.g c.b s.r s.g s.b f1 f2 f3) (M : MixN f1 f2 f3 c.r c.g c.b s.k d.r d.g d.b) : StepM x y c s d := ⟨fun q w hq => by
  have HQ : Hid (w.cell? ⟨q, 0, Option.none⟩ = some (.complex .f32 x y)) := hq
  clear hq
  go_enter Tryz.func79, Tryz.ntmps79
  generalize hW : ((w.alloc (.cells #[.float .f32 c.r, .float .f32 c.g, .float .f32 c.b] 26)).alloc (.cells #[.complex .f32 s.a1 s.a2, .complex .f32 s.b1 s.b2, .complex .f32 s.c1 s.c2, .float .f32 s.r, .float .f32 s.g, .float .f32 s.b, .float .f32 s.k] 36)).alloc (.cells #[.float .f32 0, .float .f32 0, .float .f32 0] 26) = X
  have C0 : Hid (Blk X w.heap.size #[.float .f32 c.r, .float .f32 c.g, .float .f32 c.b] 26) := by rw [← hW]; exact ((Blk.new _ _ _).alloc).alloc
  have S0 : Hid (Blk X (w.heap.size + 1) #[.complex .f32 s.a1 s.a2, .complex .f32 s.b1 s.b2, .complex .f32 s.c1 s.c2, .float .f32 s.r, .float .f32 s.g, .float .f32 s.b, .float .f32 s.k] 36) := by rw [← hW]; exact (Blk.newAt (by simp)).alloc
  have R0 : Hid (Blk X (w.heap.size + 1 + 1) #[.float .f32 0, .float .f32 0, .float .f32 0] 26) := by rw [← hW]; exact Blk.newAt (by simp)
  have Q0 : Hid (X.cell? ⟨q, 0, Option.none⟩ = some (.complex .f32 x y)) := by rw [← hW]; exact cAlloc (cAlloc (cAlloc HQ.out))
  have hB : Below w.heap.size w X := by rw [← hW]; (repeat' (first | (with_reducible exact Below.refl _ _) | (with_reducible assumption) | (with_reducible refine Below.alloc ?_ ?_ _) | (with_reducible refine Below.drew ?_) | (with_reducible refine Below.setCell ?_ ?_ _) | (with_reducible refine Below.trans ?_ (Below.mono (by assumption) ?_)) | (with_reducible exact Nat.le_refl _) | omega | (simp only [World.size_alloc, World.size_setCell, World.size_drew]; omega) | (simp; omega) | (simp; done)))
  have hsz : X.heap.size = w.heap.size + 3 := by rw [← hW]; simp
  have HB : Hid (Below w.heap.size w X) := hB
  have q0 := Q0.out
  clear hB
  subst hW
  go_wp2_with fail
  refine (I.call _).mono ?_
  rintro e w1 ⟨rfl, hb⟩
  have C1 : Hid (Blk w1 w.heap.size #[.float .f32 c.r, .float .f32 c.g, .float .f32 c.b] 26) := C0.out.below hb
  have S1 : Hid (Blk w1 (w.heap.size + 1) #[.complex .f32 s.a1 s.a2, .complex .f32 s.b1 s.b2, .complex .f32 s.c1 s.c2, .float .f32 s.r, .float .f32 s.g, .float .f32 s.b, .float .f32 s.k] 36) := S0.out.below hb
  have R1 : Hid (Blk w1 (w.heap.size + 1 + 1) #[.float .f32 0, .float .f32 0, .float .f32 0] 26) := R0.out.below hb
  have hb1 : Below w.heap.size w w1 := HB.out.trans (hb.mono (by simp; omega))
  have HB1 : Hid (Below w.heap.size w w1) := hb1
  have hl := R1.out.lt
  clear hb hb1 C0 R0 S0 Q0 HB q0
  have d0 := Blk.cellAt (i := 0) C1.out rfl
  have d1 := Blk.cellAt (i := 1) C1.out rfl
  have d2 := Blk.cellAt (i := 2) C1.out rfl
  have e3 := Blk.cellAt (i := 3) S1.out rfl
  have e4 := Blk.cellAt (i := 4) S1.out rfl
  have e5 := Blk.cellAt (i := 5) S1.out rfl
  have e6 := Blk.cellAt (i := 6) S1.out rfl
  simp only [List.getElem_toArray, List.getElem_cons_zero, List.getElem_cons_succ] at d0 d1 d2 e3 e4 e5 e6
  go_wp2_with fail
  go_region_held3 (fun wx => wx.cell? ⟨w.heap.size, 0, Option.none⟩ = some (.float .f32 (c.r)) ∧ wx.cell? ⟨w.heap.size, 1, Option.none⟩ = some (.float .f32 (c.g)) ∧ wx.cell? ⟨w.heap.size, 2, Option.none⟩ = some (.float .f32 (c.b)) ∧ wx.cell? ⟨w.heap.size + 1, 3, Option.none⟩ = some (.float .f32 s.r) ∧ wx.cell? ⟨w.heap.size + 1, 4, Option.none⟩ = some (.float .f32 s.g) ∧ wx.cell? ⟨w.heap.size + 1, 5, Option.none⟩ = some (.float .f32 s.b) ∧ wx.cell? ⟨w.heap.size + 1, 6, Option.none⟩ = some (.float .f32 s.k))
    (((repeat' apply And.intro) <;> first | (with_reducible assumption) | (((repeat (first | (with_reducible assumption) | (with_reducible exact cNewAt (by first | rfl | (simp only [World.size_alloc, World.size_setCell, World.size_drew]; done) | omega) rfl) | (with_reducible exact sNewAt (by first | rfl | (simp only [World.size_alloc, World.size_setCell, World.size_drew]; done) | omega) rfl) | (simp; done) | (with_reducible apply cAlloc) | (with_reducible apply cDrew) | (with_reducible refine cSet (by dsimp only; omega) ?_) | (with_reducible refine cSetOff (by dsimp only; omega) ?_) | (with_reducible apply cSame) | (with_reducible refine cBelow (by assumption) ?_) | (with_reducible apply sAlloc) | (with_reducible apply sDrew) | (with_reducible refine sBelow (by assumption) ?_) | (with_reducible refine sSet (by dsimp only; omega) ?_))); first | done | (simp [*]; done)); done) | (simp only [World.size_alloc, World.size_setCell, World.size_drew]; omega) | omega | (go_keep; done) | ((repeat' (first | (with_reducible exact Below.refl _ _) | (with_reducible assumption) | (with_reducible refine Below.alloc ?_ ?_ _) | (with_reducible refine Below.drew ?_) | (with_reducible refine Below.setCell ?_ ?_ _) | (with_reducible refine Below.trans ?_ (Below.mono (by assumption) ?_)) | (with_reducible exact Nat.le_refl _) | omega | (simp only [World.size_alloc, World.size_setCell, World.size_drew]; omega) | (simp; omega) | (simp; done))); done)))
    (first | (go_at_call 82; (with_reducible refine (F.call _).mono ?_); rintro e w4 ⟨rfl, hb⟩; have R4 : Hid (Blk w4 (w.heap.size + 1 + 1) #[.float .f32 0, .float .f32 0, .float .f32 0] 26) := Blk.below (Blk.drew R1.out) hb; have B4 : Hid (Below w.heap.size w w4) := HB1.out.drew.trans (hb.mono (by simp; omega))) | (go_at_call 81; (with_reducible refine (M.call _).mono ?_); rintro e w5 ⟨rfl, hb⟩; have R5 : Hid (Blk w5 (w.heap.size + 1 + 1) #[.float .f32 0, .float .f32 0, .float .f32 0] 26) := Blk.below R4.out hb; have B5 : Hid (Below w.heap.size w w5) := B4.out.trans (hb.mono (by have := R4.out.lt; omega)); have o0 := Blk.cellAt (i := 0) R5.out rfl; have o1 := Blk.cellAt (i := 1) R5.out rfl; have o2 := Blk.cellAt (i := 2) R5.out rfl; have f0 := R5.out.free 0; have f1 := R5.out.free 1; have f2 := R5.out.free 2; simp only [List.getElem_toArray, List.getElem_cons_zero, List.getElem_cons_succ] at o0 o1 o2))
  all_goals
    rename_i hHeld
    clear hHeld
    go_wp2
    have hbb := B5.out
    (have d0 := (R5.out.set (i := 0) (v := .float .f32 d.r)).cell 0; have d1 := ((R5.out.set (i := 0) (v := .float .f32 d.r)).set (i := 1) (v := .float .f32 d.g)).cell 1; have d2 := (((R5.out.set (i := 0) (v := .float .f32 d.r)).set (i := 1) (v := .float .f32 d.g)).set (i := 2) (v := .float .f32 d.b)).cell 2; simp only [List.setIfInBounds_toArray, List.set_cons_zero, List.set_cons_succ, List.getElem?_toArray, List.getElem?_cons_zero, List.getElem?_cons_succ] at d0 d1 d2; exact bodyPost_ret (v := .agg #[.float .f32 d.r, .float .f32 d.g, .float .f32 d.b]) (by simp [results, Tryz.results79, go_sem, d0, d1, d2]) rfl ⟨rfl, by (repeat' (first | (with_reducible exact Below.refl _ _) | (with_reducible assumption) | (with_reducible refine Below.alloc ?_ ?_ _) | (with_reducible refine Below.drew ?_) | (with_reducible refine Below.setCell ?_ ?_ _) | (with_reducible refine Below.trans ?_ (Below.mono (by assumption) ?_)) | (with_reducible exact Nat.le_refl _) | omega | (simp only [World.size_alloc, World.size_setCell, World.size_drew]; omega) | (simp; omega) | (simp; done)))⟩)⟩
end Go.Proofs.YtfdgijmmgllmgaaGreatDoor
namespace Go.Proofs.YtfdgijmmgllmgaaGreatDoor
open Go.ChangeShapes Go.WideShapes Go.ChangeAt Go.RowKit Go.Joins
set_option linter.unusedSimpArgs false
set_option linter.unusedVariables false
set_option maxRecDepth 100000
attribute [local go_sem] store_f
open Ieee
attribute [local go_sem] store_c
structure FoldSh (a : Option Addr) (n cap : Nat) (l : List Shd) (x y : Nat) (c d : Lit) : Prop where
  call : ∀ (q : Nat) (w : World), RowAt w a l → w.cell? ⟨q, 0, Option.none⟩ = some (.complex .f32 x y) → Calls Tryz.prog 78 #[.slice a n cap, .agg #[.float .f32 c.r, .float .f32 c.g, .float .f32 c.b], .func (.func 79) #[] #[.pointer (some ⟨q, 0, Option.none⟩)]] w fun e w' =>
    e = .returned (.agg #[.float .f32 d.r, .float .f32 d.g, .float .f32 d.b]) ∧ Below w.heap.size w w'
structure SeenIs (a : Option Addr) (n cap : Nat) (l : List Shd) (x y : Nat) (c d : Lit) : Prop where
  call : ∀ (w : World), RowAt w a l → Calls Tryz.prog 48 #[.slice a n cap, .complex .f32 x y, .agg #[.float .f32 c.r, .float .f32 c.g, .float .f32 c.b]] w fun e w' =>
    e = .returned (.agg #[.float .f32 d.r, .float .f32 d.g, .float .f32 d.b]) ∧ Below w.heap.size w w'
structure AreYes (a : Option Addr) (n cap : Nat) (l : List Shd) : Prop where
  call : ∀ w : World, RowAt w a l → Calls Tryz.prog 42 #[.slice a n cap] w fun e w' => e = .returned (.bool true) ∧ Below w.heap.size w w'
set_option maxHeartbeats 8000000 in
theorem seen_of {a : Option Addr} {n cap x y : Nat} {l : List Shd} {c d : Lit} (A : AreYes a n cap l) (P : PtIs x y true) (C : ColIs c.r c.g c.b true) (F : FoldSh a n cap l x y c d) : SeenIs a n cap l x y c d := ⟨fun w hrow => by
  have HR : Hid (RowAt w a l) := hrow
  clear hrow
  go_enter Tryz.func48, Tryz.ntmps48
  go_wp2_with fail
  generalize hW : ((w.alloc (.cells #[.complex .f32 x y] 28)).alloc (.cells #[.float .f32 c.r, .float .f32 c.g, .float .f32 c.b] 26)).alloc (.cells #[.float .f32 0, .float .f32 0, .float .f32 0] 26) = X
  have P0 : Hid (Blk X w.heap.size #[.complex .f32 x y] 28) := by rw [← hW]; exact ((Blk.new _ _ _).alloc).alloc
  have C0 : Hid (Blk X (w.heap.size + 1) #[.float .f32 c.r, .float .f32 c.g, .float .f32 c.b] 26) := by rw [← hW]; exact (Blk.newAt (by simp)).alloc
  have R0 : Hid (Blk X (w.heap.size + 1 + 1) #[.float .f32 0, .float .f32 0, .float .f32 0] 26) := by rw [← hW]; exact Blk.newAt (by simp)
  have hB : Below w.heap.size w X := by rw [← hW]; (repeat' (first | (with_reducible exact Below.refl _ _) | (with_reducible assumption) | (with_reducible refine Below.alloc ?_ ?_ _) | (with_reducible refine Below.drew ?_) | (with_reducible refine Below.setCell ?_ ?_ _) | (with_reducible refine Below.trans ?_ (Below.mono (by assumption) ?_)) | (with_reducible exact Nat.le_refl _) | omega | (simp only [World.size_alloc, World.size_setCell, World.size_drew]; omega) | (simp; omega) | (simp; done)))
  have hsz : X.heap.size = w.heap.size + 3 := by rw [← hW]; simp
  have HB : Hid (Below w.heap.size w X) := hB
  have HR0 : Hid (RowAt X a l) := HR.out.below hB
  clear hW hB HR
  refine (A.call _ HR0.out).mono ?_
  rintro e w1 ⟨rfl, hb⟩
  have P1 : Hid (Blk w1 w.heap.size #[.complex .f32 x y] 28) := P0.out.below hb
  have C1 : Hid (Blk w1 (w.heap.size + 1) #[.float .f32 c.r, .float .f32 c.g, .float .f32 c.b] 26) := C0.out.below hb
  have R1 : Hid (Blk w1 (w.heap.size + 1 + 1) #[.float .f32 0, .float .f32 0, .float .f32 0] 26) := R0.out.below hb
  have HB1 : Hid (Below w.heap.size w w1) := HB.out.trans (hb.mono (by omega))
  have HR1 : Hid (RowAt w1 a l) := HR0.out.below hb
  have hl1 := R1.out.lt
  clear hb P0 C0 R0 HB HR0
  have p0 := Blk.cellAt (i := 0) P1.out rfl
  have d0 := Blk.cellAt (i := 0) C1.out rfl
  have d1 := Blk.cellAt (i := 1) C1.out rfl
  have d2 := Blk.cellAt (i := 2) C1.out rfl
  simp only [List.getElem_toArray, List.getElem_cons_zero, List.getElem_cons_succ] at p0 d0 d1 d2
  go_wp2_with (go_at_call 75; (with_reducible refine (P.call _).mono ?_); rintro e w2 ⟨rfl, rfl⟩)
  refine (C.call _).mono ?_
  rintro e w3 ⟨rfl, hb⟩
  have P3 : Hid (Blk w3 w.heap.size #[.complex .f32 x y] 28) := P1.out.below hb
  have C3 : Hid (Blk w3 (w.heap.size + 1) #[.float .f32 c.r, .float .f32 c.g, .float .f32 c.b] 26) := C1.out.below hb
  have R3 : Hid (Blk w3 (w.heap.size + 1 + 1) #[.float .f32 0, .float .f32 0, .float .f32 0] 26) := R1.out.below hb
  have HB3 : Hid (Below w.heap.size w w3) := HB1.out.trans (hb.mono (by omega))
  have HR3 : Hid (RowAt w3 a l) := HR1.out.below hb
  have hl3 := R3.out.lt
  clear hb P1 C1 R1 HB1 HR1 p0 d0 d1 d2
  have p0 : Hid (w3.cell? ⟨w.heap.size, 0, Option.none⟩ = some (.complex .f32 x y)) := P3.out.cell 0
  have d0 := Blk.cellAt (i := 0) C3.out rfl
  have d1 := Blk.cellAt (i := 1) C3.out rfl
  have d2 := Blk.cellAt (i := 2) C3.out rfl
  simp only [List.getElem_toArray, List.getElem_cons_zero, List.getElem_cons_succ] at d0 d1 d2
  go_wp2_with fail
  refine (F.call _ _ HR3.out p0.out).mono ?_
  rintro e w4 ⟨rfl, hb⟩
  have R4 : Hid (Blk w4 (w.heap.size + 1 + 1) #[.float .f32 0, .float .f32 0, .float .f32 0] 26) := R3.out.below hb
  have HB4 : Hid (Below w.heap.size w w4) := HB3.out.trans (hb.mono (by omega))
  have hl4 := R4.out.lt
  clear hb P3 C3 R3 HB3 HR3 p0 d0 d1 d2
  have o0 := Blk.cellAt (i := 0) R4.out rfl
  have o1 := Blk.cellAt (i := 1) R4.out rfl
  have o2 := Blk.cellAt (i := 2) R4.out rfl
  have f0 := R4.out.free 0
  have f1 := R4.out.free 1
  have f2 := R4.out.free 2
  simp only [List.getElem_toArray, List.getElem_cons_zero, List.getElem_cons_succ] at o0 o1 o2
  go_wp2
  have hbb := HB4.out
  (have d0 := (R4.out.set (i := 0) (v := .float .f32 d.r)).cell 0; have d1 := ((R4.out.set (i := 0) (v := .float .f32 d.r)).set (i := 1) (v := .float .f32 d.g)).cell 1; have d2 := (((R4.out.set (i := 0) (v := .float .f32 d.r)).set (i := 1) (v := .float .f32 d.g)).set (i := 2) (v := .float .f32 d.b)).cell 2; simp only [List.setIfInBounds_toArray, List.set_cons_zero, List.set_cons_succ, List.getElem?_toArray, List.getElem?_cons_zero, List.getElem?_cons_succ] at d0 d1 d2; exact bodyPost_ret (v := .agg #[.float .f32 d.r, .float .f32 d.g, .float .f32 d.b]) (by simp [results, Tryz.results48, go_sem, d0, d1, d2]) rfl ⟨rfl, by (repeat' (first | (with_reducible exact Below.refl _ _) | (with_reducible assumption) | (with_reducible refine Below.alloc ?_ ?_ _) | (with_reducible refine Below.drew ?_) | (with_reducible refine Below.setCell ?_ ?_ _) | (with_reducible refine Below.trans ?_ (Below.mono (by assumption) ?_)) | (with_reducible exact Nat.le_refl _) | omega | (simp only [World.size_alloc, World.size_setCell, World.size_drew]; omega) | (simp; omega) | (simp; done)))⟩)⟩
theorem colYes {r g b : Nat} (hr : Part r) (hg : Part g) (hb : Part b) : ColIs r g b true := by
  have h := colIs r g b
  rwa [parts_col hr hg hb] at h
end Go.Proofs.YtfdgijmmgllmgaaGreatDoor
namespace Go.Proofs.YtfdgijmmgllmgaaGreatDoor
open Go.ChangeShapes Go.WideShapes Go.ChangeAt Go.RowKit Go.Joins
set_option linter.unusedSimpArgs false
set_option linter.unusedVariables false
set_option maxRecDepth 100000
attribute [local go_sem] store_f
open Ieee
theorem run_equalIn_g (P : Program) (w : World) (d : Nat) (t : TypeId) (a b : Nat) (h : P.underlying t = some (.float .f32)) : (Op.equalIn (d + 1) t (.float .f32 a) (.float .f32 b)).run P w = .ok (FloatKind.f32.format.order a b == some .eq) w := by
  simp [Op.equalIn, run_underlying h, Op.floatEq]
attribute [local go_sem] run_equalIn_g
theorem run_eq_colg (r g b x y z : Nat) (w : World) :
    (Op.equalIn 10000 26 (.agg #[.float .f32 r, .float .f32 g, .float .f32 b]) (.agg #[.float .f32 x, .float .f32 y, .float .f32 z])).run Tryz.prog w =
      .ok ((FloatKind.f32.format.order r x == some .eq) && ((FloatKind.f32.format.order g y == some .eq) && (FloatKind.f32.format.order b z == some .eq))) w := by
  have u := Tryz.underlying24
  have a24 := Tryz.isAgg24
  have z24 := Tryz.sizeOf24
  have hS : Tryz.prog.underlying 26 = some (.struct (Tryz.prog.fieldsOf 26)) := by kernel_rfl
  have hp : Tryz.prog.stoodInHeld 26 = false := by kernel_rfl
  rw [show (10000 : Nat) = 9999 + 1 from rfl, run_equalIn_agg w 9999 26 _ _ hS hp]
  simp only [Program.fieldsOf, Tryz.underlying26]
  generalize h1 : (FloatKind.f32.format.order r x == some .eq) = o1
  generalize h2 : (FloatKind.f32.format.order g y == some .eq) = o2
  generalize h3 : (FloatKind.f32.format.order b z == some .eq) = o3
  go_simp
  cases o1 <;> cases o2 <;> cases o3 <;> rfl
end Go.Proofs.YtfdgijmmgllmgaaGreatDoor
