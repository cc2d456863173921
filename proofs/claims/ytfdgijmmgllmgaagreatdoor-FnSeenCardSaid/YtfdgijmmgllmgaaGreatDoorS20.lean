/-
  Texts Vb, joined.
-/
import Derived.Test.YtfdgijmmgllmgaaGreatDoorS11
import Derived.Test.YtfdgijmmgllmgaaGreatDoorS19
import Derived.Test.YtfdgijmmgllmgaaGreatDoorS16
import Derived.Deep.RegionHeld3
namespace Go.Proofs.YtfdgijmmgllmgaaGreatDoor
open Go.ChangeShapes Go.WideShapes Go.ChangeAt Go.RowKit Go.Joins
set_option linter.unusedSimpArgs false
set_option linter.unusedVariables false
set_option maxRecDepth 100000
attribute [local go_sem] store_f
open Ieee
attribute [local go_sem] store_c
structure ProdM (a b r : Nat) : Prop where
  call : ∀ w : World, Calls Tryz.prog 85 #[.float .f32 a, .float .f32 b] w fun e w' => e = .returned (.float .f32 r) ∧ w' = w
theorem prodM {i : Nat} {z : Int} (hi : i < 5) (h1 : -7 ≤ z) (h2 : z ≤ 7) : ProdM (iw z) (stepB i) (pwB i z) := ⟨fun w => by
  obtain ⟨r, e, h⟩ := (pw_of hi h1 h2).1
  rw [← h]
  exact productOf_i _ _ _ w e⟩
structure JoinM (x y s p q : Nat) : Prop where
  call : ∀ w : World, Calls Tryz.prog 84 #[.complex .f32 x y, .complex .f32 s s, .func (.func 85) #[] #[]] w fun e w' => e = .returned (.complex .f32 p q) ∧ w' = w
theorem joinM {x y s p q : Nat} (P : ProdM x s p) (Q : ProdM y s q) : JoinM x y s p q := ⟨fun w => by
  go_enter Tryz.func84, Tryz.ntmps84
  go_wp2_with (go_at_call 85; (first | (with_reducible refine (P.call _).mono ?_) | (with_reducible refine (Q.call _).mono ?_)); rintro e w1 ⟨rfl, rfl⟩)
  go_ret
  exact ⟨rfl, rfl⟩⟩
structure FoldCell (kind n : Int) (s : Nat) (k : Int) (x y : Nat) : Prop where
  call : ∀ w : World, Calls Tryz.prog 49 #[.int .i64 kind, .int .i64 n, .float .f32 s, .int .i64 k] w fun e w' => e = .returned (.complex .f32 x y) ∧ Below w.heap.size w w'
theorem foldCell {kind n k : Int} {s x y p q a b : Nat} {t : Int} {f : Bool} (P : CellPl n k x y true) (J : JoinM x y s p q) (F : FoldM kind p q a b t f) : FoldCell kind n s k a b := ⟨fun w => by
  go_enter Tryz.func49, Tryz.ntmps49
  go_wp2_with (first | (go_at_call 83; refine (P.call _).mono ?_; rintro e w1 ⟨rfl, hb⟩; obtain ⟨hc, hf⟩ := bcell hb; have HL := keepL (by (repeat (first | (with_reducible assumption) | (with_reducible apply AllLt.alloc) | (with_reducible apply AllLt.setCell) | (with_reducible apply AllLt.drew) | (with_reducible exact AllLt.nil _)))) hb; have hq := HL; simp only [AllLt, and_true, World.size_alloc, World.size_setCell, World.size_drew] at hq; have hbs := hb.size; try simp only [World.size_alloc, World.size_setCell, World.size_drew] at hbs) | (go_at_call 84; (with_reducible refine (J.call _).mono ?_); rintro e w3 ⟨rfl, rfl⟩) | (go_at_call 62; refine (F.call _).mono ?_; rintro e w1 ⟨rfl, hb⟩; obtain ⟨hc, hf⟩ := bcell hb; have HL := keepL (by (repeat (first | (with_reducible assumption) | (with_reducible apply AllLt.alloc) | (with_reducible apply AllLt.setCell) | (with_reducible apply AllLt.drew) | (with_reducible exact AllLt.nil _)))) hb; have hq := HL; simp only [AllLt, and_true, World.size_alloc, World.size_setCell, World.size_drew] at hq; have hbs := hb.size; try simp only [World.size_alloc, World.size_setCell, World.size_drew] at hbs))
  go_ret
  exact ⟨rfl, by (repeat' (first | (with_reducible exact Below.refl _ _) | (with_reducible assumption) | (with_reducible refine Below.alloc ?_ ?_ _) | (with_reducible refine Below.drew ?_) | (with_reducible refine Below.setCell ?_ ?_ _) | (with_reducible refine Below.trans ?_ (Below.mono (by assumption) ?_)) | (with_reducible exact Nat.le_refl _) | omega | (simp only [World.size_alloc, World.size_setCell, World.size_drew]; omega) | (simp; omega) | (simp; done)))⟩⟩
structure StepIs (s : Nat) : Prop where
  call : ∀ w : World, Calls Tryz.prog 41 #[.float .f32 s] w fun e w' => e = .returned (.bool true) ∧ w' = w
theorem stepIs {i : Nat} (hi : i < 5) : StepIs (stepB i) := ⟨fun w => by
  have h1 : (FloatKind.f32.format.order (stepB i) 0 == some .gt) = true := by
    rcases (by omega : i = 0 ∨ i = 1 ∨ i = 2 ∨ i = 3 ∨ i = 4) with rfl | rfl | rfl | rfl | rfl <;> kernel_rfl
  have h2 : (FloatKind.f32.format.order (stepB i) 1132462080 == some .lt) = true := by
    rcases (by omega : i = 0 ∨ i = 1 ∨ i = 2 ∨ i = 3 ∨ i = 4) with rfl | rfl | rfl | rfl | rfl <;> kernel_rfl
  generalize stepB i = s at *
  go_enter Tryz.func41, Tryz.ntmps41
  go_wp2
  go_ret
  exact ⟨by simp [h1, h2], rfl⟩⟩
structure TakeBox (W : World) (b1 b2 b3 b4 b5 : Nat) (g lc : Nat) (l : List Shd) (kind : Int) (n s : Nat) (c : Lit) : Prop where
  k1 : Blk W b1 #[.slice (some ⟨g, 0, Option.none⟩) l.length lc] 27
  k2 : Blk W b2 #[.int .i64 kind] 3
  k3 : Blk W b3 #[.int .i64 n] 3
  k4 : Blk W b4 #[.float .f32 s] 24
  k5 : Blk W b5 #[.float .f32 c.r, .float .f32 c.g, .float .f32 c.b] 26
  row : ShRow W g 0 l
  lt : g < W.heap.size
theorem TakeBox.below {W w1 : World} {b1 b2 b3 b4 b5 g lc : Nat} {l : List Shd} {kind : Int} {n s : Nat} {c : Lit} (h : TakeBox W b1 b2 b3 b4 b5 g lc l kind n s c) (hb : Below W.heap.size W w1) : TakeBox w1 b1 b2 b3 b4 b5 g lc l kind n s c :=
  ⟨h.k1.below hb, h.k2.below hb, h.k3.below hb, h.k4.below hb, h.k5.below hb, h.row.below hb, Nat.lt_of_lt_of_le h.lt hb.size⟩
theorem rowAt_of' {W : World} {g : Nat} {l : List Shd} (h : ShRow W g 0 l) : RowAt W (some ⟨g, 0, Option.none⟩) l := Or.inr ⟨g, 0, rfl, h⟩
theorem row_alloc' {W : World} {g : Nat} {o : Obj} {l : List Shd} (h : ShRow W g 0 l) : ShRow (W.alloc o) g 0 l := h.below ((Below.refl _ _).alloc (Nat.le_refl _) _)
theorem row_drew' {W : World} {g : Nat} {l : List Shd} (h : ShRow W g 0 l) : ShRow W.drew g 0 l := h
theorem row_below' {W w1 : World} {g : Nat} {l : List Shd} (hb : Below W.heap.size W w1) (h : ShRow W g 0 l) : ShRow w1 g 0 l := h.below hb
set_option maxHeartbeats 8000000 in
theorem take_clo {b1 b2 b3 b4 b5 g lc n s x y : Nat} {l : List Shd} {kind k : Int} {c d : Lit} {W : World} (T : TakeBox W b1 b2 b3 b4 b5 g lc l kind n s c) (FC : FoldCell kind n s k x y) (SI : SeenIs (some ⟨g, 0, Option.none⟩) l.length lc l x y c d) :
    CloM 47 W #[.int .i64 k, .pointer (some ⟨b1, 0, Option.none⟩), .pointer (some ⟨b2, 0, Option.none⟩), .pointer (some ⟨b3, 0, Option.none⟩), .pointer (some ⟨b4, 0, Option.none⟩), .pointer (some ⟨b5, 0, Option.none⟩)] d := ⟨fun w hw => by
  have T' := T.below hw
  have k1 := Blk.cellAt (i := 0) T'.k1 rfl
  have k2 := Blk.cellAt (i := 0) T'.k2 rfl
  have k3 := Blk.cellAt (i := 0) T'.k3 rfl
  have k4 := Blk.cellAt (i := 0) T'.k4 rfl
  have k5 := Blk.cellAt (i := 0) T'.k5 rfl
  have k6 := Blk.cellAt (i := 1) T'.k5 rfl
  have k7 := Blk.cellAt (i := 2) T'.k5 rfl
  simp only [List.getElem_toArray, List.getElem_cons_zero, List.getElem_cons_succ] at k1 k2 k3 k4 k5 k6 k7
  have l1 := T'.k1.lt
  have l2 := T'.k2.lt
  have l3 := T'.k3.lt
  have l4 := T'.k4.lt
  have l5 := T'.k5.lt
  have lg := T'.lt
  have HR : Hid (ShRow w g 0 l) := T'.row
  clear T T' hw
  go_enter Tryz.func47, Tryz.ntmps47
  go_wp2_with fail
  generalize hW : w.alloc (.cells #[.float .f32 0, .float .f32 0, .float .f32 0] 26) = X
  have R0 : Hid (Blk X w.heap.size #[.float .f32 0, .float .f32 0, .float .f32 0] 26) := by rw [← hW]; exact Blk.new _ _ _
  have HB : Hid (Below w.heap.size w X) := by rw [← hW]; show Below w.heap.size w _; (repeat' (first | (with_reducible exact Below.refl _ _) | (with_reducible assumption) | (with_reducible refine Below.alloc ?_ ?_ _) | (with_reducible refine Below.drew ?_) | (with_reducible refine Below.setCell ?_ ?_ _) | (with_reducible refine Below.trans ?_ (Below.mono (by assumption) ?_)) | (with_reducible exact Nat.le_refl _) | omega | (simp only [World.size_alloc, World.size_setCell, World.size_drew]; omega) | (simp; omega) | (simp; done)))
  have hs : X.heap.size = w.heap.size + 1 := by rw [← hW]; simp
  have hRX : ShRow X g 0 l := by rw [← hW]; exact row_alloc' HR.out
  have q1 := hW ▸ cAlloc (o := .cells #[.float .f32 0, .float .f32 0, .float .f32 0] 26) k1
  have q2 := hW ▸ cAlloc (o := .cells #[.float .f32 0, .float .f32 0, .float .f32 0] 26) k2
  have q3 := hW ▸ cAlloc (o := .cells #[.float .f32 0, .float .f32 0, .float .f32 0] 26) k3
  have q4 := hW ▸ cAlloc (o := .cells #[.float .f32 0, .float .f32 0, .float .f32 0] 26) k4
  have q5 := hW ▸ cAlloc (o := .cells #[.float .f32 0, .float .f32 0, .float .f32 0] 26) k5
  have q6 := hW ▸ cAlloc (o := .cells #[.float .f32 0, .float .f32 0, .float .f32 0] 26) k6
  have q7 := hW ▸ cAlloc (o := .cells #[.float .f32 0, .float .f32 0, .float .f32 0] 26) k7
  clear hW k1 k2 k3 k4 k5 k6 k7 HR
  go_region_held3 (fun wx => ShRow wx g 0 l ∧ wx.cell? ⟨b1, 0, Option.none⟩ = some (.slice (some ⟨g, 0, Option.none⟩) l.length lc) ∧ wx.cell? ⟨b2, 0, Option.none⟩ = some (.int .i64 kind) ∧ wx.cell? ⟨b3, 0, Option.none⟩ = some (.int .i64 n) ∧ wx.cell? ⟨b4, 0, Option.none⟩ = some (.float .f32 s) ∧ wx.cell? ⟨b5, 0, Option.none⟩ = some (.float .f32 (c.r)) ∧ wx.cell? ⟨b5, 1, Option.none⟩ = some (.float .f32 (c.g)) ∧ wx.cell? ⟨b5, 2, Option.none⟩ = some (.float .f32 (c.b)))
    (((repeat' apply And.intro) <;> first | (with_reducible assumption) | ((repeat (first | (with_reducible assumption) | (with_reducible exact And.left (by assumption)) | (with_reducible refine row_drew' ?_) | (with_reducible refine row_below' hb ?_) | (with_reducible refine row_alloc' ?_) | (with_reducible refine ShRow.set ?_ (by dsimp only; omega)))); done) | (((repeat (first | (with_reducible assumption) | (with_reducible exact cNewAt (by first | rfl | (simp only [World.size_alloc, World.size_setCell, World.size_drew]; done) | omega) rfl) | (with_reducible exact sNewAt (by first | rfl | (simp only [World.size_alloc, World.size_setCell, World.size_drew]; done) | omega) rfl) | (simp; done) | (with_reducible apply cAlloc) | (with_reducible apply cDrew) | (with_reducible refine cSet (by dsimp only; omega) ?_) | (with_reducible refine cSetOff (by dsimp only; omega) ?_) | (with_reducible apply cSame) | (with_reducible refine cBelow (by assumption) ?_) | (with_reducible apply sAlloc) | (with_reducible apply sDrew) | (with_reducible refine sBelow (by assumption) ?_) | (with_reducible refine sSet (by dsimp only; omega) ?_))); first | done | (simp [*]; done)); done) | (simp only [World.size_alloc, World.size_setCell, World.size_drew]; omega) | omega | (go_keep; done) | ((repeat' (first | (with_reducible exact Below.refl _ _) | (with_reducible assumption) | (with_reducible refine Below.alloc ?_ ?_ _) | (with_reducible refine Below.drew ?_) | (with_reducible refine Below.setCell ?_ ?_ _) | (with_reducible refine Below.trans ?_ (Below.mono (by assumption) ?_)) | (with_reducible exact Nat.le_refl _) | omega | (simp only [World.size_alloc, World.size_setCell, World.size_drew]; omega) | (simp; omega) | (simp; done))); done)))
    (first | (go_at_call 49; (with_reducible refine (FC.call _).mono ?_); rintro e w2 ⟨rfl, hb⟩; have R2 : Hid (Blk w2 w.heap.size #[.float .f32 0, .float .f32 0, .float .f32 0] 26) := Blk.below (Blk.drew R0.out) hb; have B2 : Hid (Below w.heap.size w w2) := HB.out.drew.trans (hb.mono (by simp; omega)); have hs2 := hb.size; (try simp only [World.size_drew] at hs2)) | (go_at_call 48; (with_reducible refine (SI.call _ ?_).mono ?_); (next => exact rowAt_of' (And.left (by assumption))); rintro e w3 ⟨rfl, hb⟩; have R3 : Hid (Blk w3 w.heap.size #[.float .f32 0, .float .f32 0, .float .f32 0] 26) := Blk.below R2.out hb; have B3 : Hid (Below w.heap.size w w3) := B2.out.trans (hb.mono (by omega)); have o0 := Blk.cellAt (i := 0) R3.out rfl; have o1 := Blk.cellAt (i := 1) R3.out rfl; have o2 := Blk.cellAt (i := 2) R3.out rfl; have f0 := R3.out.free 0; have f1 := R3.out.free 1; have f2 := R3.out.free 2; have lr := R3.out.lt; (simp only [List.getElem_toArray, List.getElem_cons_zero, List.getElem_cons_succ] at o0 o1 o2)))
  all_goals
    rename_i hHeld
    clear hHeld
    go_wp2
    have hbb := B3.out
    (have d0 := (R3.out.set (i := 0) (v := .float .f32 d.r)).cell 0; have d1 := ((R3.out.set (i := 0) (v := .float .f32 d.r)).set (i := 1) (v := .float .f32 d.g)).cell 1; have d2 := (((R3.out.set (i := 0) (v := .float .f32 d.r)).set (i := 1) (v := .float .f32 d.g)).set (i := 2) (v := .float .f32 d.b)).cell 2; simp only [List.setIfInBounds_toArray, List.set_cons_zero, List.set_cons_succ, List.getElem?_toArray, List.getElem?_cons_zero, List.getElem?_cons_succ] at d0 d1 d2; exact bodyPost_ret (v := .agg #[.float .f32 d.r, .float .f32 d.g, .float .f32 d.b]) (by simp [results, Tryz.results47, go_sem, d0, d1, d2]) rfl ⟨rfl, by (repeat' (first | (with_reducible exact Below.refl _ _) | (with_reducible assumption) | (with_reducible refine Below.alloc ?_ ?_ _) | (with_reducible refine Below.drew ?_) | (with_reducible refine Below.setCell ?_ ?_ _) | (with_reducible refine Below.trans ?_ (Below.mono (by assumption) ?_)) | (with_reducible exact Nat.le_refl _) | omega | (simp only [World.size_alloc, World.size_setCell, World.size_drew]; omega) | (simp; omega) | (simp; done)))⟩)⟩
structure TakeM (kind : Int) (g lc : Nat) (l : List Shd) (n s : Nat) (c : Lit) (m : List Lit) : Prop where
  call : ∀ w : World, ShRow w g 0 l → g < w.heap.size → Calls Tryz.prog 17 #[.int .i64 kind, .slice (some ⟨g, 0, Option.none⟩) l.length lc, .int .i64 n, .float .f32 s, .agg #[.float .f32 c.r, .float .f32 c.g, .float .f32 c.b]] w fun e w' => (∃ g cp, PicMade2 w.heap.size e w' n m g cp) ∧ Below w.heap.size w w'
set_option maxHeartbeats 16000000 in
theorem takeM {kind : Int} {g lc n s : Nat} {l : List Shd} {c : Lit} {col : Nat → Lit} (hk : kindB kind = true) (h1 : 1 ≤ n) (h8 : n ≤ 8) (hlen : l.length ≤ 12) (hok : ∀ s ∈ l, s.Ok) (hc : c.Ok) (SS : StepIs s)
    (HX : ∀ k, k < n * n → ∃ x y, FoldCell kind n s k x y ∧ SeenIs (some ⟨g, 0, Option.none⟩) l.length lc l x y c (col k)) : TakeM kind g lc l n s c (colsTo col (n * n)) := ⟨fun w hrow hg => by
  have A : AreIs (some ⟨g, 0, Option.none⟩) l.length lc l := areIs hlen hok
  have CY : ColIs c.r c.g c.b true := colYes (.inl hc.r) (.inl hc.g) (.inl hc.b)
  have YK := fun w => isKind_i kind w
  rw [hk] at YK
  have hs8 : sizeB (n : Int) = true := by unfold sizeB; simp; omega
  have YS := fun w => isSize_i n w
  rw [hs8] at YS
  have HC : Hid (∀ (W : World) (b1 b2 b3 b4 b5 : Nat), TakeBox W b1 b2 b3 b4 b5 g lc l kind n s c → ∀ k : Nat, k < n * n → CloM 47 W #[.int .i64 k, .pointer (some ⟨b1, 0, Option.none⟩), .pointer (some ⟨b2, 0, Option.none⟩), .pointer (some ⟨b3, 0, Option.none⟩), .pointer (some ⟨b4, 0, Option.none⟩), .pointer (some ⟨b5, 0, Option.none⟩)] (col k)) :=
    fun W b1 b2 b3 b4 b5 T k hk => by
      obtain ⟨x, y, F, S⟩ := HX k hk
      exact take_clo T F S
  have HP : Hid (∀ (w : World) (c1 c2 c3 c4 c5 : Value), (∀ k : Nat, k < n * n → CloM 47 w #[.int .i64 k, c1, c2, c3, c4, c5] (col k)) → Calls Tryz.prog 46 #[.int .i64 n, .func (.func 47) #[] #[c1, c2, c3, c4, c5]] w fun e w' => (∃ g cap, PicMade w.heap.size e w' n (colsTo col (n * n)) g cap) ∧ Below w.heap.size w w') :=
    fun w c1 c2 c3 c4 c5 C => pictureOf_t h1 h8 rfl w C
  generalize colsTo col (n * n) = m at HP ⊢
  have HR : Hid (ShRow w g 0 l) := hrow
  clear hrow hs8 hk hok hc HX hlen
  go_enter Tryz.func17, Tryz.ntmps17
  go_wp2_with fail
  generalize hW : (((((w.alloc (.cells #[.int .i64 kind] 3)).alloc (.cells #[.slice (some ⟨g, 0, Option.none⟩) l.length lc] 27)).alloc (.cells #[.int .i64 n] 3)).alloc (.cells #[.float .f32 s] 24)).alloc (.cells #[.float .f32 c.r, .float .f32 c.g, .float .f32 c.b] 26)).alloc (.cells #[.int .i64 0, .slice Option.none 0 0] 43) = X
  have T0 : Hid (TakeBox X (w.heap.size + 1) w.heap.size (w.heap.size + 1 + 1) (w.heap.size + 1 + 1 + 1) (w.heap.size + 1 + 1 + 1 + 1) g lc l kind n s c) := by
    rw [← hW]
    exact ⟨((((Blk.newAt (by simp)).alloc).alloc).alloc).alloc, (((((Blk.new _ _ _).alloc).alloc).alloc).alloc).alloc, (((Blk.newAt (by simp)).alloc).alloc).alloc, ((Blk.newAt (by simp)).alloc).alloc, (Blk.newAt (by simp)).alloc, row_alloc' (row_alloc' (row_alloc' (row_alloc' (row_alloc' (row_alloc' HR.out))))), by simp; omega⟩
  have R0 : Hid (Blk X (w.heap.size + 1 + 1 + 1 + 1 + 1) #[.int .i64 0, .slice Option.none 0 0] 43) := by rw [← hW]; exact Blk.newAt (by simp)
  have hB : Below w.heap.size w X := by rw [← hW]; (repeat' (first | (with_reducible exact Below.refl _ _) | (with_reducible assumption) | (with_reducible refine Below.alloc ?_ ?_ _) | (with_reducible refine Below.drew ?_) | (with_reducible refine Below.setCell ?_ ?_ _) | (with_reducible refine Below.trans ?_ (Below.mono (by assumption) ?_)) | (with_reducible exact Nat.le_refl _) | omega | (simp only [World.size_alloc, World.size_setCell, World.size_drew]; omega) | (simp; omega) | (simp; done)))
  have HB : Hid (Below w.heap.size w X) := hB
  have hs := hB.size
  clear hW hB HR
  have q2 := Blk.cellAt (i := 0) T0.out.k2 rfl
  simp only [List.getElem_toArray, List.getElem_cons_zero, List.getElem_cons_succ] at q2
  refine (YK _).mono ?_
  rintro e w1 ⟨rfl, rfl⟩
  have k1 := Blk.cellAt (i := 0) T0.out.k1 rfl
  have k2 := Blk.cellAt (i := 0) T0.out.k2 rfl
  have k3 := Blk.cellAt (i := 0) T0.out.k3 rfl
  have k4 := Blk.cellAt (i := 0) T0.out.k4 rfl
  have k5 := Blk.cellAt (i := 0) T0.out.k5 rfl
  have k6 := Blk.cellAt (i := 1) T0.out.k5 rfl
  have k7 := Blk.cellAt (i := 2) T0.out.k5 rfl
  simp only [List.getElem_toArray, List.getElem_cons_zero, List.getElem_cons_succ] at k1 k2 k3 k4 k5 k6 k7
  clear q2 YK
  go_wp2_with fail
  refine (A.call _ (rowAt_of' T0.out.row)).mono ?_
  rintro e w2 ⟨rfl, hb⟩
  have T2 : Hid (TakeBox w2 (w.heap.size + 1) w.heap.size (w.heap.size + 1 + 1) (w.heap.size + 1 + 1 + 1) (w.heap.size + 1 + 1 + 1 + 1) g lc l kind n s c) := T0.out.below hb
  have R2 : Hid (Blk w2 (w.heap.size + 1 + 1 + 1 + 1 + 1) #[.int .i64 0, .slice Option.none 0 0] 43) := R0.out.below hb
  have HB2 : Hid (Below w.heap.size w w2) := HB.out.trans (hb.mono hs)
  have hs2 := HB2.out.size
  clear hb T0 R0 HB hs A k1 k2 k3 k4 k5 k6 k7
  have k1 := Blk.cellAt (i := 0) T2.out.k1 rfl
  have k2 := Blk.cellAt (i := 0) T2.out.k2 rfl
  have k3 := Blk.cellAt (i := 0) T2.out.k3 rfl
  have k4 := Blk.cellAt (i := 0) T2.out.k4 rfl
  have k5 := Blk.cellAt (i := 0) T2.out.k5 rfl
  have k6 := Blk.cellAt (i := 1) T2.out.k5 rfl
  have k7 := Blk.cellAt (i := 2) T2.out.k5 rfl
  simp only [List.getElem_toArray, List.getElem_cons_zero, List.getElem_cons_succ] at k1 k2 k3 k4 k5 k6 k7
  go_wp2_with (first | (go_at_call 19; (with_reducible refine (YS _).mono ?_); rintro e w3 ⟨rfl, rfl⟩) | (go_at_call 41; (with_reducible refine (SS.call _).mono ?_); rintro e w4 ⟨rfl, rfl⟩))
  refine (CY.call _).mono ?_
  rintro e w5 ⟨rfl, hb⟩
  have T5 := T2.out.below hb
  have R5 : Hid (Blk w5 (w.heap.size + 1 + 1 + 1 + 1 + 1) #[.int .i64 0, .slice Option.none 0 0] 43) := R2.out.below hb
  have HB5 : Hid (Below w.heap.size w w5) := HB2.out.trans (hb.mono hs2)
  have hs5 := HB5.out.size
  have k3' := Blk.cellAt (i := 0) T5.k3 rfl
  simp only [List.getElem_toArray, List.getElem_cons_zero, List.getElem_cons_succ] at k3'
  have C := HC.out w5 _ _ _ _ _ T5
  clear hb T2 R2 HB2 hs2 k1 k2 k3 k4 k5 k6 k7 T5 CY YS
  have HCC : Hid _ := C
  clear C
  go_wp2_with fail
  refine (HP.out w5 _ _ _ _ _ HCC.out).mono ?_
  rintro e w6 ⟨⟨g6, cp, ⟨rfl, hown⟩⟩, hb⟩
  have R6 : Hid (Blk w6 (w.heap.size + 1 + 1 + 1 + 1 + 1) #[.int .i64 0, .slice Option.none 0 0] 43) := R5.out.below hb
  have HB6 : Hid (Below w.heap.size w w6) := HB5.out.trans (hb.mono hs5)
  have r0 := Blk.cellAt (i := 0) R6.out rfl
  have r1 := Blk.cellAt (i := 1) R6.out rfl
  have f0 := R6.out.free 0
  have f1 := R6.out.free 1
  have lr := R6.out.lt
  have lr5 := R5.out.lt
  simp only [List.getElem_toArray, List.getElem_cons_zero, List.getElem_cons_succ] at r0 r1
  have RS := (R6.out.set (i := 0) (v := .int .i64 n)).set (i := 1) (v := .slice (some ⟨g6, 0, Option.none⟩) m.length cp)
  have e0 := RS.cell 0
  have e1 := RS.cell 1
  simp only [List.setIfInBounds_toArray, List.set_cons_zero, List.set_cons_succ, List.getElem?_toArray, List.getElem?_cons_zero, List.getElem?_cons_succ] at e0 e1
  have HE0 : Hid (((w6.setCell ⟨w.heap.size + 1 + 1 + 1 + 1 + 1, 0, Option.none⟩ (.int .i64 n)).setCell ⟨w.heap.size + 1 + 1 + 1 + 1 + 1, 1, Option.none⟩ (.slice (some ⟨g6, 0, Option.none⟩) m.length cp)).cell? ⟨w.heap.size + 1 + 1 + 1 + 1 + 1, 0, Option.none⟩ = some (.int .i64 n)) := e0
  have HE1 : Hid (((w6.setCell ⟨w.heap.size + 1 + 1 + 1 + 1 + 1, 0, Option.none⟩ (.int .i64 n)).setCell ⟨w.heap.size + 1 + 1 + 1 + 1 + 1, 1, Option.none⟩ (.slice (some ⟨g6, 0, Option.none⟩) m.length cp)).cell? ⟨w.heap.size + 1 + 1 + 1 + 1 + 1, 1, Option.none⟩ = some (.slice (some ⟨g6, 0, Option.none⟩) m.length cp)) := e1
  have HOE : Hid (((w6.setCell ⟨w.heap.size + 1 + 1 + 1 + 1 + 1, 0, Option.none⟩ (.int .i64 n)).setCell ⟨w.heap.size + 1 + 1 + 1 + 1 + 1, 1, Option.none⟩ (.slice (some ⟨g6, 0, Option.none⟩) m.length cp)).ownsRow w.heap.size 26 3 (.slice (some ⟨g6, 0, Option.none⟩) m.length cp) m.length (litCells m)) := ownsLess (ownsSet (ownsSet hown (by dsimp only; omega)) (by dsimp only; omega)) hs5
  have HBE : Hid (Below w.heap.size w ((w6.setCell ⟨w.heap.size + 1 + 1 + 1 + 1 + 1, 0, Option.none⟩ (.int .i64 n)).setCell ⟨w.heap.size + 1 + 1 + 1 + 1 + 1, 1, Option.none⟩ (.slice (some ⟨g6, 0, Option.none⟩) m.length cp))) := (HB6.out.setCell (by dsimp only; omega) _).setCell (by dsimp only; omega) _
  clear hb hown RS e0 e1 HCC
  go_wp2
  have e0 := HE0.out
  have e1 := HE1.out
  exact bodyPost_ret (v := .tuple #[.agg #[.int .i64 n, .slice (some ⟨g6, 0, Option.none⟩) m.length cp], .bool true]) (by simp [results, Tryz.results17, go_sem, e0, e1]) rfl ⟨⟨g6, cp, rfl, HOE.out⟩, HBE.out⟩⟩
end Go.Proofs.YtfdgijmmgllmgaaGreatDoor
