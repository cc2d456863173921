/-
  Texts of this proof, joined: Vb, Gz, Vc, Vd.
-/
import Derived.Test.YtlnikapkheldeaaK39
import Derived.Test.YtlnikapkheldeaaK40
import Derived.Test.YtlnikapkheldeaaK19
import Derived.Test.YtlnikapkheldeaaK31
import Derived.Deep.RegionHeld3
import Derived.Test.YtlnikapkheldeaaK23
import Derived.Test.YtlnikapkheldeaaK34
import Derived.Test.YtlnikapkheldeaaK22
import Derived.Deep.RegionWith
/-
  TakePicture of the program.
-/
namespace Go.Proofs.Ytlnikapkheldeaa
open Go.ChangeShapes Go.WideShapes Go.ChangeAt Go.RowKit Go.Joins
set_option linter.unusedSimpArgs false
set_option linter.unusedVariables false
set_option maxRecDepth 100000
attribute [local go_sem] store_f
open Ieee
attribute [local go_sem] store_c

structure ProdM (a b r : Nat) : Prop where
  call : ∀ w : World, Calls Try.prog 81 #[.float .f32 a, .float .f32 b] w fun e w' => e = .returned (.float .f32 r) ∧ w' = w
theorem prodM {i : Nat} {z : Int} (hi : i < 5) (h1 : -7 ≤ z) (h2 : z ≤ 7) : ProdM (iw z) (stepB i) (pwB i z) := ⟨fun w => by
  obtain ⟨r, e, h⟩ := (pw_of hi h1 h2).1
  rw [← h]
  exact productOf_i _ _ _ w e⟩
structure JoinM (x y s p q : Nat) : Prop where
  call : ∀ w : World, Calls Try.prog 144 #[.complex .f32 x y, .complex .f32 s s, .func (.func 81) #[] #[]] w fun e w' => e = .returned (.complex .f32 p q) ∧ w' = w
theorem joinM {x y s p q : Nat} (P : ProdM x s p) (Q : ProdM y s q) : JoinM x y s p q := ⟨fun w => by
  go_enter Try.func144, Try.ntmps144
  go_wp2_with (go_at_call 81; (first | (with_reducible refine (P.call _).mono ?_) | (with_reducible refine (Q.call _).mono ?_)); rintro e w1 ⟨rfl, rfl⟩)
  go_ret
  exact ⟨rfl, rfl⟩⟩
structure FoldCell (kind n : Int) (s : Nat) (k : Int) (x y : Nat) : Prop where
  call : ∀ w : World, Calls Try.prog 98 #[.int .i64 kind, .int .i64 n, .float .f32 s, .int .i64 k] w fun e w' => e = .returned (.complex .f32 x y) ∧ Below w.heap.size w w'
theorem foldCell {kind n k : Int} {s x y p q a b : Nat} {t : Int} {f : Bool} (P : CellPl n k x y true) (J : JoinM x y s p q) (F : FoldM kind p q a b t f) : FoldCell kind n s k a b := ⟨fun w => by
  go_enter Try.func98, Try.ntmps98
  go_wp2_with (first | (go_at_call 22; refine (P.call _).mono ?_; rintro e w1 ⟨rfl, hb⟩; obtain ⟨hc, hf⟩ := bcell hb; have HL := keepL (by (repeat (first | (with_reducible assumption) | (with_reducible apply AllLt.alloc) | (with_reducible apply AllLt.setCell) | (with_reducible apply AllLt.drew) | (with_reducible exact AllLt.nil _)))) hb; have hq := HL; simp only [AllLt, and_true, World.size_alloc, World.size_setCell, World.size_drew] at hq; have hbs := hb.size; try simp only [World.size_alloc, World.size_setCell, World.size_drew] at hbs) | (go_at_call 144; (with_reducible refine (J.call _).mono ?_); rintro e w3 ⟨rfl, rfl⟩) | (go_at_call 143; refine (F.call _).mono ?_; rintro e w1 ⟨rfl, hb⟩; obtain ⟨hc, hf⟩ := bcell hb; have HL := keepL (by (repeat (first | (with_reducible assumption) | (with_reducible apply AllLt.alloc) | (with_reducible apply AllLt.setCell) | (with_reducible apply AllLt.drew) | (with_reducible exact AllLt.nil _)))) hb; have hq := HL; simp only [AllLt, and_true, World.size_alloc, World.size_setCell, World.size_drew] at hq; have hbs := hb.size; try simp only [World.size_alloc, World.size_setCell, World.size_drew] at hbs))
  go_ret
  exact ⟨rfl, by (repeat' (first | (with_reducible exact Below.refl _ _) | (with_reducible assumption) | (with_reducible refine Below.alloc ?_ ?_ _) | (with_reducible refine Below.drew ?_) | (with_reducible refine Below.setCell ?_ ?_ _) | (with_reducible refine Below.trans ?_ (Below.mono (by assumption) ?_)) | (with_reducible exact Nat.le_refl _) | omega | (simp only [World.size_alloc, World.size_setCell, World.size_drew]; omega) | (simp; omega) | (simp; done)))⟩⟩
structure StepIs (s : Nat) : Prop where
  call : ∀ w : World, Calls Try.prog 94 #[.float .f32 s] w fun e w' => e = .returned (.bool true) ∧ w' = w
theorem stepIs {i : Nat} (hi : i < 5) : StepIs (stepB i) := ⟨fun w => by
  have h1 : (FloatKind.f32.format.order (stepB i) 0 == some .gt) = true := by
    rcases (by omega : i = 0 ∨ i = 1 ∨ i = 2 ∨ i = 3 ∨ i = 4) with rfl | rfl | rfl | rfl | rfl <;> kernel_rfl
  have h2 : (FloatKind.f32.format.order (stepB i) 1132462080 == some .lt) = true := by
    rcases (by omega : i = 0 ∨ i = 1 ∨ i = 2 ∨ i = 3 ∨ i = 4) with rfl | rfl | rfl | rfl | rfl <;> kernel_rfl
  generalize stepB i = s at *
  go_enter Try.func94, Try.ntmps94
  go_wp2
  go_ret
  exact ⟨by simp [h1, h2], rfl⟩⟩

/-- The boxes of what TakePicture is given. -/
structure TakeBox (W : World) (b1 b2 b3 b4 b5 : Nat) (g lc : Nat) (l : List Shd) (kind : Int) (n s : Nat) (c : Lit) : Prop where
  k1 : Blk W b1 #[.slice (some ⟨g, 0, Option.none⟩) l.length lc] 46
  k2 : Blk W b2 #[.int .i64 kind] 3
  k3 : Blk W b3 #[.int .i64 n] 3
  k4 : Blk W b4 #[.float .f32 s] 47
  k5 : Blk W b5 #[.float .f32 c.r, .float .f32 c.g, .float .f32 c.b] 49
  row : ShRow W g 0 l
  lt : g < W.heap.size
theorem TakeBox.below {W w1 : World} {b1 b2 b3 b4 b5 g lc : Nat} {l : List Shd} {kind : Int} {n s : Nat} {c : Lit} (h : TakeBox W b1 b2 b3 b4 b5 g lc l kind n s c) (hb : Below W.heap.size W w1) : TakeBox w1 b1 b2 b3 b4 b5 g lc l kind n s c :=
  ⟨h.k1.below hb, h.k2.below hb, h.k3.below hb, h.k4.below hb, h.k5.below hb, h.row.below hb, Nat.lt_of_lt_of_le h.lt hb.size⟩
theorem rowAt_of' {W : World} {g : Nat} {l : List Shd} (h : ShRow W g 0 l) : RowAt W (some ⟨g, 0, Option.none⟩) l := Or.inr ⟨g, 0, rfl, h⟩
theorem row_alloc' {W : World} {g : Nat} {o : Obj} {l : List Shd} (h : ShRow W g 0 l) : ShRow (W.alloc o) g 0 l := h.below ((Below.refl _ _).alloc (Nat.le_refl _) _)
theorem row_drew' {W : World} {g : Nat} {l : List Shd} (h : ShRow W g 0 l) : ShRow W.drew g 0 l := h
theorem row_below' {W w1 : World} {g : Nat} {l : List Shd} (hb : Below W.heap.size W w1) (h : ShRow W g 0 l) : ShRow w1 g 0 l := h.below hb

set_option maxHeartbeats 8000000 in
theorem take_clo {b1 b2 b3 b4 b5 g lc n s x y : Nat} {l : List Shd} {kind k : Int} {c d : Lit} {W : World} (T : TakeBox W b1 b2 b3 b4 b5 g lc l kind n s c) (FC : FoldCell kind n s k x y) (SI : SeenIs (some ⟨g, 0, Option.none⟩) l.length lc l x y c d) :
    CloM 96 W #[.int .i64 k, .pointer (some ⟨b1, 0, Option.none⟩), .pointer (some ⟨b2, 0, Option.none⟩), .pointer (some ⟨b3, 0, Option.none⟩), .pointer (some ⟨b4, 0, Option.none⟩), .pointer (some ⟨b5, 0, Option.none⟩)] d := ⟨fun w hw => by
  have T' := T.below hw
  have k1 := Blk.cellAt (i := 0) T'.k1 rfl
  have k2 := Blk.cellAt (i := 0) T'.k2 rfl
  have k3 := Blk.cellAt (i := 0) T'.k3 rfl
  have k4 := Blk.cellAt (i := 0) T'.k4 rfl
  have k5 := Blk.cellAt (i := 0) T'.k5 rfl
  have k6 := Blk.cellAt (i := 1) T'.k5 rfl
  have k7 := Blk.cellAt (i := 2) T'.k5 rfl
  simp only [List.getElem_toArray, List.getElem_cons_zero, List.getElem_cons_succ] at k1 k2 k3 k4 k5 k6 k7
  have l1 := T'.k1.lt
  have l2 := T'.k2.lt
  have l3 := T'.k3.lt
  have l4 := T'.k4.lt
  have l5 := T'.k5.lt
  have lg := T'.lt
  have HR : Hid (ShRow w g 0 l) := T'.row
  clear T T' hw
  go_enter Try.func96, Try.ntmps96
  go_wp2_with fail
  generalize hW : w.alloc (.cells #[.float .f32 0, .float .f32 0, .float .f32 0] 49) = X
  have R0 : Hid (Blk X w.heap.size #[.float .f32 0, .float .f32 0, .float .f32 0] 49) := by rw [← hW]; exact Blk.new _ _ _
  have HB : Hid (Below w.heap.size w X) := by rw [← hW]; show Below w.heap.size w _; (repeat' (first | (with_reducible exact Below.refl _ _) | (with_reducible assumption) | (with_reducible refine Below.alloc ?_ ?_ _) | (with_reducible refine Below.drew ?_) | (with_reducible refine Below.setCell ?_ ?_ _) | (with_reducible refine Below.trans ?_ (Below.mono (by assumption) ?_)) | (with_reducible exact Nat.le_refl _) | omega | (simp only [World.size_alloc, World.size_setCell, World.size_drew]; omega) | (simp; omega) | (simp; done)))
  have hs : X.heap.size = w.heap.size + 1 := by rw [← hW]; simp
  have hRX : ShRow X g 0 l := by rw [← hW]; exact row_alloc' HR.out
  have q1 := hW ▸ cAlloc (o := .cells #[.float .f32 0, .float .f32 0, .float .f32 0] 49) k1
  have q2 := hW ▸ cAlloc (o := .cells #[.float .f32 0, .float .f32 0, .float .f32 0] 49) k2
  have q3 := hW ▸ cAlloc (o := .cells #[.float .f32 0, .float .f32 0, .float .f32 0] 49) k3
  have q4 := hW ▸ cAlloc (o := .cells #[.float .f32 0, .float .f32 0, .float .f32 0] 49) k4
  have q5 := hW ▸ cAlloc (o := .cells #[.float .f32 0, .float .f32 0, .float .f32 0] 49) k5
  have q6 := hW ▸ cAlloc (o := .cells #[.float .f32 0, .float .f32 0, .float .f32 0] 49) k6
  have q7 := hW ▸ cAlloc (o := .cells #[.float .f32 0, .float .f32 0, .float .f32 0] 49) k7
  clear hW k1 k2 k3 k4 k5 k6 k7 HR
  go_region_held3 (fun wx => ShRow wx g 0 l ∧ wx.cell? ⟨b1, 0, Option.none⟩ = some (.slice (some ⟨g, 0, Option.none⟩) l.length lc) ∧ wx.cell? ⟨b2, 0, Option.none⟩ = some (.int .i64 kind) ∧ wx.cell? ⟨b3, 0, Option.none⟩ = some (.int .i64 n) ∧ wx.cell? ⟨b4, 0, Option.none⟩ = some (.float .f32 s) ∧ wx.cell? ⟨b5, 0, Option.none⟩ = some (.float .f32 (c.r)) ∧ wx.cell? ⟨b5, 1, Option.none⟩ = some (.float .f32 (c.g)) ∧ wx.cell? ⟨b5, 2, Option.none⟩ = some (.float .f32 (c.b)))
    (((repeat' apply And.intro) <;> first | (with_reducible assumption) | ((repeat (first | (with_reducible assumption) | (with_reducible exact And.left (by assumption)) | (with_reducible refine row_drew' ?_) | (with_reducible refine row_below' hb ?_) | (with_reducible refine row_alloc' ?_) | (with_reducible refine ShRow.set ?_ (by dsimp only; omega)))); done) | (((repeat (first | (with_reducible assumption) | (with_reducible exact cNewAt (by first | rfl | (simp only [World.size_alloc, World.size_setCell, World.size_drew]; done) | omega) rfl) | (with_reducible exact sNewAt (by first | rfl | (simp only [World.size_alloc, World.size_setCell, World.size_drew]; done) | omega) rfl) | (simp; done) | (with_reducible apply cAlloc) | (with_reducible apply cDrew) | (with_reducible refine cSet (by dsimp only; omega) ?_) | (with_reducible refine cSetOff (by dsimp only; omega) ?_) | (with_reducible apply cSame) | (with_reducible refine cBelow (by assumption) ?_) | (with_reducible apply sAlloc) | (with_reducible apply sDrew) | (with_reducible refine sBelow (by assumption) ?_) | (with_reducible refine sSet (by dsimp only; omega) ?_))); first | done | (simp [*]; done)); done) | (simp only [World.size_alloc, World.size_setCell, World.size_drew]; omega) | omega | (go_keep; done) | ((repeat' (first | (with_reducible exact Below.refl _ _) | (with_reducible assumption) | (with_reducible refine Below.alloc ?_ ?_ _) | (with_reducible refine Below.drew ?_) | (with_reducible refine Below.setCell ?_ ?_ _) | (with_reducible refine Below.trans ?_ (Below.mono (by assumption) ?_)) | (with_reducible exact Nat.le_refl _) | omega | (simp only [World.size_alloc, World.size_setCell, World.size_drew]; omega) | (simp; omega) | (simp; done))); done)))
    (first | (go_at_call 98; (with_reducible refine (FC.call _).mono ?_); rintro e w2 ⟨rfl, hb⟩; have R2 : Hid (Blk w2 w.heap.size #[.float .f32 0, .float .f32 0, .float .f32 0] 49) := Blk.below (Blk.drew R0.out) hb; have B2 : Hid (Below w.heap.size w w2) := HB.out.drew.trans (hb.mono (by simp; omega)); have hs2 := hb.size; (try simp only [World.size_drew] at hs2)) | (go_at_call 97; (with_reducible refine (SI.call _ ?_).mono ?_); (next => exact rowAt_of' (And.left (by assumption))); rintro e w3 ⟨rfl, hb⟩; have R3 : Hid (Blk w3 w.heap.size #[.float .f32 0, .float .f32 0, .float .f32 0] 49) := Blk.below R2.out hb; have B3 : Hid (Below w.heap.size w w3) := B2.out.trans (hb.mono (by omega)); have o0 := Blk.cellAt (i := 0) R3.out rfl; have o1 := Blk.cellAt (i := 1) R3.out rfl; have o2 := Blk.cellAt (i := 2) R3.out rfl; have f0 := R3.out.free 0; have f1 := R3.out.free 1; have f2 := R3.out.free 2; have lr := R3.out.lt; (simp only [List.getElem_toArray, List.getElem_cons_zero, List.getElem_cons_succ] at o0 o1 o2)))
  all_goals
    rename_i hHeld
    clear hHeld
    go_wp2
    have hbb := B3.out
    (have d0 := (R3.out.set (i := 0) (v := .float .f32 d.r)).cell 0; have d1 := ((R3.out.set (i := 0) (v := .float .f32 d.r)).set (i := 1) (v := .float .f32 d.g)).cell 1; have d2 := (((R3.out.set (i := 0) (v := .float .f32 d.r)).set (i := 1) (v := .float .f32 d.g)).set (i := 2) (v := .float .f32 d.b)).cell 2; simp only [List.setIfInBounds_toArray, List.set_cons_zero, List.set_cons_succ, List.getElem?_toArray, List.getElem?_cons_zero, List.getElem?_cons_succ] at d0 d1 d2; exact bodyPost_ret (v := .agg #[.float .f32 d.r, .float .f32 d.g, .float .f32 d.b]) (by simp [results, Try.results96, go_sem, d0, d1, d2]) rfl ⟨rfl, by (repeat' (first | (with_reducible exact Below.refl _ _) | (with_reducible assumption) | (with_reducible refine Below.alloc ?_ ?_ _) | (with_reducible refine Below.drew ?_) | (with_reducible refine Below.setCell ?_ ?_ _) | (with_reducible refine Below.trans ?_ (Below.mono (by assumption) ?_)) | (with_reducible exact Nat.le_refl _) | omega | (simp only [World.size_alloc, World.size_setCell, World.size_drew]; omega) | (simp; omega) | (simp; done)))⟩)⟩

structure TakeM (kind : Int) (g lc : Nat) (l : List Shd) (n s : Nat) (c : Lit) (m : List Lit) : Prop where
  call : ∀ w : World, ShRow w g 0 l → g < w.heap.size → Calls Try.prog 35 #[.int .i64 kind, .slice (some ⟨g, 0, Option.none⟩) l.length lc, .int .i64 n, .float .f32 s, .agg #[.float .f32 c.r, .float .f32 c.g, .float .f32 c.b]] w fun e w' => (∃ g cp, PicMade2 w.heap.size e w' n m g cp) ∧ Below w.heap.size w w'
set_option maxHeartbeats 16000000 in
theorem takeM {kind : Int} {g lc n s : Nat} {l : List Shd} {c : Lit} {col : Nat → Lit} (hk : kindB kind = true) (h1 : 1 ≤ n) (h8 : n ≤ 8) (hlen : l.length ≤ 12) (hok : ∀ s ∈ l, s.Ok) (hc : c.Ok) (SS : StepIs s)
    (HX : ∀ k, k < n * n → ∃ x y, FoldCell kind n s k x y ∧ SeenIs (some ⟨g, 0, Option.none⟩) l.length lc l x y c (col k)) : TakeM kind g lc l n s c (colsTo col (n * n)) := ⟨fun w hrow hg => by
  have A : AreIs (some ⟨g, 0, Option.none⟩) l.length lc l := areIs hlen hok
  have CY : ColIs c.r c.g c.b true := colYes (.inl hc.r) (.inl hc.g) (.inl hc.b)
  have YK := fun w => isKind_i kind w
  rw [hk] at YK
  have hs8 : sizeB (n : Int) = true := by unfold sizeB; simp; omega
  have YS := fun w => isSize_i n w
  rw [hs8] at YS
  have HC : Hid (∀ (W : World) (b1 b2 b3 b4 b5 : Nat), TakeBox W b1 b2 b3 b4 b5 g lc l kind n s c → ∀ k : Nat, k < n * n → CloM 96 W #[.int .i64 k, .pointer (some ⟨b1, 0, Option.none⟩), .pointer (some ⟨b2, 0, Option.none⟩), .pointer (some ⟨b3, 0, Option.none⟩), .pointer (some ⟨b4, 0, Option.none⟩), .pointer (some ⟨b5, 0, Option.none⟩)] (col k)) :=
    fun W b1 b2 b3 b4 b5 T k hk => by
      obtain ⟨x, y, F, S⟩ := HX k hk
      exact take_clo T F S
  have HP : Hid (∀ (w : World) (c1 c2 c3 c4 c5 : Value), (∀ k : Nat, k < n * n → CloM 96 w #[.int .i64 k, c1, c2, c3, c4, c5] (col k)) → Calls Try.prog 84 #[.int .i64 n, .func (.func 96) #[] #[c1, c2, c3, c4, c5]] w fun e w' => (∃ g cap, PicMade w.heap.size e w' n (colsTo col (n * n)) g cap) ∧ Below w.heap.size w w') :=
    fun w c1 c2 c3 c4 c5 C => pictureOf_t h1 h8 rfl w C
  generalize colsTo col (n * n) = m at HP ⊢
  have HR : Hid (ShRow w g 0 l) := hrow
  clear hrow hs8 hk hok hc HX hlen
  go_enter Try.func35, Try.ntmps35
  go_wp2_with fail
  generalize hW : (((((w.alloc (.cells #[.int .i64 kind] 3)).alloc (.cells #[.slice (some ⟨g, 0, Option.none⟩) l.length lc] 46)).alloc (.cells #[.int .i64 n] 3)).alloc (.cells #[.float .f32 s] 47)).alloc (.cells #[.float .f32 c.r, .float .f32 c.g, .float .f32 c.b] 49)).alloc (.cells #[.int .i64 0, .slice Option.none 0 0] 37) = X
  have T0 : Hid (TakeBox X (w.heap.size + 1) w.heap.size (w.heap.size + 1 + 1) (w.heap.size + 1 + 1 + 1) (w.heap.size + 1 + 1 + 1 + 1) g lc l kind n s c) := by
    rw [← hW]
    exact ⟨((((Blk.newAt (by simp)).alloc).alloc).alloc).alloc, (((((Blk.new _ _ _).alloc).alloc).alloc).alloc).alloc, (((Blk.newAt (by simp)).alloc).alloc).alloc, ((Blk.newAt (by simp)).alloc).alloc, (Blk.newAt (by simp)).alloc, row_alloc' (row_alloc' (row_alloc' (row_alloc' (row_alloc' (row_alloc' HR.out))))), by simp; omega⟩
  have R0 : Hid (Blk X (w.heap.size + 1 + 1 + 1 + 1 + 1) #[.int .i64 0, .slice Option.none 0 0] 37) := by rw [← hW]; exact Blk.newAt (by simp)
  have hB : Below w.heap.size w X := by rw [← hW]; (repeat' (first | (with_reducible exact Below.refl _ _) | (with_reducible assumption) | (with_reducible refine Below.alloc ?_ ?_ _) | (with_reducible refine Below.drew ?_) | (with_reducible refine Below.setCell ?_ ?_ _) | (with_reducible refine Below.trans ?_ (Below.mono (by assumption) ?_)) | (with_reducible exact Nat.le_refl _) | omega | (simp only [World.size_alloc, World.size_setCell, World.size_drew]; omega) | (simp; omega) | (simp; done)))
  have HB : Hid (Below w.heap.size w X) := hB
  have hs := hB.size
  clear hW hB HR
  have q2 := Blk.cellAt (i := 0) T0.out.k2 rfl
  simp only [List.getElem_toArray, List.getElem_cons_zero, List.getElem_cons_succ] at q2
  refine (YK _).mono ?_
  rintro e w1 ⟨rfl, rfl⟩
  have k1 := Blk.cellAt (i := 0) T0.out.k1 rfl
  have k2 := Blk.cellAt (i := 0) T0.out.k2 rfl
  have k3 := Blk.cellAt (i := 0) T0.out.k3 rfl
  have k4 := Blk.cellAt (i := 0) T0.out.k4 rfl
  have k5 := Blk.cellAt (i := 0) T0.out.k5 rfl
  have k6 := Blk.cellAt (i := 1) T0.out.k5 rfl
  have k7 := Blk.cellAt (i := 2) T0.out.k5 rfl
  simp only [List.getElem_toArray, List.getElem_cons_zero, List.getElem_cons_succ] at k1 k2 k3 k4 k5 k6 k7
  clear q2 YK
  go_wp2_with fail
  refine (A.call _ (rowAt_of' T0.out.row)).mono ?_
  rintro e w2 ⟨rfl, hb⟩
  have T2 : Hid (TakeBox w2 (w.heap.size + 1) w.heap.size (w.heap.size + 1 + 1) (w.heap.size + 1 + 1 + 1) (w.heap.size + 1 + 1 + 1 + 1) g lc l kind n s c) := T0.out.below hb
  have R2 : Hid (Blk w2 (w.heap.size + 1 + 1 + 1 + 1 + 1) #[.int .i64 0, .slice Option.none 0 0] 37) := R0.out.below hb
  have HB2 : Hid (Below w.heap.size w w2) := HB.out.trans (hb.mono hs)
  have hs2 := HB2.out.size
  clear hb T0 R0 HB hs A k1 k2 k3 k4 k5 k6 k7
  have k1 := Blk.cellAt (i := 0) T2.out.k1 rfl
  have k2 := Blk.cellAt (i := 0) T2.out.k2 rfl
  have k3 := Blk.cellAt (i := 0) T2.out.k3 rfl
  have k4 := Blk.cellAt (i := 0) T2.out.k4 rfl
  have k5 := Blk.cellAt (i := 0) T2.out.k5 rfl
  have k6 := Blk.cellAt (i := 1) T2.out.k5 rfl
  have k7 := Blk.cellAt (i := 2) T2.out.k5 rfl
  simp only [List.getElem_toArray, List.getElem_cons_zero, List.getElem_cons_succ] at k1 k2 k3 k4 k5 k6 k7
  go_wp2_with (first | (go_at_call 74; (with_reducible refine (YS _).mono ?_); rintro e w3 ⟨rfl, rfl⟩) | (go_at_call 94; (with_reducible refine (SS.call _).mono ?_); rintro e w4 ⟨rfl, rfl⟩))
  refine (CY.call _).mono ?_
  rintro e w5 ⟨rfl, hb⟩
  have T5 := T2.out.below hb
  have R5 : Hid (Blk w5 (w.heap.size + 1 + 1 + 1 + 1 + 1) #[.int .i64 0, .slice Option.none 0 0] 37) := R2.out.below hb
  have HB5 : Hid (Below w.heap.size w w5) := HB2.out.trans (hb.mono hs2)
  have hs5 := HB5.out.size
  have k3' := Blk.cellAt (i := 0) T5.k3 rfl
  simp only [List.getElem_toArray, List.getElem_cons_zero, List.getElem_cons_succ] at k3'
  have C := HC.out w5 _ _ _ _ _ T5
  clear hb T2 R2 HB2 hs2 k1 k2 k3 k4 k5 k6 k7 T5 CY YS
  have HCC : Hid _ := C
  clear C
  go_wp2_with fail
  refine (HP.out w5 _ _ _ _ _ HCC.out).mono ?_
  rintro e w6 ⟨⟨g6, cp, ⟨rfl, hown⟩⟩, hb⟩
  have R6 : Hid (Blk w6 (w.heap.size + 1 + 1 + 1 + 1 + 1) #[.int .i64 0, .slice Option.none 0 0] 37) := R5.out.below hb
  have HB6 : Hid (Below w.heap.size w w6) := HB5.out.trans (hb.mono hs5)
  have r0 := Blk.cellAt (i := 0) R6.out rfl
  have r1 := Blk.cellAt (i := 1) R6.out rfl
  have f0 := R6.out.free 0
  have f1 := R6.out.free 1
  have lr := R6.out.lt
  have lr5 := R5.out.lt
  simp only [List.getElem_toArray, List.getElem_cons_zero, List.getElem_cons_succ] at r0 r1
  have RS := (R6.out.set (i := 0) (v := .int .i64 n)).set (i := 1) (v := .slice (some ⟨g6, 0, Option.none⟩) m.length cp)
  have e0 := RS.cell 0
  have e1 := RS.cell 1
  simp only [List.setIfInBounds_toArray, List.set_cons_zero, List.set_cons_succ, List.getElem?_toArray, List.getElem?_cons_zero, List.getElem?_cons_succ] at e0 e1
  have HE0 : Hid (((w6.setCell ⟨w.heap.size + 1 + 1 + 1 + 1 + 1, 0, Option.none⟩ (.int .i64 n)).setCell ⟨w.heap.size + 1 + 1 + 1 + 1 + 1, 1, Option.none⟩ (.slice (some ⟨g6, 0, Option.none⟩) m.length cp)).cell? ⟨w.heap.size + 1 + 1 + 1 + 1 + 1, 0, Option.none⟩ = some (.int .i64 n)) := e0
  have HE1 : Hid (((w6.setCell ⟨w.heap.size + 1 + 1 + 1 + 1 + 1, 0, Option.none⟩ (.int .i64 n)).setCell ⟨w.heap.size + 1 + 1 + 1 + 1 + 1, 1, Option.none⟩ (.slice (some ⟨g6, 0, Option.none⟩) m.length cp)).cell? ⟨w.heap.size + 1 + 1 + 1 + 1 + 1, 1, Option.none⟩ = some (.slice (some ⟨g6, 0, Option.none⟩) m.length cp)) := e1
  have HOE : Hid (((w6.setCell ⟨w.heap.size + 1 + 1 + 1 + 1 + 1, 0, Option.none⟩ (.int .i64 n)).setCell ⟨w.heap.size + 1 + 1 + 1 + 1 + 1, 1, Option.none⟩ (.slice (some ⟨g6, 0, Option.none⟩) m.length cp)).ownsRow w.heap.size 49 3 (.slice (some ⟨g6, 0, Option.none⟩) m.length cp) m.length (litCells m)) := ownsLess (ownsSet (ownsSet hown (by dsimp only; omega)) (by dsimp only; omega)) hs5
  have HBE : Hid (Below w.heap.size w ((w6.setCell ⟨w.heap.size + 1 + 1 + 1 + 1 + 1, 0, Option.none⟩ (.int .i64 n)).setCell ⟨w.heap.size + 1 + 1 + 1 + 1 + 1, 1, Option.none⟩ (.slice (some ⟨g6, 0, Option.none⟩) m.length cp))) := (HB6.out.setCell (by dsimp only; omega) _).setCell (by dsimp only; omega) _
  clear hb hown RS e0 e1 HCC
  go_wp2
  have e0 := HE0.out
  have e1 := HE1.out
  exact bodyPost_ret (v := .tuple #[.agg #[.int .i64 n, .slice (some ⟨g6, 0, Option.none⟩) m.length cp], .bool true]) (by simp [results, Try.results35, go_sem, e0, e1]) rfl ⟨⟨g6, cp, rfl, HOE.out⟩, HBE.out⟩⟩
end Go.Proofs.Ytlnikapkheldeaa

/-
  SeenThrough, at a seat without lesserOf and greaterOf.
-/
namespace Go.Proofs.Ytlnikapkheldeaa
open Go.ChangeShapes Go.WideShapes Go.ChangeAt Go.RowKit Go.Joins
set_option linter.unusedSimpArgs false
set_option linter.unusedVariables false
set_option maxRecDepth 100000
attribute [local go_sem] store_f
open Ieee
attribute [local go_sem] store_c

set_option maxHeartbeats 4000000 in
theorem joinD_of {a1 a2 b1 b2 x y : Nat} (X : Op2 175 a1 b1 x) (Y : Op2 175 a2 b2 y) : Join 175 a1 a2 b1 b2 x y := ⟨fun w => by
  go_enter Try.func144, Try.ntmps144
  go_wp2_with (go_at_call 175; (first | (with_reducible refine (X.call _).mono ?_) | (with_reducible refine (Y.call _).mono ?_)); rintro e w1 ⟨rfl, rfl⟩)
  go_ret
  exact ⟨rfl, rfl⟩⟩
theorem sideIsD {a1 a2 b1 b2 p1 p2 : Nat} (ha1 : inB a1 = true) (ha2 : inB a2 = true) (hb1 : inB b1 = true) (hb2 : inB b2 = true) (hp1 : inB p1 = true) (hp2 : inB p2 = true) :
    SideIs a1 a2 b1 b2 p1 p2 (sideW a1 a2 b1 b2 p1 p2) := by
  have f1 := inB_fin ha1
  have f2 := inB_fin ha2
  have f3 := inB_fin hb1
  have f4 := inB_fin hb2
  have f5 := inB_fin hp1
  have f6 := inB_fin hp2
  exact side_of (ptYes ha1 ha2) (ptYes hb1 hb2) (ptYes hp1 hp2) (joinD_of (diff2 f3 f1) (diff2 f4 f2)) (joinD_of (diff2 f5 f1) (diff2 f6 f2))
    (prod2 (clT_cl _).fin (clT_cl _).fin) (prod2 (clT_cl _).fin (clT_cl _).fin) (diff2 (clM_cl _).fin (clM_cl _).fin)
theorem inIsD {s : Shd} {p1 p2 : Nat} (hs : shardB s = true) (h1 : inB p1 = true) (h2 : inB p2 = true) : InIs s p1 p2 (inSh s p1 p2) := by
  have hs' := hs
  unfold shardB ptB at hs'
  simp only [Bool.and_eq_true] at hs'
  obtain ⟨⟨⟨⟨⟨a1, a2⟩, b1, b2⟩, c1, c2⟩, _⟩, _⟩ := hs'
  have X := sideIsD a1 a2 b1 b2 h1 h2
  have Y := sideIsD b1 b2 c1 c2 h1 h2
  have Z := sideIsD c1 c2 a1 a2 h1 h2
  have D := sides_of ⟨fun w => cornersOf_i s w⟩ X Y Z
  have S := shdIs s
  rw [hs] at S
  have fx := (side_cl s.a1 s.a2 s.b1 s.b2 p1 p2).fin
  have fy := (side_cl s.b1 s.b2 s.c1 s.c2 p1 p2).fin
  have fz := (side_cl s.c1 s.c2 s.a1 s.a2 p1 p2).fin
  unfold inSh
  generalize sideW s.a1 s.a2 s.b1 s.b2 p1 p2 = x at *
  generalize sideW s.b1 s.b2 s.c1 s.c2 p1 p2 = y at *
  generalize sideW s.c1 s.c2 s.a1 s.a2 p1 p2 = z at *
  obtain ⟨m, m1, m2, _, m3, m4, m5⟩ := min_val fx fy
  obtain ⟨n, n1, n2, _, n3, n4, n5⟩ := min_val m2 fz
  obtain ⟨u, u1, u2, _, u3, u4, u5⟩ := max_val fx fy
  obtain ⟨v, v1, v2, _, v3, v4, v5⟩ := max_val u2 fz
  have H := in_of S (ptYes h1 h2) D ⟨fun w g cap R => slMin ⟨m1⟩ ⟨n1⟩ w g cap R⟩ ⟨fun w g cap R => slMax ⟨u1⟩ ⟨v1⟩ w g cap R⟩ rfl rfl
  rw [order_zero n2, order_zero v2, cmp_eq, cmp_eq, cmp_lt, cmp_gt] at H
  have e : (decide (0 < valOf F32 n) || decide (valOf F32 n = 0) || (decide (valOf F32 v < 0) || decide (valOf F32 v = 0))) = inZ (valOf F32 x) (valOf F32 y) (valOf F32 z) := by
    unfold inZ
    rw [Bool.eq_iff_iff]
    simp only [Bool.or_eq_true, decide_eq_true_eq]
    omega
  rwa [e] at H
theorem stepMD {x y : Nat} {c : Lit} {s : Shd} (hs : s.Ok) (hc : c.Ok) (hx : inB x = true) (hy : inB y = true) : StepM x y c s (stepC x y c s) := by
  have I := inIsD hs.yes hx hy
  cases h : inSh s x y
  · rw [h] at I
    rw [stepC_no h]
    exact step_no I
  · rw [h] at I
    rw [stepC_yes h]
    exact step_yes I (filM (.inl hc.r) (.inl hc.g) (.inl hc.b) hs.r hs.g hs.b) (mixN (Part.mul (.inl hc.r) hs.r) (Part.mul (.inl hc.g) hs.g) (Part.mul (.inl hc.b) hs.b) (.inl hc.r) (.inl hc.g) (.inl hc.b) hs.k)
set_option maxHeartbeats 8000000 in
theorem foldIsD {a : Option Addr} {cap x y : Nat} {l : List Shd} {c : Lit} (hlen : l.length ≤ 12) (hok : ∀ s ∈ l, s.Ok) (hc : c.Ok) (hx : inB x = true) (hy : inB y = true) : FoldIs a l.length cap l x y c (lightOf x y l c) := ⟨fun q w hrow hq => by
  have HK : Hid (∀ j, j < l.length → StepM x y (lightOf x y (l.take j) c) (l.getD j default) (lightOf x y (l.take (j + 1)) c)) := fun j hj => by
    rw [lightOf_snoc hj]
    exact stepMD (hok _ (by simp [List.getD, hj])) (lightOf_ok _ (fun s hs => hok s (List.mem_of_mem_take hs)) hc) hx hy
  have H0 : Hid (lightOf x y (l.take 0) c = c) := by rw [List.take_zero]; exact lightOf_nil x y c
  have he : lightOf x y (l.take l.length) c = lightOf x y l c := by rw [List.take_length]
  have HE : Hid (lightOf x y (l.take l.length) c = lightOf x y l c) := he
  clear he
  have HR : Hid (RowAt w a l) := hrow
  have HQ : Hid (w.cell? ⟨q, 0, Option.none⟩ = some (.complex .f32 x y)) := hq
  clear hrow hq hok hc hx hy
  generalize lightOf x y l c = z at HE ⊢
  generalize hL : (fun j : Nat => lightOf x y (l.take j) c) = L
  have HK' : Hid (∀ j, j < l.length → StepM x y (L j) (l.getD j default) (L (j + 1))) := by rw [← hL]; exact HK.out
  have H0' : L 0 = c := by rw [← hL]; exact H0.out
  have HE' : L l.length = z := by rw [← hL]; exact HE.out
  clear HK H0 HE hL
  subst H0' HE'
  go_enter Try.func138, Try.ntmps138
  go_wp2_with fail
  generalize hW : (w.alloc (.cells #[.float .f32 (L 0).r, .float .f32 (L 0).g, .float .f32 (L 0).b] 49)).alloc (.cells #[.float .f32 0, .float .f32 0, .float .f32 0] 49) = X
  have C0 : Blk X w.heap.size #[.float .f32 (L 0).r, .float .f32 (L 0).g, .float .f32 (L 0).b] 49 := by rw [← hW]; exact (Blk.new _ _ _).alloc
  have R0 : Blk X (w.heap.size + 1) #[.float .f32 0, .float .f32 0, .float .f32 0] 49 := by rw [← hW]; exact Blk.newAt (by simp)
  have hB : Below w.heap.size w X := by rw [← hW]; (repeat' (first | (with_reducible exact Below.refl _ _) | (with_reducible assumption) | (with_reducible refine Below.alloc ?_ ?_ _) | (with_reducible refine Below.drew ?_) | (with_reducible refine Below.setCell ?_ ?_ _) | (with_reducible refine Below.trans ?_ (Below.mono (by assumption) ?_)) | (with_reducible exact Nat.le_refl _) | omega | (simp only [World.size_alloc, World.size_setCell, World.size_drew]; omega) | (simp; omega) | (simp; done)))
  clear hW
  go_loopw [11] (fun i wr => ∃ j : Nat, j ≤ l.length ∧ i = .int .i64 j ∧ Blk wr w.heap.size #[.float .f32 (L j).r, .float .f32 (L j).g, .float .f32 (L j).b] 49 ∧ Blk wr (w.heap.size + 1) #[.float .f32 0, .float .f32 0, .float .f32 0] 49 ∧ Below w.heap.size w wr) (fun i _ => l.length - (intOf i).toNat)
  case atStart => exact ⟨0, by omega, rfl, C0, R0, hB⟩
  case round =>
    obtain ⟨j, hj, rfl, hC, hR0, hbel⟩ := hrel
    have HB : Hid (Below w.heap.size w wr) := hbel
    have CC : Hid (Blk wr w.heap.size #[.float .f32 (L j).r, .float .f32 (L j).g, .float .f32 (L j).b] 49) := hC
    have RR : Hid (Blk wr (w.heap.size + 1) #[.float .f32 0, .float .f32 0, .float .f32 0] 49) := hR0
    have hbs := hbel.size
    have lr := hR0.lt
    have lr0 : w.heap.size < wr.heap.size := by omega
    clear C0 R0 hB hC hR0
    have k0 := Blk.cellAt (i := 0) CC.out rfl
    have k1 := Blk.cellAt (i := 1) CC.out rfl
    have k2 := Blk.cellAt (i := 2) CC.out rfl
    simp only [List.getElem_toArray, List.getElem_cons_zero, List.getElem_cons_succ] at k0 k1 k2
    by_cases hlt : j < l.length
    · have K := HK'.out j hlt
      rcases HR.out with hnil | ⟨b, off, rfl, hRR⟩
      · exfalso; rw [hnil] at hlt; simp at hlt
      have hrow := (ShRow.below hRR hbel) j hlt
      have hqq := cBelow hbel HQ.out
      generalize l.getD j default = s at hrow K
      generalize hd : L (j + 1) = d at K
      generalize L j = c at *
      obtain ⟨d0, d1, d2, d3, d4, d5, d6⟩ := hrow
      have HQQ : Hid ((wr.alloc (.cells #[.complex .f32 s.a1 s.a2, .complex .f32 s.b1 s.b2, .complex .f32 s.c1 s.c2, .float .f32 s.r, .float .f32 s.g, .float .f32 s.b, .float .f32 s.k] 57)).cell? ⟨q, 0, Option.none⟩ = some (.complex .f32 x y)) := cAlloc hqq
      clear hbel hRR hqq
      go_wp2_with fail
      refine (K.call q _ HQQ.out).mono ?_
      rintro e w2 ⟨rfl, hb⟩
      have HB2 : Hid (Below w.heap.size w w2) := (HB.out.alloc (by omega) _).trans (hb.mono (by simp; omega))
      have C2 : Hid (Blk w2 w.heap.size #[.float .f32 c.r, .float .f32 c.g, .float .f32 c.b] 49) := CC.out.alloc.below hb
      have R2 : Hid (Blk w2 (w.heap.size + 1) #[.float .f32 0, .float .f32 0, .float .f32 0] 49) := RR.out.alloc.below hb
      clear hb d0 d1 d2 d3 d4 d5 d6 k0 k1 k2 HQQ CC RR HB
      have HD : Hid (L (j + 1) = d) := hd
      clear hd
      have l2 := R2.out.lt
      have l20 := C2.out.lt
      have o0 := Blk.cellAt (i := 0) C2.out rfl
      have o1 := Blk.cellAt (i := 1) C2.out rfl
      have o2 := Blk.cellAt (i := 2) C2.out rfl
      have f0 := C2.out.free 0
      have f1 := C2.out.free 1
      have f2 := C2.out.free 2
      simp only [List.getElem_toArray, List.getElem_cons_zero, List.getElem_cons_succ] at o0 o1 o2
      go_wp2
      go_roundw
      case rel =>
        have hbb := HB2.out
        exact ⟨j + 1, by omega, by go_num, by rw [HD.out]; exact Blk.setAt (b := w.heap.size) rfl (Blk.setAt (b := w.heap.size) rfl (Blk.setAt (b := w.heap.size) rfl C2.out rfl) rfl) rfl, ((R2.out.other (by dsimp only; omega)).other (by dsimp only; omega)).other (by dsimp only; omega), by (repeat' (first | (with_reducible exact Below.refl _ _) | (with_reducible assumption) | (with_reducible refine Below.alloc ?_ ?_ _) | (with_reducible refine Below.drew ?_) | (with_reducible refine Below.setCell ?_ ?_ _) | (with_reducible refine Below.trans ?_ (Below.mono (by assumption) ?_)) | (with_reducible exact Nat.le_refl _) | omega | (simp only [World.size_alloc, World.size_setCell, World.size_drew]; omega) | (simp; omega) | (simp; done)))⟩
      case measure => simp [intOf]; omega
    · have hjm : j = l.length := by omega
      subst hjm
      clear hbel
      have o0 := Blk.cellAt (i := 0) RR.out rfl
      have o1 := Blk.cellAt (i := 1) RR.out rfl
      have o2 := Blk.cellAt (i := 2) RR.out rfl
      have f0 := RR.out.free 0
      have f1 := RR.out.free 1
      have f2 := RR.out.free 2
      simp only [List.getElem_toArray, List.getElem_cons_zero, List.getElem_cons_succ] at o0 o1 o2
      go_wp2
      have hbb := HB.out
      (have d0 := (RR.out.set (i := 0) (v := .float .f32 (L l.length).r)).cell 0; have d1 := ((RR.out.set (i := 0) (v := .float .f32 (L l.length).r)).set (i := 1) (v := .float .f32 (L l.length).g)).cell 1; have d2 := (((RR.out.set (i := 0) (v := .float .f32 (L l.length).r)).set (i := 1) (v := .float .f32 (L l.length).g)).set (i := 2) (v := .float .f32 (L l.length).b)).cell 2; simp only [List.setIfInBounds_toArray, List.set_cons_zero, List.set_cons_succ, List.getElem?_toArray, List.getElem?_cons_zero, List.getElem?_cons_succ] at d0 d1 d2; exact bodyPost_ret (v := .agg #[.float .f32 (L l.length).r, .float .f32 (L l.length).g, .float .f32 (L l.length).b]) (by simp [results, Try.results138, go_sem, d0, d1, d2]) rfl ⟨rfl, by (repeat' (first | (with_reducible exact Below.refl _ _) | (with_reducible assumption) | (with_reducible refine Below.alloc ?_ ?_ _) | (with_reducible refine Below.drew ?_) | (with_reducible refine Below.setCell ?_ ?_ _) | (with_reducible refine Below.trans ?_ (Below.mono (by assumption) ?_)) | (with_reducible exact Nat.le_refl _) | omega | (simp only [World.size_alloc, World.size_setCell, World.size_drew]; omega) | (simp; omega) | (simp; done)))⟩)⟩

theorem seenIsD {a : Option Addr} {cap x y : Nat} {l : List Shd} {c : Lit} (hlen : l.length ≤ 12) (hok : ∀ s ∈ l, s.Ok) (hc : c.Ok) (hx : inB x = true) (hy : inB y = true) : SeenIs a l.length cap l x y c (lightOf x y l c) :=
  seen_of ⟨(areIs hlen hok).call⟩ (ptYes hx hy) (colYes (.inl hc.r) (.inl hc.g) (.inl hc.b)) (foldIsD hlen hok hc hx hy)
end Go.Proofs.Ytlnikapkheldeaa

/-
  Pictures taken between mirrors have their symmetries.
-/
namespace Go.Proofs.Ytlnikapkheldeaa
open Go.ChangeShapes Go.WideShapes Go.ChangeAt Go.RowKit Go.Joins
set_option linter.unusedSimpArgs false
set_option linter.unusedVariables false
set_option maxRecDepth 100000
attribute [local go_sem] store_f
open Ieee

noncomputable def foldP {kind : Int} (h0 : 0 ≤ kind) (h3 : kind ≤ 3) (p : PtW) : PtW := Classical.choose (fold_of h0 h3 p)
theorem foldP_in {kind : Int} (h0 : 0 ≤ kind) (h3 : kind ≤ 3) (p : PtW) : ∃ s ∈ symsTo kind 8, foldP h0 h3 p = actP s p ∧ wed kind (foldP h0 h3 p) = true := (Classical.choose_spec (fold_of h0 h3 p)).1
theorem foldP_call {kind : Int} (h0 : 0 ≤ kind) (h3 : kind ≤ 3) (p : PtW) : ∃ t f, FoldM kind p.1.1 p.1.2 (foldP h0 h3 p).1.1 (foldP h0 h3 p).1.2 t f := (Classical.choose_spec (fold_of h0 h3 p)).2
theorem foldP_img {kind : Int} (h0 : 0 ≤ kind) (h3 : kind ≤ 3) (p : PtW) {s : Int × Bool} (hs : s ∈ symsTo kind 8) : foldP h0 h3 (actP s p) = foldP h0 h3 p :=
  fold_img h0 h3 hs (foldP_in h0 h3 p) (foldP_in h0 h3 (actP s p))

/-! Cells that show the same in their orbits. -/
theorem same_act {kind : Int} (h0 : 0 ≤ kind) (h3 : kind ≤ 3) {n : Nat} (h8 : n ≤ 8) {col : Nat → Lit} (h : ∀ k, k < n * n → ∀ s ∈ symsTo kind 8, col (cellN n s.1.toNat s.2 k) = col k) {s : Int × Bool} (hs : s ∈ symsTo kind 8) : actL n s (colsTo col (n * n)) = colsTo col (n * n) := by
  obtain ⟨t, ht, h4⟩ := symsTo_in kind s hs
  have hb := syms_back kind h0 h3 s hs
  obtain ⟨s1, f⟩ := s
  simp only [] at ht hb
  subst ht
  have hJ := back_in ⟨t, h4⟩ f
  dsimp only at hJ
  have hc := fun k hk => h k hk _ hb
  simp only [] at hc
  apply list_ext (by rw [actL_len, colsTo_len])
  intro k hk
  rw [actL_len] at hk
  rw [show actL n ((t : Int), f) (colsTo col (n * n)) = actCols n t f (colsTo col (n * n)) from rfl, act_get hk, colsTo_get (cell_lt' h8 hk hJ.2), colsTo_get hk]
  exact hc k hk
theorem foldMin_mem (n k : Nat) (L : List (Int × Bool)) : ∀ m, L.foldl (fun m p => min m (cellN n p.1.toNat p.2 k)) m = m ∨ ∃ s ∈ L, L.foldl (fun m p => min m (cellN n p.1.toNat p.2 k)) m = cellN n s.1.toNat s.2 k := by
  induction L with
  | nil => intro m; exact .inl rfl
  | cons a L ih =>
    intro m
    rw [List.foldl_cons]
    rcases ih (min m (cellN n a.1.toNat a.2 k)) with h | ⟨s, hs, h⟩
    · rw [h]
      rcases Nat.le_total m (cellN n a.1.toNat a.2 k) with g | g
      · left; exact Nat.min_eq_left g
      · right; exact ⟨a, List.mem_cons_self, Nat.min_eq_right g⟩
    · exact .inr ⟨s, List.mem_cons_of_mem _ hs, h⟩
theorem leastN_mem (kind : Int) (n k : Nat) : leastN kind n k = k ∨ ∃ s ∈ symsTo kind 8, leastN kind n k = cellN n s.1.toNat s.2 k := foldMin_mem n k _ k
theorem same_spread {kind : Int} {n : Nat} {col : Nat → Lit} (h : ∀ k, k < n * n → ∀ s ∈ symsTo kind 8, col (cellN n s.1.toNat s.2 k) = col k) : spreadCols kind n (colsTo col (n * n)) = colsTo col (n * n) := by
  apply list_ext (by unfold spreadCols; rw [colsTo_len, colsTo_len])
  intro k hk
  unfold spreadCols at hk ⊢
  rw [colsTo_len] at hk
  rw [colsTo_get hk, colsTo_get hk, colsTo_get (show leastN kind n k < n * n from Nat.lt_of_le_of_lt (leastL_le n k (symsTo kind 8)) hk)]
  rcases leastN_mem kind n k with e | ⟨s, hs, e⟩
  · rw [e]
  · rw [e]; exact h k hk s hs

/-- What each cell of a taken picture shows. -/
noncomputable def colT {kind : Int} (h0 : 0 ≤ kind) (h3 : kind ≤ 3) {i n : Nat} (hi : i < 5) (h1 : 1 ≤ n) (h8 : n ≤ 8) (l : List Shd) (c : Lit) (k : Nat) : Lit :=
  if hk : k < n * n then lightOf (foldP h0 h3 (zOf i n k hi h1 h8 hk)).1.1 (foldP h0 h3 (zOf i n k hi h1 h8 hk)).1.2 l c else default
section
variable {kind : Int} (h0 : 0 ≤ kind) (h3 : kind ≤ 3) {i n : Nat} (hi : i < 5) (h1 : 1 ≤ n) (h8 : n ≤ 8) (l : List Shd) (c : Lit)
theorem colT_at {k : Nat} (hk : k < n * n) : colT h0 h3 hi h1 h8 l c k = lightOf (foldP h0 h3 (zOf i n k hi h1 h8 hk)).1.1 (foldP h0 h3 (zOf i n k hi h1 h8 hk)).1.2 l c := by
  unfold colT; rw [dif_pos hk]
theorem colT_act {k : Nat} (hk : k < n * n) {s : Int × Bool} (hs : s ∈ symsTo kind 8) : colT h0 h3 hi h1 h8 l c (cellN n s.1.toNat s.2 k) = colT h0 h3 hi h1 h8 l c k := by
  obtain ⟨t, ht, h4⟩ := symsTo_in kind s hs
  obtain ⟨s1, f⟩ := s
  simp only [] at ht
  subst ht
  have e : ((t : Int)).toNat = t := rfl
  simp only [e]
  rw [colT_at h0 h3 hi h1 h8 l c (cell_lt' h8 hk h4), colT_at h0 h3 hi h1 h8 l c hk, ← zOf_act hi h1 h8 hk h4, foldP_img h0 h3 _ hs]
theorem colT_ok (hl : ∀ s ∈ l, s.Ok) (hc : c.Ok) {k : Nat} (hk : k < n * n) : (colT h0 h3 hi h1 h8 l c k).Ok := by
  rw [colT_at h0 h3 hi h1 h8 l c hk]
  exact lightOf_ok l hl hc
/-- The cells of a taken picture. -/
noncomputable def takeCols : List Lit := colsTo (colT h0 h3 hi h1 h8 l c) (n * n)
theorem take_len : (takeCols h0 h3 hi h1 h8 l c).length = n * n := by unfold takeCols; rw [colsTo_len]
theorem take_get {k : Nat} (hk : k < n * n) : (takeCols h0 h3 hi h1 h8 l c).getD k default = colT h0 h3 hi h1 h8 l c k := by unfold takeCols; rw [colsTo_get hk]
theorem take_oks (hl : ∀ s ∈ l, s.Ok) (hc : c.Ok) : Oks (takeCols h0 h3 hi h1 h8 l c) := by
  intro d hd
  unfold takeCols colsTo at hd
  obtain ⟨k, hk, rfl⟩ := List.mem_map.1 hd
  exact colT_ok h0 h3 hi h1 h8 l c hl hc (List.mem_range.1 hk)
theorem take_act {s : Int × Bool} (hs : s ∈ symsTo kind 8) : actL n s (takeCols h0 h3 hi h1 h8 l c) = takeCols h0 h3 hi h1 h8 l c :=
  same_act h0 h3 h8 (fun k hk s hs => colT_act h0 h3 hi h1 h8 l c hk hs) hs
theorem take_spread : spreadCols kind n (takeCols h0 h3 hi h1 h8 l c) = takeCols h0 h3 hi h1 h8 l c :=
  same_spread fun k hk s hs => colT_act h0 h3 hi h1 h8 l c hk hs
theorem take_syms (hl : ∀ s ∈ l, s.Ok) (hc : c.Ok) {s : Int × Bool} (hs : s ∈ symsTo kind 8) (hs8 : s ∈ symsTo 3 8) : s ∈ picSyms n (takeCols h0 h3 hi h1 h8 l c) :=
  (picSyms_iff h8 (take_len h0 h3 hi h1 h8 l c) (take_oks h0 h3 hi h1 h8 l c hl hc)).2 ⟨hs8, take_act h0 h3 hi h1 h8 l c hs⟩
end
theorem syms_all {kind : Int} (h0 : 0 ≤ kind) (h3 : kind ≤ 3) : ∀ s ∈ symsTo kind 8, s ∈ symsTo 3 8 := by
  rcases (by omega : kind = 0 ∨ kind = 1 ∨ kind = 2 ∨ kind = 3) with rfl | rfl | rfl | rfl <;> decide +kernel
/-- TakePicture, whatever is drawn. -/
theorem takes {kind : Int} (h0 : 0 ≤ kind) (h3 : kind ≤ 3) {i n : Nat} (hi : i < 5) (h1 : 1 ≤ n) (h8 : n ≤ 8) {g lc : Nat} {l : List Shd} {c : Lit} (hlen : l.length ≤ 12) (hok : ∀ s ∈ l, s.Ok) (hc : c.Ok) :
    TakeM kind g lc l n (stepB i) c (takeCols h0 h3 hi h1 h8 l c) :=
  takeM (by unfold kindB; simp; omega) h1 h8 hlen hok hc (stepIs hi) fun k hk => by
    obtain ⟨a, b⟩ := pl_bd h1 hk
    obtain ⟨t, f, F⟩ := foldP_call h0 h3 (zOf i n k hi h1 h8 hk)
    have q := (foldP h0 h3 (zOf i n k hi h1 h8 hk)).2
    refine ⟨_, _, foldCell (cellPl_yes h1 h8 hk) (joinM (prodM hi (by omega) (by omega)) (prodM hi (by omega) (by omega))) F, ?_⟩
    rw [colT_at h0 h3 hi h1 h8 l c hk]
    exact seenIsD hlen hok hc (ok_in q.1.ok) (ok_in q.2.ok)
end Go.Proofs.Ytlnikapkheldeaa

/-
  The draw of what a picture is taken of.
-/
namespace Go.Proofs.Ytlnikapkheldeaa
open Go.ChangeShapes Go.WideShapes Go.ChangeAt Go.RowKit Go.Joins
set_option linter.unusedSimpArgs false
set_option linter.unusedVariables false
set_option maxRecDepth 100000
attribute [local go_sem] store_f
open Ieee

theorem Hid.mk'' {p : Prop} (h : p) : Hid p := h
structure SixDrawn (B q : Nat) (w : World) (e : Ending) (w' : World) (m : Nat) : Prop where
  ret : e = .returned (.int .i64 m)
  ge : 1 ≤ m
  le : m ≤ 6
  cur : Cur B w' q
  grown : w.grownBy w' (some q)
set_option maxHeartbeats 1000000 in
theorem some_6 (B q : Nat) (w : World) (hcur : Cur B w q) :
    Calls Try.prog 90 #[.pointer (some ⟨q, 0, Option.none⟩), .int .i64 1, .int .i64 6] w fun e w' => ∃ m, SixDrawn B q w e w' m := by
  have HC : Hid (Cur B w q) := hcur
  clear hcur
  go_enter Try.func90, Try.ntmps90
  go_wp2_with fail
  refine (l1Below_s B q 6 _ HC.out (by omega) (by omega)).mono ?_
  rintro e w1 ⟨x, rfl, hx0, hx1, hc1, hg1⟩
  obtain ⟨n, rfl⟩ : ∃ n : Nat, x = n := ⟨x.toNat, by omega⟩
  have HC1 : Hid (Cur B w1 q) := hc1
  have HG1 : Hid (w.grownBy w1 (some q)) := hg1
  have hn : n < 6 := by omega
  clear hc1 hg1
  go_wp2
  go_ret
  exact ⟨n + 1, by first | rfl | (simp; omega), by omega, by omega, HC1.out, HG1.out⟩

/-- The state of the draw: its cursor, what has grown, the colour's box. -/
structure Drw (B q r : Nat) (w0 w : World) : Prop where
  cur : Cur B w q
  gr : w0.grownBy w (some q)
  col : Blk w r #[.float .f32 0, .float .f32 0, .float .f32 0] 49
  ne : r ≠ q
theorem Drw.drew {B q r : Nat} {w0 w : World} (h : Drw B q r w0 w) : Drw B q r w0 w.drew := ⟨h.cur, grownBy_draws (n := 1) h.gr, h.col, h.ne⟩
theorem Drw.alloc {B q r : Nat} {w0 w : World} {o : Obj} (h : Drw B q r w0 w) : Drw B q r w0 (w.alloc o) := ⟨h.cur.alloc, grown_alloc h.gr _, h.col.alloc, h.ne⟩
theorem Drw.step {B q r : Nat} {w0 w w2 : World} (hc : Cur B w2 q) (hg : w.grownBy w2 (some q)) (h : Drw B q r w0 w) : Drw B q r w0 w2 := ⟨hc, grownBy_trans h.gr hg, h.col.grown hg h.ne, h.ne⟩
/-- The five steps in memory. -/
structure Stps (q : Nat) (w : World) (b : Nat) : Prop where
  lo : q < b
  lt : b < w.heap.size
  at_ : ∀ k, k < 5 → w.cell? ⟨b, k, Option.none⟩ = some (.float .f32 (stepB k))
theorem stps_arr : ∀ k, k < 5 → (#[.float .f32 1048576000, .float .f32 1056964608, .float .f32 1065353216, .float .f32 1073741824, .float .f32 1050253722] : Array Value)[k]? = some (.float .f32 (stepB k)) := by
  intro k hk
  rcases (by omega : k = 0 ∨ k = 1 ∨ k = 2 ∨ k = 3 ∨ k = 4) with rfl | rfl | rfl | rfl | rfl <;> rfl
theorem stps_list : ∀ k, k < 5 → ([.float .f32 1048576000, .float .f32 1056964608, .float .f32 1065353216, .float .f32 1073741824, .float .f32 1050253722] : List Value)[k]? = some (.float .f32 (stepB k)) := by
  intro k hk
  rcases (by omega : k = 0 ∨ k = 1 ∨ k = 2 ∨ k = 3 ∨ k = 4) with rfl | rfl | rfl | rfl | rfl <;> rfl
theorem stps_get {k : Nat} (hk : k < 5) : ([.float .f32 1048576000, .float .f32 1056964608, .float .f32 1065353216, .float .f32 1073741824, .float .f32 1050253722] : List Value)[k]'hk = .float .f32 (stepB k) := by
  rcases (by omega : k = 0 ∨ k = 1 ∨ k = 2 ∨ k = 3 ∨ k = 4) with rfl | rfl | rfl | rfl | rfl <;> rfl
theorem Stps.new {q : Nat} {w : World} (h : q < w.heap.size) : Stps q (w.alloc (.cells #[.float .f32 1048576000, .float .f32 1056964608, .float .f32 1065353216, .float .f32 1073741824, .float .f32 1050253722] 47)) w.heap.size :=
  ⟨h, by simp, fun k hk => ((Blk.new _ _ _).cell k).trans (stps_arr k hk)⟩
theorem Stps.grown {q b : Nat} {w w2 : World} (hg : w.grownBy w2 (some q)) (h : Stps q w b) : Stps q w2 b :=
  ⟨h.lo, Nat.lt_of_lt_of_le h.lt hg.size, fun k hk => (World.cell?_of_block (hg.block b h.lt (fun e => by have := h.lo; cases e; omega))).trans (h.at_ k hk)⟩

theorem row_alloc1 {W : World} {g : Nat} {o : Obj} {l : List Shd} (h : ShRow W g 0 l) : ShRow (W.alloc o) g 0 l := h.below ((Below.refl _ _).alloc (Nat.le_refl _) _)
structure TakenDrawn (w : World) (e : Ending) (w' : World) (kind : Int) (g cap : Nat) (l : List Shd) (n i : Nat) (c : Lit) : Prop where
  ret : e = .returned (.tuple #[.int .i64 kind, .slice (some ⟨g, 0, Option.none⟩) l.length cap, .int .i64 n, .float .f32 (stepB i), .agg #[.float .f32 c.r, .float .f32 c.g, .float .f32 c.b]])
  k0 : 0 ≤ kind
  k3 : kind ≤ 3
  len : l.length ≤ 6
  lt : g < w'.heap.size
  row : ShRow w' g 0 l
  ok : ∀ s ∈ l, s.Drawn
  n1 : 1 ≤ n
  n6 : n ≤ 6
  i5 : i < 5
  cok : c.Ok
  below : Below w.heap.size w w'

set_option maxHeartbeats 64000000 in
theorem drawTaken_s (a : Option Addr) (len cap : Nat) (bs : List Int) (w : World) (hrow : ByteRow w w.heap.size a len bs) (hlen : len ≤ 4096) :
    Calls Try.prog 34 #[.slice a len cap] w fun e w' => ∃ kind g cp l n i c, TakenDrawn w e w' kind g cp l n i c := by
  have HR : Hid (ByteRow w w.heap.size a len bs) := hrow
  clear hrow
  go_enter Try.func34, Try.ntmps34
  go_wp2_with fail
  generalize hV : w.alloc (.cells #[.float .f32 0, .float .f32 0, .float .f32 0] 49) = V
  have RV : Hid (Blk V w.heap.size #[.float .f32 0, .float .f32 0, .float .f32 0] 49) := by rw [← hV]; exact Blk.new _ _ _
  have hB : Below w.heap.size w V := by rw [← hV]; (repeat' (first | (with_reducible exact Below.refl _ _) | (with_reducible assumption) | (with_reducible refine Below.alloc ?_ ?_ _) | (with_reducible refine Below.drew ?_) | (with_reducible refine Below.setCell ?_ ?_ _) | (with_reducible refine Below.trans ?_ (Below.mono (by assumption) ?_)) | (with_reducible exact Nat.le_refl _) | omega | (simp only [World.size_alloc, World.size_setCell, World.size_drew]; omega) | (simp; omega) | (simp; done)))
  have sV : V.heap.size = w.heap.size + 1 := by rw [← hV]; simp
  clear hV
  refine (l1New_s a len cap bs _ ((HR.out.of hB).mono hB.size) hlen).mono ?_
  rintro e w1 ⟨q, rfl, hql, hcur, hb1⟩
  have hqB := hcur.ge
  have D1 : Drw V.heap.size q w.heap.size w1 w1 := ⟨hcur, grownBy_refl _ _, RV.out.below hb1, by omega⟩
  have B1 : Hid (Below w.heap.size w w1) := hB.trans (hb1.mono (by omega))
  have s1 := hb1.size
  have hq1 := hcur.lt
  clear hcur hb1 hB RV HR
  go_wp2_with fail
  go_region_with (first
    | (go_at_call 73; (with_reducible refine (l1Below_s V.heap.size q 4 _ ?_ (by omega) (by omega)).mono ?_); (next => first | exact D1.drew.cur | exact D1.drew.alloc.cur); rintro e w2 ⟨x, rfl, hx0, hx1, hc, hg⟩; have D2 : Drw V.heap.size q w.heap.size w1 w2 := (by first | exact Drw.step hc hg D1.drew | exact Drw.step hc hg D1.drew.alloc); (try (have hsl := Stps.grown hg (Stps.new (show q < _ from D1.drew.cur.lt)))); (try simp only [World.size_drew] at hsl); clear hc hg)
    | (go_at_call 89; (with_reducible refine (l3List_s V.heap.size q _ ?_).mono ?_); (next => first | exact D2.cur | exact D2.alloc.cur); rintro e w3 ⟨l, ⟨⟨g, lc, rfl, hgl, hgs, hrow, hcap⟩, hll, hok, hc, hg⟩⟩; have D3 : Drw V.heap.size q w.heap.size w1 w3 := (by first | exact Drw.step hc hg D2 | exact Drw.step hc hg D2.alloc); (try (first | have hsl := Stps.grown hg hsl | have hsl := Stps.grown hg (Stps.new (show q < _ from D2.cur.lt)))); have HL3 : Hid (ShRow w3 g 0 l) := hrow; have HOK : Hid (∀ s ∈ l, s.Drawn) := hok; have hgq : g ≠ q := (by have := D2.cur.lt; (try simp only [World.size_alloc] at hgl); omega); clear hrow hok; clear hc hg)
    | (go_at_call 90; (with_reducible refine (some_6 V.heap.size q _ ?_).mono ?_); (next => first | exact D3.cur | exact D3.alloc.cur); rintro e w4 ⟨n, ⟨rfl, hn1, hn6, hc, hg⟩⟩; have sz4 := hg.size; (try simp only [World.size_alloc] at sz4); have D4 : Drw V.heap.size q w.heap.size w1 w4 := (by first | exact Drw.step hc hg D3 | exact Drw.step hc hg D3.alloc); (try (first | have hsl := Stps.grown hg hsl | have hsl := Stps.grown hg (Stps.new (show q < _ from D3.cur.lt)))); have HL4 : Hid (ShRow w4 g 0 l) := (by first | exact ShRow.grown HL3.out hg (fun h => hgq (Option.some.inj h).symm) | exact ShRow.grown (row_alloc1 HL3.out) hg (fun h => hgq (Option.some.inj h).symm)); clear hc hg)
    | (go_at_call 73; (with_reducible refine (l1Below_s V.heap.size q 5 _ ?_ (by omega) (by omega)).mono ?_); (next => first | exact D4.cur | exact D4.alloc.cur); rintro e w5 ⟨y, rfl, hy0, hy1, hc, hg⟩; have sz5 := hg.size; (try simp only [World.size_alloc] at sz5); have D5 : Drw V.heap.size q w.heap.size w1 w5 := (by first | exact Drw.step hc hg D4 | exact Drw.step hc hg D4.alloc); (try (first | have hsl := Stps.grown hg hsl | have hsl := Stps.grown hg (Stps.new (show q < _ from D4.cur.lt)))); obtain ⟨i, rfl⟩ : ∃ i : Nat, y = i := ⟨y.toNat, by omega⟩; have hi : i < 5 := (by omega); have hi' : (i : Int) < 5 := (by omega); (try (have hcell := Stps.at_ hsl i hi)); have harr := stps_arr i hi; have harr2 := stps_list i hi; have HL5 : Hid (ShRow w5 g 0 l) := (by first | exact ShRow.grown HL4.out hg (fun h => hgq (Option.some.inj h).symm) | exact ShRow.grown (row_alloc1 HL4.out) hg (fun h => hgq (Option.some.inj h).symm)); clear hc hg)
    | (go_at_call 91; (with_reducible refine (l2Draw_s V.heap.size q _ ?_).mono ?_); (next => first | exact D5.cur | exact D5.alloc.cur); rintro e w6 ⟨r, b, k, ⟨rfl, lr, lg, lb, hc, hg⟩⟩; have sz6 := hg.size; (try simp only [World.size_alloc] at sz6); have D6 : Drw V.heap.size q w.heap.size w1 w6 := (by first | exact Drw.step hc hg D5 | exact Drw.step hc hg D5.alloc); (try (first | have hsl := Stps.grown hg hsl | have hsl := Stps.grown hg (Stps.new (show q < _ from D5.cur.lt)))); (try (have hcell := Stps.at_ hsl i hi)); have HL6 : Hid (ShRow w6 g 0 l) := (by first | exact ShRow.grown HL5.out hg (fun h => hgq (Option.some.inj h).symm) | exact ShRow.grown (row_alloc1 HL5.out) hg (fun h => hgq (Option.some.inj h).symm)); have o0 := Blk.cellAt (i := 0) D6.col rfl; have o1 := Blk.cellAt (i := 1) D6.col rfl; have o2 := Blk.cellAt (i := 2) D6.col rfl; (simp only [List.getElem_toArray, List.getElem_cons_zero, List.getElem_cons_succ] at o0 o1 o2); have f0 := D6.col.free 0; have f1 := D6.col.free 1; have f2 := D6.col.free 2; have lt6 := D6.col.lt; clear hc hg))
  all_goals
    have HB6 : Hid (Below w.heap.size w w6) := B1.out.trans (below_of_grown D6.gr (by omega) (by omega))
    have hgw : w.heap.size < g := by
      have h1 := D2.col.lt
      have h2 := hgl
      (try simp only [World.size_alloc] at h2)
      omega
    have hD6 := D6.col
    clear o0 o1 o2 f0 f1 f2
    (try clear hcell)
    (try clear hsl)
    clear harr harr2 D2 D3 D4 D5 HL3 HL4 HL5
    first
    | (have RS := ((hD6.set (i := 0) (v := .float .f32 r)).set (i := 1) (v := .float .f32 b)).set (i := 2) (v := .float .f32 k)
       have e0 := RS.cell 0
       have e1 := RS.cell 1
       have e2 := RS.cell 2
       simp only [List.setIfInBounds_toArray, List.set_cons_zero, List.set_cons_succ, List.getElem?_toArray, List.getElem?_cons_zero, List.getElem?_cons_succ] at e0 e1 e2
       have LF : ShRow (((w6.setCell ⟨w.heap.size, 0, Option.none⟩ (.float .f32 r)).setCell ⟨w.heap.size, 1, Option.none⟩ (.float .f32 b)).setCell ⟨w.heap.size, 2, Option.none⟩ (.float .f32 k)) g 0 l := ((ShRow.set HL6.out (by dsimp only; omega)).set (by dsimp only; omega)).set (by dsimp only; omega)
       have HLF : Hid (ShRow (((w6.setCell ⟨w.heap.size, 0, Option.none⟩ (.float .f32 r)).setCell ⟨w.heap.size, 1, Option.none⟩ (.float .f32 b)).setCell ⟨w.heap.size, 2, Option.none⟩ (.float .f32 k)) g 0 l) := LF
       have HBF : Hid (Below w.heap.size w (((w6.setCell ⟨w.heap.size, 0, Option.none⟩ (.float .f32 r)).setCell ⟨w.heap.size, 1, Option.none⟩ (.float .f32 b)).setCell ⟨w.heap.size, 2, Option.none⟩ (.float .f32 k))) := ((HB6.out.setCell (Nat.le_refl _) _).setCell (Nat.le_refl _) _).setCell (Nat.le_refl _) _
       have HE0 := Hid.mk'' e0
       have HE1 := Hid.mk'' e1
       have HE2 := Hid.mk'' e2
       clear RS e0 e1 e2 LF
       go_wp2
       have e0 := HE0.out
       have e1 := HE1.out
       have e2 := HE2.out
       exact bodyPost_ret (v := .tuple #[.int .i64 x, .slice (some ⟨g, 0, Option.none⟩) l.length lc, .int .i64 n, .float .f32 (stepB i), .agg #[.float .f32 r, .float .f32 b, .float .f32 k]]) (by simp [results, Try.results34, go_sem, e0, e1, e2, stps_get hi]) rfl ⟨x, g, lc, l, n, i, ⟨r, b, k⟩, ⟨rfl, hx0, by omega, hll, by simp; omega, HLF.out, HOK.out, hn1, hn6, hi, ⟨lr, lg, lb⟩, HBF.out⟩⟩)
    | (have RS : Blk ((((w6.setCell ⟨w.heap.size, 0, Option.none⟩ (.float .f32 r)).setCell ⟨w.heap.size, 1, Option.none⟩ (.float .f32 b)).setCell ⟨w.heap.size, 2, Option.none⟩ (.float .f32 k)).alloc (.cells #[.float .f32 1048576000, .float .f32 1056964608, .float .f32 1065353216, .float .f32 1073741824, .float .f32 1050253722] 47)) w.heap.size #[.float .f32 r, .float .f32 b, .float .f32 k] 49 := Blk.alloc (((hD6.set (i := 0) (v := .float .f32 r)).set (i := 1) (v := .float .f32 b)).set (i := 2) (v := .float .f32 k))
       have e0 := RS.cell 0
       have e1 := RS.cell 1
       have e2 := RS.cell 2
       simp only [List.getElem?_toArray, List.getElem?_cons_zero, List.getElem?_cons_succ] at e0 e1 e2
       have LF : ShRow ((((w6.setCell ⟨w.heap.size, 0, Option.none⟩ (.float .f32 r)).setCell ⟨w.heap.size, 1, Option.none⟩ (.float .f32 b)).setCell ⟨w.heap.size, 2, Option.none⟩ (.float .f32 k)).alloc (.cells #[.float .f32 1048576000, .float .f32 1056964608, .float .f32 1065353216, .float .f32 1073741824, .float .f32 1050253722] 47)) g 0 l := row_alloc1 (((ShRow.set HL6.out (by dsimp only; omega)).set (by dsimp only; omega)).set (by dsimp only; omega))
       have HLF : Hid (ShRow ((((w6.setCell ⟨w.heap.size, 0, Option.none⟩ (.float .f32 r)).setCell ⟨w.heap.size, 1, Option.none⟩ (.float .f32 b)).setCell ⟨w.heap.size, 2, Option.none⟩ (.float .f32 k)).alloc (.cells #[.float .f32 1048576000, .float .f32 1056964608, .float .f32 1065353216, .float .f32 1073741824, .float .f32 1050253722] 47)) g 0 l) := LF
       have HBF : Hid (Below w.heap.size w ((((w6.setCell ⟨w.heap.size, 0, Option.none⟩ (.float .f32 r)).setCell ⟨w.heap.size, 1, Option.none⟩ (.float .f32 b)).setCell ⟨w.heap.size, 2, Option.none⟩ (.float .f32 k)).alloc (.cells #[.float .f32 1048576000, .float .f32 1056964608, .float .f32 1065353216, .float .f32 1073741824, .float .f32 1050253722] 47))) := (((HB6.out.setCell (Nat.le_refl _) _).setCell (Nat.le_refl _) _).setCell (Nat.le_refl _) _).alloc (by simp; exact HB6.out.size) _
       have HE0 := Hid.mk'' e0
       have HE1 := Hid.mk'' e1
       have HE2 := Hid.mk'' e2
       clear RS e0 e1 e2 LF
       go_wp2
       have e0 := HE0.out
       have e1 := HE1.out
       have e2 := HE2.out
       exact bodyPost_ret (v := .tuple #[.int .i64 x, .slice (some ⟨g, 0, Option.none⟩) l.length lc, .int .i64 n, .float .f32 (stepB i), .agg #[.float .f32 r, .float .f32 b, .float .f32 k]]) (by simp [results, Try.results34, go_sem, e0, e1, e2, stps_get hi]) rfl ⟨x, g, lc, l, n, i, ⟨r, b, k⟩, ⟨rfl, hx0, by omega, hll, by simp; omega, HLF.out, HOK.out, hn1, hn6, hi, ⟨lr, lg, lb⟩, HBF.out⟩⟩)
    | (have RS := (((show Blk (w6.alloc (.cells #[.float .f32 1048576000, .float .f32 1056964608, .float .f32 1065353216, .float .f32 1073741824, .float .f32 1050253722] 47)) w.heap.size #[.float .f32 0, .float .f32 0, .float .f32 0] 49 from hD6.alloc).set (i := 0) (v := .float .f32 r)).set (i := 1) (v := .float .f32 b)).set (i := 2) (v := .float .f32 k)
       have e0 := RS.cell 0
       have e1 := RS.cell 1
       have e2 := RS.cell 2
       simp only [List.setIfInBounds_toArray, List.set_cons_zero, List.set_cons_succ, List.getElem?_toArray, List.getElem?_cons_zero, List.getElem?_cons_succ] at e0 e1 e2
       have LF : ShRow ((((w6.alloc (.cells #[.float .f32 1048576000, .float .f32 1056964608, .float .f32 1065353216, .float .f32 1073741824, .float .f32 1050253722] 47)).setCell ⟨w.heap.size, 0, Option.none⟩ (.float .f32 r)).setCell ⟨w.heap.size, 1, Option.none⟩ (.float .f32 b)).setCell ⟨w.heap.size, 2, Option.none⟩ (.float .f32 k)) g 0 l := ((ShRow.set (show ShRow (w6.alloc (.cells #[.float .f32 1048576000, .float .f32 1056964608, .float .f32 1065353216, .float .f32 1073741824, .float .f32 1050253722] 47)) g 0 l from row_alloc1 HL6.out) (by dsimp only; omega)).set (by dsimp only; omega)).set (by dsimp only; omega)
       have HLF : Hid (ShRow ((((w6.alloc (.cells #[.float .f32 1048576000, .float .f32 1056964608, .float .f32 1065353216, .float .f32 1073741824, .float .f32 1050253722] 47)).setCell ⟨w.heap.size, 0, Option.none⟩ (.float .f32 r)).setCell ⟨w.heap.size, 1, Option.none⟩ (.float .f32 b)).setCell ⟨w.heap.size, 2, Option.none⟩ (.float .f32 k)) g 0 l) := LF
       have HBF : Hid (Below w.heap.size w ((((w6.alloc (.cells #[.float .f32 1048576000, .float .f32 1056964608, .float .f32 1065353216, .float .f32 1073741824, .float .f32 1050253722] 47)).setCell ⟨w.heap.size, 0, Option.none⟩ (.float .f32 r)).setCell ⟨w.heap.size, 1, Option.none⟩ (.float .f32 b)).setCell ⟨w.heap.size, 2, Option.none⟩ (.float .f32 k))) := (((HB6.out.alloc HB6.out.size _).setCell (Nat.le_refl _) _).setCell (Nat.le_refl _) _).setCell (Nat.le_refl _) _
       have HE0 := Hid.mk'' e0
       have HE1 := Hid.mk'' e1
       have HE2 := Hid.mk'' e2
       clear RS e0 e1 e2 LF
       go_wp2
       have e0 := HE0.out
       have e1 := HE1.out
       have e2 := HE2.out
       exact bodyPost_ret (v := .tuple #[.int .i64 x, .slice (some ⟨g, 0, Option.none⟩) l.length lc, .int .i64 n, .float .f32 (stepB i), .agg #[.float .f32 r, .float .f32 b, .float .f32 k]]) (by simp [results, Try.results34, go_sem, e0, e1, e2, stps_get hi]) rfl ⟨x, g, lc, l, n, i, ⟨r, b, k⟩, ⟨rfl, hx0, by omega, hll, by simp; omega, HLF.out, HOK.out, hn1, hn6, hi, ⟨lr, lg, lb⟩, HBF.out⟩⟩)
end Go.Proofs.Ytlnikapkheldeaa
