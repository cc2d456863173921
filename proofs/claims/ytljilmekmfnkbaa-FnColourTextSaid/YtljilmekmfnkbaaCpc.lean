/-
  ParseColour of the program.
-/
import Derived.Test.YtljilmekmfnkbaaCpv
namespace Go.Proofs.Ytljilmekmfnkbaa
open Go.ChangeShapes Go.WideShapes Go.ChangeAt Go.RowKit Go.Joins
set_option linter.unusedSimpArgs false
set_option linter.unusedVariables false
set_option maxRecDepth 100000
attribute [local go_sem] store_f
open Ieee

/-- What ParseColour gives. -/
def tupV (r g b : Nat) (f : Bool) : Value := .tuple #[.agg #[.float .f32 r, .float .f32 g, .float .f32 b], .bool f]

theorem parse_i_len (s : ByteArray) (h : s.size ≠ 3) (w : World) :
    Calls Try.prog 26 #[.string s] w fun e w' => e = .returned (tupV 0 0 0 false) ∧ Below w.heap.size w w' := by
  have hn : ¬ (s.size : Int) = 3 := by omega
  have hn2 : ((s.size : Int) != 3) = true := by simpa using hn
  have HH : Hid (s.size ≠ 3) := h
  clear h
  unfold tupV
  go_enter Try.func26, Try.ntmps26
  go_wp2
  all_goals (go_returns; exact ⟨rfl, by (repeat' (first | (with_reducible exact Below.refl _ _) | (with_reducible assumption) | (with_reducible refine Below.alloc ?_ ?_ _) | (with_reducible refine Below.drew ?_) | (with_reducible refine Below.setCell ?_ ?_ _) | (with_reducible refine Below.trans ?_ (Below.mono (by assumption) ?_)) | (with_reducible exact Nat.le_refl _) | omega | (simp only [World.size_alloc, World.size_setCell, World.size_drew]; omega) | (simp; omega) | (simp; done)))⟩)

theorem three_bytes (b0 b1 b2 : UInt8) (W : World) : ∃ (cap : Nat) (W1 : World),
    (convert 9 22 (.string ⟨#[b0, b1, b2]⟩)).run Try.prog W = .ok (.slice (some ⟨W.heap.size, 0, Option.none⟩) 3 cap) W1 ∧ Below W.heap.size W W1 ∧ W.heap.size < W1.heap.size ∧
    W1.cell? ⟨W.heap.size, 0, Option.none⟩ = some (.int .u8 (b0.toNat : Int)) ∧ W1.cell? ⟨W.heap.size, 1, Option.none⟩ = some (.int .u8 (b1.toNat : Int)) ∧ W1.cell? ⟨W.heap.size, 2, Option.none⟩ = some (.int .u8 (b2.toNat : Int)) := by
  have e := run_bytes_of_string (P := Try.prog) W 9 22 5 ⟨#[b0, b1, b2]⟩ Try.underlying9 Try.underlying22 Try.underlying5
  have hb : ∀ o : Obj, Below W.heap.size W (W.drew.alloc o) := fun o => by (repeat' (first | (with_reducible exact Below.refl _ _) | (with_reducible assumption) | (with_reducible refine Below.alloc ?_ ?_ _) | (with_reducible refine Below.drew ?_) | (with_reducible refine Below.setCell ?_ ?_ _) | (with_reducible refine Below.trans ?_ (Below.mono (by assumption) ?_)) | (with_reducible exact Nat.le_refl _) | omega | (simp only [World.size_alloc, World.size_setCell, World.size_drew]; omega) | (simp; omega) | (simp; done)))
  have hc : ∀ (cs : Array Value) (t : TypeId) (fz : Nat × Nat) (j : Nat), (W.drew.alloc (.cells cs t fz)).cell? ⟨W.heap.size, j, Option.none⟩ = cs[j]? := fun cs t fz j => by
    show World.cell? (W.drew.alloc _) _ = _
    unfold World.cell?
    have : (W.drew.alloc (.cells cs t fz)).heap[W.heap.size]? = some (.cells cs t fz) := by
      show (W.heap.push (.cells cs t fz))[W.heap.size]? = _
      simp
    dsimp only
    rw [this]; rfl
  refine ⟨_, _, e, hb _, ?_, ?_, ?_, ?_⟩
  · simp
  · rw [hc, bytesRow_at ⟨#[b0, b1, b2]⟩ _ 0 (show (0 : Nat) < 3 by omega)]; rfl
  · rw [hc, bytesRow_at ⟨#[b0, b1, b2]⟩ _ 1 (show (1 : Nat) < 3 by omega)]; rfl
  · rw [hc, bytesRow_at ⟨#[b0, b1, b2]⟩ _ 2 (show (2 : Nat) < 3 by omega)]; rfl

/-- The place of the first -1 of three numbers. -/
def idx3 (a b c : Int) : Int := if a = -1 then 0 else if b = -1 then 1 else if c = -1 then 2 else -1

theorem index_i (a b c : Int) (g : Nat) (w : World) (c0 : w.cell? ⟨g, 0, Option.none⟩ = some (.int .i64 a)) (c1 : w.cell? ⟨g, 1, Option.none⟩ = some (.int .i64 b)) (c2 : w.cell? ⟨g, 2, Option.none⟩ = some (.int .i64 c)) :
    Calls Try.prog 85 #[.slice (some ⟨g, 0, Option.none⟩) 3 3, .int .i64 (-1)] w fun e w' => e = .returned (.int .i64 (idx3 a b c)) ∧ Below w.heap.size w w' := by
  go_enter Try.func85, Try.ntmps85
  go_wp2_with fail
  go_loopw [8] (fun i wr => ((i = .int .i64 0) ∨ (i = .int .i64 1 ∧ a ≠ -1) ∨ (i = .int .i64 2 ∧ a ≠ -1 ∧ b ≠ -1) ∨ (i = .int .i64 3 ∧ a ≠ -1 ∧ b ≠ -1 ∧ c ≠ -1)) ∧ Below w.heap.size w wr) (fun i _ => 3 - (intOf i).toNat)
  case atStart => exact ⟨Or.inl rfl, by (repeat' (first | (with_reducible exact Below.refl _ _) | (with_reducible assumption) | (with_reducible refine Below.alloc ?_ ?_ _) | (with_reducible refine Below.drew ?_) | (with_reducible refine Below.setCell ?_ ?_ _) | (with_reducible refine Below.trans ?_ (Below.mono (by assumption) ?_)) | (with_reducible exact Nat.le_refl _) | omega | (simp only [World.size_alloc, World.size_setCell, World.size_drew]; omega) | (simp; omega) | (simp; done)))⟩
  case round =>
    obtain ⟨hr, hbel⟩ := hrel
    have d0 := cBelow hbel c0
    have d1 := cBelow hbel c1
    have d2 := cBelow hbel c2
    rcases hr with rfl | ⟨rfl, n0⟩ | ⟨rfl, n0, n1⟩ | ⟨rfl, n0, n1, n2⟩
    · by_cases h : a = -1
      · have EV : Hid (idx3 a b c = 0) := by show idx3 a b c = 0; simp [idx3, h]
        subst h
        go_wp2
        all_goals (go_ret; exact ⟨by rw [EV.out]; rfl, by (repeat' (first | (with_reducible exact Below.refl _ _) | (with_reducible assumption) | (with_reducible refine Below.alloc ?_ ?_ _) | (with_reducible refine Below.drew ?_) | (with_reducible refine Below.setCell ?_ ?_ _) | (with_reducible refine Below.trans ?_ (Below.mono (by assumption) ?_)) | (with_reducible exact Nat.le_refl _) | omega | (simp only [World.size_alloc, World.size_setCell, World.size_drew]; omega) | (simp; omega) | (simp; done)))⟩)
      · have h' : ¬ (-1 : Int) = a := fun e => h e.symm
        have H : Hid (a ≠ -1) := h
        clear h
        go_wp2
        go_roundw
        case rel => exact ⟨Or.inr (Or.inl ⟨rfl, H.out⟩), by (repeat' (first | (with_reducible exact Below.refl _ _) | (with_reducible assumption) | (with_reducible refine Below.alloc ?_ ?_ _) | (with_reducible refine Below.drew ?_) | (with_reducible refine Below.setCell ?_ ?_ _) | (with_reducible refine Below.trans ?_ (Below.mono (by assumption) ?_)) | (with_reducible exact Nat.le_refl _) | omega | (simp only [World.size_alloc, World.size_setCell, World.size_drew]; omega) | (simp; omega) | (simp; done)))⟩
        case measure => simp [intOf]
    · by_cases h : b = -1
      · have EV : Hid (idx3 a b c = 1) := by show idx3 a b c = 1; simp [idx3, h, n0]
        clear n0
        subst h
        go_wp2
        all_goals (go_ret; exact ⟨by rw [EV.out]; rfl, by (repeat' (first | (with_reducible exact Below.refl _ _) | (with_reducible assumption) | (with_reducible refine Below.alloc ?_ ?_ _) | (with_reducible refine Below.drew ?_) | (with_reducible refine Below.setCell ?_ ?_ _) | (with_reducible refine Below.trans ?_ (Below.mono (by assumption) ?_)) | (with_reducible exact Nat.le_refl _) | omega | (simp only [World.size_alloc, World.size_setCell, World.size_drew]; omega) | (simp; omega) | (simp; done)))⟩)
      · have h' : ¬ (-1 : Int) = b := fun e => h e.symm
        have H : Hid (b ≠ -1) := h
        have N0 : Hid (a ≠ -1) := n0
        clear h n0
        go_wp2
        go_roundw
        case rel => exact ⟨Or.inr (Or.inr (Or.inl ⟨rfl, N0.out, H.out⟩)), by (repeat' (first | (with_reducible exact Below.refl _ _) | (with_reducible assumption) | (with_reducible refine Below.alloc ?_ ?_ _) | (with_reducible refine Below.drew ?_) | (with_reducible refine Below.setCell ?_ ?_ _) | (with_reducible refine Below.trans ?_ (Below.mono (by assumption) ?_)) | (with_reducible exact Nat.le_refl _) | omega | (simp only [World.size_alloc, World.size_setCell, World.size_drew]; omega) | (simp; omega) | (simp; done)))⟩
        case measure => simp [intOf]
    · by_cases h : c = -1
      · have EV : Hid (idx3 a b c = 2) := by show idx3 a b c = 2; simp [idx3, h, n0, n1]
        clear n0 n1
        subst h
        go_wp2
        all_goals (go_ret; exact ⟨by rw [EV.out]; rfl, by (repeat' (first | (with_reducible exact Below.refl _ _) | (with_reducible assumption) | (with_reducible refine Below.alloc ?_ ?_ _) | (with_reducible refine Below.drew ?_) | (with_reducible refine Below.setCell ?_ ?_ _) | (with_reducible refine Below.trans ?_ (Below.mono (by assumption) ?_)) | (with_reducible exact Nat.le_refl _) | omega | (simp only [World.size_alloc, World.size_setCell, World.size_drew]; omega) | (simp; omega) | (simp; done)))⟩)
      · have h' : ¬ (-1 : Int) = c := fun e => h e.symm
        have H : Hid (c ≠ -1) := h
        have N0 : Hid (a ≠ -1) := n0
        have N1 : Hid (b ≠ -1) := n1
        clear h n0 n1
        go_wp2
        go_roundw
        case rel => exact ⟨Or.inr (Or.inr (Or.inr ⟨rfl, N0.out, N1.out, H.out⟩)), by (repeat' (first | (with_reducible exact Below.refl _ _) | (with_reducible assumption) | (with_reducible refine Below.alloc ?_ ?_ _) | (with_reducible refine Below.drew ?_) | (with_reducible refine Below.setCell ?_ ?_ _) | (with_reducible refine Below.trans ?_ (Below.mono (by assumption) ?_)) | (with_reducible exact Nat.le_refl _) | omega | (simp only [World.size_alloc, World.size_setCell, World.size_drew]; omega) | (simp; omega) | (simp; done)))⟩
        case measure => simp [intOf]
    · have EV : Hid (idx3 a b c = -1) := by show idx3 a b c = -1; simp [idx3, n0, n1, n2]
      clear n0 n1 n2
      go_wp2
      all_goals (go_ret; exact ⟨by rw [EV.out]; rfl, by (repeat' (first | (with_reducible exact Below.refl _ _) | (with_reducible assumption) | (with_reducible refine Below.alloc ?_ ?_ _) | (with_reducible refine Below.drew ?_) | (with_reducible refine Below.setCell ?_ ?_ _) | (with_reducible refine Below.trans ?_ (Below.mono (by assumption) ?_)) | (with_reducible exact Nat.le_refl _) | omega | (simp only [World.size_alloc, World.size_setCell, World.size_drew]; omega) | (simp; omega) | (simp; done)))⟩)

theorem contains_i (a b c : Int) (t : Bool) (ht : decide (0 ≤ idx3 a b c) = t) (g : Nat) (w : World) (c0 : w.cell? ⟨g, 0, Option.none⟩ = some (.int .i64 a)) (c1 : w.cell? ⟨g, 1, Option.none⟩ = some (.int .i64 b)) (c2 : w.cell? ⟨g, 2, Option.none⟩ = some (.int .i64 c)) :
    Calls Try.prog 66 #[.slice (some ⟨g, 0, Option.none⟩) 3 3, .int .i64 (-1)] w fun e w' => e = .returned (.bool t) ∧ Below w.heap.size w w' := by
  have K : Hid (∀ w : World, w.cell? ⟨g, 0, Option.none⟩ = some (.int .i64 a) → w.cell? ⟨g, 1, Option.none⟩ = some (.int .i64 b) → w.cell? ⟨g, 2, Option.none⟩ = some (.int .i64 c) →
      Calls Try.prog 85 #[.slice (some ⟨g, 0, Option.none⟩) 3 3, .int .i64 (-1)] w fun e w' => e = .returned (.int .i64 (idx3 a b c)) ∧ Below w.heap.size w w') := fun w c0 c1 c2 => index_i a b c g w c0 c1 c2
  generalize idx3 a b c = n at K ht
  cases t
  · have hn : ¬ (0 : Int) ≤ n := by simpa using ht
    clear ht
    go_enter Try.func66, Try.ntmps66
    go_wp2_with (go_at_call 85; refine (K.out _ c0 c1 c2).mono ?_; rintro e w1 ⟨rfl, hb⟩; obtain ⟨hc, hf⟩ := bcell hb; have HL := keepL (by (repeat (first | (with_reducible assumption) | (with_reducible apply AllLt.alloc) | (with_reducible apply AllLt.setCell) | (with_reducible apply AllLt.drew) | (with_reducible exact AllLt.nil _)))) hb; have hq := HL; simp only [AllLt, and_true, World.size_alloc, World.size_setCell, World.size_drew] at hq; have hbs := hb.size; try simp only [World.size_alloc, World.size_setCell, World.size_drew] at hbs)
    all_goals (go_returns; exact ⟨by simp_all, by (repeat' (first | (with_reducible exact Below.refl _ _) | (with_reducible assumption) | (with_reducible refine Below.alloc ?_ ?_ _) | (with_reducible refine Below.drew ?_) | (with_reducible refine Below.setCell ?_ ?_ _) | (with_reducible refine Below.trans ?_ (Below.mono (by assumption) ?_)) | (with_reducible exact Nat.le_refl _) | omega | (simp only [World.size_alloc, World.size_setCell, World.size_drew]; omega) | (simp; omega) | (simp; done)))⟩)
  · have hn : (0 : Int) ≤ n := by simpa using ht
    clear ht
    go_enter Try.func66, Try.ntmps66
    go_wp2_with (go_at_call 85; refine (K.out _ c0 c1 c2).mono ?_; rintro e w1 ⟨rfl, hb⟩; obtain ⟨hc, hf⟩ := bcell hb; have HL := keepL (by (repeat (first | (with_reducible assumption) | (with_reducible apply AllLt.alloc) | (with_reducible apply AllLt.setCell) | (with_reducible apply AllLt.drew) | (with_reducible exact AllLt.nil _)))) hb; have hq := HL; simp only [AllLt, and_true, World.size_alloc, World.size_setCell, World.size_drew] at hq; have hbs := hb.size; try simp only [World.size_alloc, World.size_setCell, World.size_drew] at hbs)
    all_goals (go_returns; exact ⟨by simp_all, by (repeat' (first | (with_reducible exact Below.refl _ _) | (with_reducible assumption) | (with_reducible refine Below.alloc ?_ ?_ _) | (with_reducible refine Below.drew ?_) | (with_reducible refine Below.setCell ?_ ?_ _) | (with_reducible refine Below.trans ?_ (Below.mono (by assumption) ?_)) | (with_reducible exact Nat.le_refl _) | omega | (simp only [World.size_alloc, World.size_setCell, World.size_drew]; omega) | (simp; omega) | (simp; done)))⟩)

structure EachS (b0 b1 b2 : UInt8) (u v x : Int) : Prop where
  call : ∀ w : World, Calls Try.prog 64 #[.agg #[.int .u8 (b0.toNat : Int), .int .u8 (b1.toNat : Int), .int .u8 (b2.toNat : Int)], .func (.func 65) #[] #[]] w fun e w' =>
      e = .returned (.agg #[.int .i64 u, .int .i64 v, .int .i64 x]) ∧ Below w.heap.size w w'
structure ConI (u v x : Int) (t : Bool) : Prop where
  call : ∀ (g : Nat) (w : World), w.cell? ⟨g, 0, Option.none⟩ = some (.int .i64 u) → w.cell? ⟨g, 1, Option.none⟩ = some (.int .i64 v) → w.cell? ⟨g, 2, Option.none⟩ = some (.int .i64 x) →
    Calls Try.prog 66 #[.slice (some ⟨g, 0, Option.none⟩) 3 3, .int .i64 (-1)] w fun e w' => e = .returned (.bool t) ∧ Below w.heap.size w w'
structure EachO (u v x : Int) (p q r : Nat) : Prop where
  call : ∀ w : World, Calls Try.prog 67 #[.agg #[.int .i64 u, .int .i64 v, .int .i64 x], .func (.func 68) #[] #[]] w fun e w' =>
      e = .returned (.agg #[.float .f32 p, .float .f32 q, .float .f32 r]) ∧ Below w.heap.size w w'
structure ColC (a b c : Nat) : Prop where
  call : ∀ w : World, Calls Try.prog 44 #[.agg #[.float .f32 a, .float .f32 b, .float .f32 c]] w fun e w' => e = .returned (.agg #[.float .f32 a, .float .f32 b, .float .f32 c]) ∧ Below w.heap.size w w'

theorem parse_i_no (b0 b1 b2 : UInt8) (u v x : Int) (E : EachS b0 b1 b2 u v x) (C : ConI u v x true) (w : World) :
    Calls Try.prog 26 #[.string ⟨#[b0, b1, b2]⟩] w fun e w' => e = .returned (tupV 0 0 0 false) ∧ Below w.heap.size w w' := by
  unfold tupV
  have hsz : (ByteArray.mk #[b0, b1, b2]).size = 3 := rfl
  go_enter Try.func26, Try.ntmps26
  obtain ⟨cap, w1, hcv, hb1, hl1, c0, c1, c2⟩ := three_bytes b0 b1 b2 (w.alloc (.cells #[.float .f32 0, .float .f32 0, .float .f32 0] 26))
  have HR : Blk w1 w.heap.size #[.float .f32 0, .float .f32 0, .float .f32 0] 26 := Blk.belowAt hb1 (Blk.new _ _ _)
  have hbel : Below w.heap.size w w1 := by (repeat' (first | (with_reducible exact Below.refl _ _) | (with_reducible assumption) | (with_reducible refine Below.alloc ?_ ?_ _) | (with_reducible refine Below.drew ?_) | (with_reducible refine Below.setCell ?_ ?_ _) | (with_reducible refine Below.trans ?_ (Below.mono (by assumption) ?_)) | (with_reducible exact Nat.le_refl _) | omega | (simp only [World.size_alloc, World.size_setCell, World.size_drew]; omega) | (simp; omega) | (simp; done)))
  simp only [World.size_alloc] at c0 c1 c2 hl1 hcv
  have harr := fun W => run_arrayAt (P := Try.prog) W 76 5 3 (some ⟨w.heap.size + 1, 0, Option.none⟩) 3 cap Try.underlying76 (by omega)
  have g0 := HR.cell 0
  have g1 := HR.cell 1
  have g2 := HR.cell 2
  have q0 := HR.free 0
  have q1 := HR.free 1
  have q2 := HR.free 2
  simp at g0 g1 g2
  have HR1 : Hid (Blk w1 w.heap.size #[.float .f32 0, .float .f32 0, .float .f32 0] 26) := HR
  clear HR hb1
  go_wp2_with (first | simp only [hcv] | simp only [harr] | (go_at_call 64; refine (E.call _).mono ?_; rintro e w2 ⟨rfl, hb⟩; obtain ⟨hc, hf⟩ := bcell hb; have HL := keepL (by (repeat (first | (with_reducible assumption) | (with_reducible apply AllLt.alloc) | (with_reducible apply AllLt.setCell) | (with_reducible apply AllLt.drew) | (with_reducible exact AllLt.nil _)))) hb; have hq := HL; simp only [AllLt, and_true, World.size_alloc, World.size_setCell, World.size_drew] at hq; have hbs := hb.size; try simp only [World.size_alloc, World.size_setCell, World.size_drew] at hbs))
  refine (C.call _ _ (by ((repeat (first | (with_reducible assumption) | (with_reducible exact cNewAt (by first | rfl | (simp only [World.size_alloc, World.size_setCell, World.size_drew]; done) | omega) rfl) | (with_reducible exact sNewAt (by first | rfl | (simp only [World.size_alloc, World.size_setCell, World.size_drew]; done) | omega) rfl) | (simp; done) | (with_reducible apply cAlloc) | (with_reducible apply cDrew) | (with_reducible refine cSet (by dsimp only; omega) ?_) | (with_reducible refine cSetOff (by dsimp only; omega) ?_) | (with_reducible apply cSame) | (with_reducible refine cBelow (by assumption) ?_) | (with_reducible apply sAlloc) | (with_reducible apply sDrew) | (with_reducible refine sBelow (by assumption) ?_) | (with_reducible refine sSet (by dsimp only; omega) ?_))); first | done | (simp [*]; done))) (by ((repeat (first | (with_reducible assumption) | (with_reducible exact cNewAt (by first | rfl | (simp only [World.size_alloc, World.size_setCell, World.size_drew]; done) | omega) rfl) | (with_reducible exact sNewAt (by first | rfl | (simp only [World.size_alloc, World.size_setCell, World.size_drew]; done) | omega) rfl) | (simp; done) | (with_reducible apply cAlloc) | (with_reducible apply cDrew) | (with_reducible refine cSet (by dsimp only; omega) ?_) | (with_reducible refine cSetOff (by dsimp only; omega) ?_) | (with_reducible apply cSame) | (with_reducible refine cBelow (by assumption) ?_) | (with_reducible apply sAlloc) | (with_reducible apply sDrew) | (with_reducible refine sBelow (by assumption) ?_) | (with_reducible refine sSet (by dsimp only; omega) ?_))); first | done | (simp [*]; done))) (by ((repeat (first | (with_reducible assumption) | (with_reducible exact cNewAt (by first | rfl | (simp only [World.size_alloc, World.size_setCell, World.size_drew]; done) | omega) rfl) | (with_reducible exact sNewAt (by first | rfl | (simp only [World.size_alloc, World.size_setCell, World.size_drew]; done) | omega) rfl) | (simp; done) | (with_reducible apply cAlloc) | (with_reducible apply cDrew) | (with_reducible refine cSet (by dsimp only; omega) ?_) | (with_reducible refine cSetOff (by dsimp only; omega) ?_) | (with_reducible apply cSame) | (with_reducible refine cBelow (by assumption) ?_) | (with_reducible apply sAlloc) | (with_reducible apply sDrew) | (with_reducible refine sBelow (by assumption) ?_) | (with_reducible refine sSet (by dsimp only; omega) ?_))); first | done | (simp [*]; done)))).mono ?_
  rintro e w3 ⟨rfl, hb3⟩
  have hb := hb3
  have HR3 : Blk w3 w.heap.size #[.float .f32 0, .float .f32 0, .float .f32 0] 26 := by (repeat (first | (with_reducible exact HR1.out) | (with_reducible refine Blk.below ?_ (by assumption)) | (with_reducible refine Blk.alloc ?_) | (with_reducible refine Blk.drew ?_) | (with_reducible refine Blk.other ?_ (by dsimp only; omega))))
  obtain ⟨hc, hf⟩ := bcell hb; have HL := keepL (by (repeat (first | (with_reducible assumption) | (with_reducible apply AllLt.alloc) | (with_reducible apply AllLt.setCell) | (with_reducible apply AllLt.drew) | (with_reducible exact AllLt.nil _)))) hb; have hq := HL; simp only [AllLt, and_true, World.size_alloc, World.size_setCell, World.size_drew] at hq; have hbs := hb.size; try simp only [World.size_alloc, World.size_setCell, World.size_drew] at hbs
  have e0 := Blk.cellAt (i := 0) HR3 rfl
  have e1 := Blk.cellAt (i := 1) HR3 rfl
  have e2 := Blk.cellAt (i := 2) HR3 rfl
  have s0 := Blk.freeAt (i := 0) HR3
  have s1 := Blk.freeAt (i := 1) HR3
  have s2 := Blk.freeAt (i := 2) HR3
  go_wp2
  (have d0 := (HR3.set (i := 0) (v := .float .f32 0)).cell 0; have d1 := ((HR3.set (i := 0) (v := .float .f32 0)).set (i := 1) (v := .float .f32 0)).cell 1; have d2 := (((HR3.set (i := 0) (v := .float .f32 0)).set (i := 1) (v := .float .f32 0)).set (i := 2) (v := .float .f32 0)).cell 2; simp only [List.setIfInBounds_toArray, List.set_cons_zero, List.set_cons_succ, List.getElem?_toArray, List.getElem?_cons_zero, List.getElem?_cons_succ] at d0 d1 d2; exact bodyPost_ret (v := .tuple #[.agg #[.float .f32 0, .float .f32 0, .float .f32 0], .bool false]) (by simp [results, Try.results26, go_sem, d0, d1, d2]) rfl ⟨rfl, by (repeat' (first | (with_reducible exact Below.refl _ _) | (with_reducible assumption) | (with_reducible refine Below.alloc ?_ ?_ _) | (with_reducible refine Below.drew ?_) | (with_reducible refine Below.setCell ?_ ?_ _) | (with_reducible refine Below.trans ?_ (Below.mono (by assumption) ?_)) | (with_reducible exact Nat.le_refl _) | omega | (simp only [World.size_alloc, World.size_setCell, World.size_drew]; omega) | (simp; omega) | (simp; done)))⟩)

theorem parse_i_yes (b0 b1 b2 : UInt8) (u v x : Int) (p q r : Nat) (E : EachS b0 b1 b2 u v x) (C : ConI u v x false) (O : EachO u v x p q r) (L : ColC p q r) (w : World) :
    Calls Try.prog 26 #[.string ⟨#[b0, b1, b2]⟩] w fun e w' => e = .returned (tupV p q r true) ∧ Below w.heap.size w w' := by
  unfold tupV
  have hsz : (ByteArray.mk #[b0, b1, b2]).size = 3 := rfl
  go_enter Try.func26, Try.ntmps26
  obtain ⟨cap, w1, hcv, hb1, hl1, c0, c1, c2⟩ := three_bytes b0 b1 b2 (w.alloc (.cells #[.float .f32 0, .float .f32 0, .float .f32 0] 26))
  have HR : Blk w1 w.heap.size #[.float .f32 0, .float .f32 0, .float .f32 0] 26 := Blk.belowAt hb1 (Blk.new _ _ _)
  have hbel : Below w.heap.size w w1 := by (repeat' (first | (with_reducible exact Below.refl _ _) | (with_reducible assumption) | (with_reducible refine Below.alloc ?_ ?_ _) | (with_reducible refine Below.drew ?_) | (with_reducible refine Below.setCell ?_ ?_ _) | (with_reducible refine Below.trans ?_ (Below.mono (by assumption) ?_)) | (with_reducible exact Nat.le_refl _) | omega | (simp only [World.size_alloc, World.size_setCell, World.size_drew]; omega) | (simp; omega) | (simp; done)))
  simp only [World.size_alloc] at c0 c1 c2 hl1 hcv
  have harr := fun W => run_arrayAt (P := Try.prog) W 76 5 3 (some ⟨w.heap.size + 1, 0, Option.none⟩) 3 cap Try.underlying76 (by omega)
  have g0 := HR.cell 0
  have g1 := HR.cell 1
  have g2 := HR.cell 2
  have q0 := HR.free 0
  have q1 := HR.free 1
  have q2 := HR.free 2
  simp at g0 g1 g2
  have HR1 : Hid (Blk w1 w.heap.size #[.float .f32 0, .float .f32 0, .float .f32 0] 26) := HR
  clear HR hb1
  go_wp2_with (first | simp only [hcv] | simp only [harr] | (go_at_call 64; refine (E.call _).mono ?_; rintro e w2 ⟨rfl, hb⟩; obtain ⟨hc, hf⟩ := bcell hb; have HL := keepL (by (repeat (first | (with_reducible assumption) | (with_reducible apply AllLt.alloc) | (with_reducible apply AllLt.setCell) | (with_reducible apply AllLt.drew) | (with_reducible exact AllLt.nil _)))) hb; have hq := HL; simp only [AllLt, and_true, World.size_alloc, World.size_setCell, World.size_drew] at hq; have hbs := hb.size; try simp only [World.size_alloc, World.size_setCell, World.size_drew] at hbs))
  refine (C.call _ _ (by ((repeat (first | (with_reducible assumption) | (with_reducible exact cNewAt (by first | rfl | (simp only [World.size_alloc, World.size_setCell, World.size_drew]; done) | omega) rfl) | (with_reducible exact sNewAt (by first | rfl | (simp only [World.size_alloc, World.size_setCell, World.size_drew]; done) | omega) rfl) | (simp; done) | (with_reducible apply cAlloc) | (with_reducible apply cDrew) | (with_reducible refine cSet (by dsimp only; omega) ?_) | (with_reducible refine cSetOff (by dsimp only; omega) ?_) | (with_reducible apply cSame) | (with_reducible refine cBelow (by assumption) ?_) | (with_reducible apply sAlloc) | (with_reducible apply sDrew) | (with_reducible refine sBelow (by assumption) ?_) | (with_reducible refine sSet (by dsimp only; omega) ?_))); first | done | (simp [*]; done))) (by ((repeat (first | (with_reducible assumption) | (with_reducible exact cNewAt (by first | rfl | (simp only [World.size_alloc, World.size_setCell, World.size_drew]; done) | omega) rfl) | (with_reducible exact sNewAt (by first | rfl | (simp only [World.size_alloc, World.size_setCell, World.size_drew]; done) | omega) rfl) | (simp; done) | (with_reducible apply cAlloc) | (with_reducible apply cDrew) | (with_reducible refine cSet (by dsimp only; omega) ?_) | (with_reducible refine cSetOff (by dsimp only; omega) ?_) | (with_reducible apply cSame) | (with_reducible refine cBelow (by assumption) ?_) | (with_reducible apply sAlloc) | (with_reducible apply sDrew) | (with_reducible refine sBelow (by assumption) ?_) | (with_reducible refine sSet (by dsimp only; omega) ?_))); first | done | (simp [*]; done))) (by ((repeat (first | (with_reducible assumption) | (with_reducible exact cNewAt (by first | rfl | (simp only [World.size_alloc, World.size_setCell, World.size_drew]; done) | omega) rfl) | (with_reducible exact sNewAt (by first | rfl | (simp only [World.size_alloc, World.size_setCell, World.size_drew]; done) | omega) rfl) | (simp; done) | (with_reducible apply cAlloc) | (with_reducible apply cDrew) | (with_reducible refine cSet (by dsimp only; omega) ?_) | (with_reducible refine cSetOff (by dsimp only; omega) ?_) | (with_reducible apply cSame) | (with_reducible refine cBelow (by assumption) ?_) | (with_reducible apply sAlloc) | (with_reducible apply sDrew) | (with_reducible refine sBelow (by assumption) ?_) | (with_reducible refine sSet (by dsimp only; omega) ?_))); first | done | (simp [*]; done)))).mono ?_
  rintro e w3 ⟨rfl, hb3⟩
  have hb := hb3
  have HR3 : Hid (Blk w3 w.heap.size #[.float .f32 0, .float .f32 0, .float .f32 0] 26) := by
    show Blk w3 w.heap.size #[.float .f32 0, .float .f32 0, .float .f32 0] 26
    (repeat (first | (with_reducible exact HR1.out) | (with_reducible refine Blk.below ?_ (by assumption)) | (with_reducible refine Blk.alloc ?_) | (with_reducible refine Blk.drew ?_) | (with_reducible refine Blk.other ?_ (by dsimp only; omega))))
  obtain ⟨hc, hf⟩ := bcell hb; have HL := keepL (by (repeat (first | (with_reducible assumption) | (with_reducible apply AllLt.alloc) | (with_reducible apply AllLt.setCell) | (with_reducible apply AllLt.drew) | (with_reducible exact AllLt.nil _)))) hb; have hq := HL; simp only [AllLt, and_true, World.size_alloc, World.size_setCell, World.size_drew] at hq; have hbs := hb.size; try simp only [World.size_alloc, World.size_setCell, World.size_drew] at hbs
  go_wp2_with (first | (go_at_call 67; refine (O.call _).mono ?_; rintro e w4 ⟨rfl, hb4⟩; have hb := hb4; obtain ⟨hc, hf⟩ := bcell hb; have HL := keepL (by (repeat (first | (with_reducible assumption) | (with_reducible apply AllLt.alloc) | (with_reducible apply AllLt.setCell) | (with_reducible apply AllLt.drew) | (with_reducible exact AllLt.nil _)))) hb; have hq := HL; simp only [AllLt, and_true, World.size_alloc, World.size_setCell, World.size_drew] at hq; have hbs := hb.size; try simp only [World.size_alloc, World.size_setCell, World.size_drew] at hbs) | (go_at_call 44; refine (L.call _).mono ?_; rintro e w5 ⟨rfl, hb5⟩; have hb := hb5; have HR5 : Blk w5 w.heap.size #[.float .f32 0, .float .f32 0, .float .f32 0] 26 := Blk.belowAt hb5 (Blk.belowAt hb4 HR3.out); have e0 := Blk.cellAt (i := 0) HR5 rfl; have e1 := Blk.cellAt (i := 1) HR5 rfl; have e2 := Blk.cellAt (i := 2) HR5 rfl; have s0 := Blk.freeAt (i := 0) HR5; have s1 := Blk.freeAt (i := 1) HR5; have s2 := Blk.freeAt (i := 2) HR5; have HR6 : Hid (Blk w5 w.heap.size #[.float .f32 0, .float .f32 0, .float .f32 0] 26) := HR5; clear HR5; obtain ⟨hc, hf⟩ := bcell hb; have HL := keepL (by (repeat (first | (with_reducible assumption) | (with_reducible apply AllLt.alloc) | (with_reducible apply AllLt.setCell) | (with_reducible apply AllLt.drew) | (with_reducible exact AllLt.nil _)))) hb; have hq := HL; simp only [AllLt, and_true, World.size_alloc, World.size_setCell, World.size_drew] at hq; have hbs := hb.size; try simp only [World.size_alloc, World.size_setCell, World.size_drew] at hbs))
  (have d0 := (HR6.out.set (i := 0) (v := .float .f32 p)).cell 0; have d1 := ((HR6.out.set (i := 0) (v := .float .f32 p)).set (i := 1) (v := .float .f32 q)).cell 1; have d2 := (((HR6.out.set (i := 0) (v := .float .f32 p)).set (i := 1) (v := .float .f32 q)).set (i := 2) (v := .float .f32 r)).cell 2; simp only [List.setIfInBounds_toArray, List.set_cons_zero, List.set_cons_succ, List.getElem?_toArray, List.getElem?_cons_zero, List.getElem?_cons_succ] at d0 d1 d2; exact bodyPost_ret (v := .tuple #[.agg #[.float .f32 p, .float .f32 q, .float .f32 r], .bool true]) (by simp [results, Try.results26, go_sem, d0, d1, d2]) rfl ⟨rfl, by (repeat' (first | (with_reducible exact Below.refl _ _) | (with_reducible assumption) | (with_reducible refine Below.alloc ?_ ?_ _) | (with_reducible refine Below.drew ?_) | (with_reducible refine Below.setCell ?_ ?_ _) | (with_reducible refine Below.trans ?_ (Below.mono (by assumption) ?_)) | (with_reducible exact Nat.le_refl _) | omega | (simp only [World.size_alloc, World.size_setCell, World.size_drew]; omega) | (simp; omega) | (simp; done)))⟩)
end Go.Proofs.Ytljilmekmfnkbaa
