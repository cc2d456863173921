/-
  The call of FnExactParseColour returns true and writes nothing that was there.
-/
import Derived.Test.YtljilmekmfnkbaaCps
import Derived.Test.YtljilmekmfnkbaaCstr
namespace Go.Proofs.Ytljilmekmfnkbaa.wFnExactParseColour
open Go.ChangeShapes Go.WideShapes Go.ChangeAt Go.RowKit Go.Joins
set_option linter.unusedSimpArgs false
set_option linter.unusedVariables false
set_option maxRecDepth 100000
attribute [local go_sem] store_f

structure Both (s : ByteArray) (x y z : Nat) (f : Bool) : Prop where
  imp : ∀ w : World, Calls Try.prog 26 #[.string s] w fun e w' => e = .returned (.tuple #[.agg #[.float .f32 x, .float .f32 y, .float .f32 z], .bool f]) ∧ Below w.heap.size w w'
  spe : ∀ w : World, Calls Try.prog 39 #[.string s] w fun e w' => e = .returned (.tuple #[.agg #[.float .f32 x, .float .f32 y, .float .f32 z], .bool f]) ∧ Below w.heap.size w w'
  same : ∀ w : World, Calls Try.prog 31 #[.agg #[.float .f32 x, .float .f32 y, .float .f32 z], .agg #[.float .f32 x, .float .f32 y, .float .f32 z]] w fun e w' => e = .returned (.bool true) ∧ Below w.heap.size w w'

theorem walk_of (s : ByteArray) (x y z : Nat) (f : Bool) (hs : (s.size : Int) ≤ 1048576) (H : Both s x y z f) (w : World) :
    Calls Try.prog 15 #[.string s] w fun e w' => e = .returned (.bool true) ∧ Below w.heap.size w w' := by
  have hn : ¬ (1048576 : Int) < (s.size : Int) := by omega
  cases f
  all_goals
    go_enter Try.func15, Try.ntmps15
    go_wp2_with (first | (go_at_call 39; refine (H.spe _).mono ?_; rintro e w1 ⟨rfl, hb⟩; obtain ⟨hc, hf⟩ := bcell hb; have HL := keepL (by (repeat (first | (with_reducible assumption) | (with_reducible apply AllLt.alloc) | (with_reducible apply AllLt.setCell) | (with_reducible apply AllLt.drew) | (with_reducible exact AllLt.nil _)))) hb; have hq := HL; simp only [AllLt, and_true, World.size_alloc, World.size_setCell, World.size_drew] at hq; have hbs := hb.size; try simp only [World.size_alloc, World.size_setCell, World.size_drew] at hbs) | (go_at_call 26; refine (H.imp _).mono ?_; rintro e w2 ⟨rfl, hb⟩; obtain ⟨hc, hf⟩ := bcell hb; have HL := keepL (by (repeat (first | (with_reducible assumption) | (with_reducible apply AllLt.alloc) | (with_reducible apply AllLt.setCell) | (with_reducible apply AllLt.drew) | (with_reducible exact AllLt.nil _)))) hb; have hq := HL; simp only [AllLt, and_true, World.size_alloc, World.size_setCell, World.size_drew] at hq; have hbs := hb.size; try simp only [World.size_alloc, World.size_setCell, World.size_drew] at hbs) | (go_at_call 31; refine (H.same _).mono ?_; rintro e w3 ⟨rfl, hb⟩; obtain ⟨hc, hf⟩ := bcell hb; have HL := keepL (by (repeat (first | (with_reducible assumption) | (with_reducible apply AllLt.alloc) | (with_reducible apply AllLt.setCell) | (with_reducible apply AllLt.drew) | (with_reducible exact AllLt.nil _)))) hb; have hq := HL; simp only [AllLt, and_true, World.size_alloc, World.size_setCell, World.size_drew] at hq; have hbs := hb.size; try simp only [World.size_alloc, World.size_setCell, World.size_drew] at hbs))
    go_returns; exact ⟨rfl, by (repeat' (first | (with_reducible exact Below.refl _ _) | (with_reducible assumption) | (with_reducible refine Below.alloc ?_ ?_ _) | (with_reducible refine Below.drew ?_) | (with_reducible refine Below.setCell ?_ ?_ _) | (with_reducible refine Below.trans ?_ (Below.mono (by assumption) ?_)) | (with_reducible exact Nat.le_refl _) | omega | (simp only [World.size_alloc, World.size_setCell, World.size_drew]; omega) | (simp; omega) | (simp; done)))⟩

theorem three {s : ByteArray} (h : s.size = 3) : ∃ a b c : UInt8, s = ⟨#[a, b, c]⟩ := by
  obtain ⟨⟨l⟩⟩ := s
  have hl : l.length = 3 := h
  match l, hl with
  | [a, b, c], _ => exact ⟨a, b, c, rfl⟩

theorem contains_of {u v x : Int} {t : Bool} (h : decide (0 ≤ idx3 u v x) = t) : ConI u v x t := ⟨fun g w c0 c1 c2 => contains_i u v x t h g w c0 c1 c2⟩

theorem steps (b0 b1 b2 : UInt8) : EachS b0 b1 b2 (hexV b0) (hexV b1) (hexV b2) :=
  ⟨fun w => eachStep_i _ _ _ _ _ _ w (fun w1 _ => stepOfDigit_i b0 w1) (fun w1 _ => stepOfDigit_i b1 w1) (fun w1 _ => stepOfDigit_i b2 w1)⟩

theorem val (b : UInt8) : ValC b (hexV b) := ⟨fun w => l2Value_s b w⟩

theorem both_no (s : ByteArray) (i : ∀ w : World, Calls Try.prog 26 #[.string s] w fun e w' => e = .returned (tupV 0 0 0 false) ∧ Below w.heap.size w w')
    (p : ∀ w : World, Calls Try.prog 39 #[.string s] w fun e w' => e = .returned (tupV 0 0 0 false) ∧ Below w.heap.size w w') : Both s 0 0 0 false :=
  ⟨i, p, fun w => eqColour_yes 0 0 0 (by omega) (by omega) (by omega) w⟩

/-- What both sides answer, for every text. -/
theorem both (s : ByteArray) : ∃ x y z f, Both s x y z f := by
  by_cases h : s.size = 3
  · obtain ⟨a, b, c, rfl⟩ := three h
    rcases hexV_cases a with ha | ⟨i, hi, ea, ha⟩
    · exact ⟨0, 0, 0, false, both_no _ (fun w => parse_i_no a b c _ _ _ (steps a b c) (contains_of (by rw [ha]; simp [idx3])) w) (fun w => parse_s_no a b c _ _ _ (val a) (val b) (val c) (Or.inl (by rw [ha]; omega)) w)⟩
    · rcases hexV_cases b with hb | ⟨j, hj, eb, hb⟩
      · exact ⟨0, 0, 0, false, both_no _ (fun w => parse_i_no a b c _ _ _ (steps a b c) (contains_of (by rw [ha, hb]; simp [idx3])) w) (fun w => parse_s_no a b c _ _ _ (val a) (val b) (val c) (Or.inr (Or.inl ⟨by rw [ha]; omega, by rw [hb]; omega⟩)) w)⟩
      · rcases hexV_cases c with hc | ⟨k, hk, ec, hc⟩
        · exact ⟨0, 0, 0, false, both_no _ (fun w => parse_i_no a b c _ _ _ (steps a b c) (contains_of (by rw [ha, hb, hc]; simp [idx3])) w) (fun w => parse_s_no a b c _ _ _ (val a) (val b) (val c) (Or.inr (Or.inr ⟨by rw [ha]; omega, by rw [hb]; omega, by rw [hc]; omega⟩)) w)⟩
        · have S := steps a b c
          have A := val a
          have B := val b
          have C := val c
          rw [ha] at S A
          rw [hb] at S B
          rw [hc] at S C
          have l1 := partB_le hi
          have l2 := partB_le hj
          have l3 := partB_le hk
          refine ⟨partB i, partB j, partB k, true, ⟨fun w => parse_i_yes a b c _ _ _ _ _ _ S (contains_of ?_) ⟨fun w => eachOf_i _ _ _ _ _ _ w (fun w1 _ => partOfStep_i hi w1) (fun w1 _ => partOfStep_i hj w1) (fun w1 _ => partOfStep_i hk w1)⟩ ⟨fun w => colourOf_i _ _ _ w⟩ w,
            fun w => parse_s_yes a b c i j k _ _ _ A B C (partB_div hi) (partB_div hj) (partB_div hk) w, fun w => eqColour_yes _ _ _ (by omega) (by omega) (by omega) w⟩⟩
          have n1 : ¬ (i : Int) = -1 := by omega
          have n2 : ¬ (j : Int) = -1 := by omega
          have n3 : ¬ (k : Int) = -1 := by omega
          simp [idx3, n1, n2, n3]
  · exact ⟨0, 0, 0, false, both_no _ (fun w => parse_i_len s h w) (fun w => parse_s_len s h w)⟩

theorem walk (s : ByteArray) (w : World) (_ : s.size ≤ maxLen) :
    Calls Try.prog 15 #[.string s] w fun e w' => e = .returned (.bool true) ∧ Below w.heap.size w w' := by
  by_cases hs : (s.size : Int) ≤ 1048576
  · obtain ⟨x, y, z, f, H⟩ := both s
    exact walk_of s x y z f hs H w
  · have hn : (1048576 : Int) < (s.size : Int) := by omega
    clear hs
    go_enter Try.func15, Try.ntmps15
    go_wp2
    all_goals (go_returns; exact ⟨rfl, by (repeat' (first | (with_reducible exact Below.refl _ _) | (with_reducible assumption) | (with_reducible refine Below.alloc ?_ ?_ _) | (with_reducible refine Below.drew ?_) | (with_reducible refine Below.setCell ?_ ?_ _) | (with_reducible refine Below.trans ?_ (Below.mono (by assumption) ?_)) | (with_reducible exact Nat.le_refl _) | omega | (simp only [World.size_alloc, World.size_setCell, World.size_drew]; omega) | (simp; omega) | (simp; done)))⟩)
end Go.Proofs.Ytljilmekmfnkbaa.wFnExactParseColour
