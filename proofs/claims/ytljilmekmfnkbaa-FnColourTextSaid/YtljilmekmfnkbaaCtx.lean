/-
  The draw of a text of a colour; what is written of a colour that was read.
-/
import Derived.Test.YtljilmekmfnkbaaCdc
import Derived.Test.YtljilmekmfnkbaaCpc
namespace Go.Proofs.Ytljilmekmfnkbaa
open Go.ChangeShapes Go.WideShapes Go.ChangeAt Go.RowKit Go.Joins
set_option linter.unusedSimpArgs false
set_option linter.unusedVariables false
set_option maxRecDepth 100000
attribute [local go_sem] store_f
open Ieee

theorem step_part {n : Nat} (h : n ≤ 15) : stepN (partB n) = n := by
  rcases up15 h with rfl | rfl | rfl | rfl | rfl | rfl | rfl | rfl | rfl | rfl | rfl | rfl | rfl | rfl | rfl | rfl <;> decide +kernel

/-- A text is read as no colour, or as three digits of one. -/
structure ParN (s : ByteArray) : Prop where
  call : ∀ w : World, Calls Try.prog 26 #[.string s] w fun e w' => e = .returned (.tuple #[.agg #[.float .f32 0, .float .f32 0, .float .f32 0], .bool false]) ∧ Below w.heap.size w w'
structure ParY (s : ByteArray) (p q r : Nat) : Prop where
  call : ∀ w : World, Calls Try.prog 26 #[.string s] w fun e w' => e = .returned (.tuple #[.agg #[.float .f32 p, .float .f32 q, .float .f32 r], .bool true]) ∧ Below w.heap.size w w'
structure ForY (p q r : Nat) (s : ByteArray) : Prop where
  call : ∀ w : World, Calls Try.prog 27 #[.agg #[.float .f32 p, .float .f32 q, .float .f32 r]] w fun e w' => e = .returned (.string s) ∧ Below w.heap.size w w'
structure IsY (p q r : Nat) : Prop where
  call : ∀ w : World, Calls Try.prog 20 #[.agg #[.float .f32 p, .float .f32 q, .float .f32 r]] w fun e w' => e = .returned (.bool true) ∧ Below w.heap.size w w'

theorem three {s : ByteArray} (h : s.size = 3) : ∃ a b c : UInt8, s = ⟨#[a, b, c]⟩ := by
  obtain ⟨⟨l⟩⟩ := s
  have hl : l.length = 3 := h
  match l, hl with
  | [a, b, c], _ => exact ⟨a, b, c, rfl⟩
theorem contains_of {u v x : Int} {t : Bool} (h : decide (0 ≤ idx3 u v x) = t) : ConI u v x t := ⟨fun g w c0 c1 c2 => contains_i u v x t h g w c0 c1 c2⟩
theorem steps (b0 b1 b2 : UInt8) : EachS b0 b1 b2 (hexV b0) (hexV b1) (hexV b2) :=
  ⟨fun w => eachStep_i _ _ _ _ _ _ w (fun w1 _ => stepOfDigit_i b0 w1) (fun w1 _ => stepOfDigit_i b1 w1) (fun w1 _ => stepOfDigit_i b2 w1)⟩

theorem parse_dig3 {i j k : Nat} (hi : i ≤ 15) (hj : j ≤ 15) (hk : k ≤ 15) : ParY (dig3 i j k) (partB i) (partB j) (partB k) := by
  have S := steps (dg i) (dg j) (dg k)
  rw [hexV_dg hi, hexV_dg hj, hexV_dg hk] at S
  refine ⟨fun w => parse_i_yes (dg i) (dg j) (dg k) _ _ _ _ _ _ S (contains_of ?_) ⟨fun w => eachOf_i _ _ _ _ _ _ w (fun w1 _ => partOfStep_i hi w1) (fun w1 _ => partOfStep_i hj w1) (fun w1 _ => partOfStep_i hk w1)⟩ ⟨fun w => colourOf_i _ _ _ w⟩ w⟩
  have n1 : ¬ (i : Int) = -1 := by omega
  have n2 : ¬ (j : Int) = -1 := by omega
  have n3 : ¬ (k : Int) = -1 := by omega
  simp [idx3, n1, n2, n3]

theorem format_dig3 {i j k : Nat} (hi : i ≤ 15) (hj : j ≤ 15) (hk : k ≤ 15) : ForY (partB i) (partB j) (partB k) (dig3 i j k) := by
  refine ⟨fun w => ?_⟩
  have h := format_i_yes (partB i) (partB j) (partB k) (part_of_le (partB_le hi)) (part_of_le (partB_le hj)) (part_of_le (partB_le hk)) w
  rw [step_part hi, step_part hj, step_part hk] at h
  exact h

theorem is_parts {p q r : Nat} (hp : Part p) (hq : Part q) (hr : Part r) : IsY p q r := ⟨fun w => by
  have h := isColour_i p q r w
  rw [parts_colB hp hq hr] at h
  exact h⟩

theorem parse_any (s : ByteArray) : ParN s ∨ ∃ p q r, ParY s p q r ∧ ForY p q r s ∧ IsY p q r := by
  by_cases h : s.size = 3
  · obtain ⟨a, b, c, rfl⟩ := three h
    rcases hexV_cases a with ha | ⟨i, hi, rfl, _⟩
    · exact .inl ⟨fun w => parse_i_no a b c _ _ _ (steps a b c) (contains_of (by rw [ha]; simp [idx3])) w⟩
    · rcases hexV_cases b with hb | ⟨j, hj, rfl, _⟩
      · exact .inl ⟨fun w => parse_i_no _ b c _ _ _ (steps _ b c) (contains_of (by rw [hexV_dg hi, hb]; simp [idx3])) w⟩
      · rcases hexV_cases c with hc | ⟨k, hk, rfl, _⟩
        · exact .inl ⟨fun w => parse_i_no _ _ c _ _ _ (steps _ _ c) (contains_of (by rw [hexV_dg hi, hexV_dg hj, hc]; simp [idx3])) w⟩
        · exact .inr ⟨partB i, partB j, partB k, parse_dig3 hi hj hk, format_dig3 hi hj hk, is_parts (part_of_le (partB_le hi)) (part_of_le (partB_le hj)) (part_of_le (partB_le hk))⟩
  · exact .inl ⟨fun w => parse_i_len s h w⟩

/-- What the draw of a text gives. -/
structure TextDrawn (w : World) (e : Ending) (w' : World) (s : ByteArray) : Prop where
  ret : e = .returned (.string s)
  below : Below w.heap.size w w'

structure StrDrawn (B q : Nat) (w : World) (e : Ending) (w' : World) (s : ByteArray) : Prop where
  ret : e = .returned (.string s)
  cur : Cur B w' q
  grown : w.grownBy w' (some q)

set_option maxHeartbeats 1000000 in
theorem l1Str_s (B q g : Nat) (s0 s1 s2 s3 s4 s5 s6 s7 s8 : ByteArray) (t : TypeId) (w : World) (hcur : Cur B w q) (hne : g ≠ q)
    (hrow : Blk w g #[.string s0, .string s1, .string s2, .string s3, .string s4, .string s5, .string s6, .string s7, .string s8] t) :
    Calls Try.prog 61 #[.pointer (some ⟨q, 0, Option.none⟩), .slice (some ⟨g, 0, Option.none⟩) 9 9] w fun e w' => ∃ s, StrDrawn B q w e w' s := by
  have HC : Hid (Cur B w q) := hcur
  have HB : Hid (Blk w g #[.string s0, .string s1, .string s2, .string s3, .string s4, .string s5, .string s6, .string s7, .string s8] t) := hrow
  clear hcur hrow
  go_enter Try.func61, Try.ntmps61
  go_wp2_with fail
  refine (l1Below_s B q 9 _ HC.out (by omega) (by omega)).mono ?_
  rintro e w1 ⟨x, rfl, hx0, hx1, hc1, hg1⟩
  have HB1 := HB.out.grown hg1 hne
  have HC1 : Hid (Cur B w1 q) := hc1
  have HG1 : Hid (w.grownBy w1 (some q)) := hg1
  have l1 := HB1.lt
  have d0 := Blk.cellAt (i := 0) HB1 rfl
  have d1 := Blk.cellAt (i := 1) HB1 rfl
  have d2 := Blk.cellAt (i := 2) HB1 rfl
  have d3 := Blk.cellAt (i := 3) HB1 rfl
  have d4 := Blk.cellAt (i := 4) HB1 rfl
  have d5 := Blk.cellAt (i := 5) HB1 rfl
  have d6 := Blk.cellAt (i := 6) HB1 rfl
  have d7 := Blk.cellAt (i := 7) HB1 rfl
  have d8 := Blk.cellAt (i := 8) HB1 rfl
  simp at d0 d1 d2 d3 d4 d5 d6 d7 d8
  clear hc1 hg1 HB1
  rcases (by omega : x = 0 ∨ x = 1 ∨ x = 2 ∨ x = 3 ∨ x = 4 ∨ x = 5 ∨ x = 6 ∨ x = 7 ∨ x = 8) with rfl | rfl | rfl | rfl | rfl | rfl | rfl | rfl | rfl
  all_goals
    go_wp2
    go_ret
    exact ⟨_, rfl, HC1.out, HG1.out⟩

set_option maxHeartbeats 2000000 in
theorem drawParse_s (a : Option Addr) (len cap : Nat) (bs : List Int) (w : World) (hrow : ByteRow w w.heap.size a len bs) (hlen : len ≤ 4096) :
    Calls Try.prog 25 #[.slice a len cap] w fun e w' => ∃ s, TextDrawn w e w' s := by
  go_enter Try.func25, Try.ntmps25
  go_wp2_with fail
  refine (l1New_s a len cap bs _ hrow hlen).mono ?_
  rintro e w1 ⟨q, rfl, hql, hcur, hb1⟩
  have hqB := hcur.ge
  have C1 : Hid (Cur w.heap.size w1 q) := hcur
  have B1 : Hid (Below w.heap.size w w1) := hb1
  have s1 := hb1.size
  clear hcur hb1 hrow
  go_wp2_with fail
  refine (l1Once_s w.heap.size q 4 _ C1.out (by omega) (by omega)).mono ?_
  rintro e w2 ⟨t, ⟨rfl, hc2, hg2⟩⟩
  have C2 : Hid (Cur w.heap.size w2 q) := hc2
  have G2 : Hid (w1.grownBy w2 (some q)) := hg2
  have hq2 := hc2.lt
  clear hc2 hg2
  cases t
  · go_wp2_with fail
    refine (l1Below_s _ q 16 _ C2.out (by omega) (by omega)).mono ?_
    rintro e w3 ⟨x, rfl, hx0, hx1, hc3, hg3⟩
    obtain ⟨i, rfl⟩ : ∃ n : Nat, x = n := ⟨x.toNat, by omega⟩
    have C3 : Hid (Cur w.heap.size w3 q) := hc3
    have G3 : Hid (w1.grownBy w3 (some q)) := grownBy_trans G2.out hg3
    have KI : DigC i := ⟨fun w => l2Digit_s i (by omega) w⟩
    clear hc3 hg3 hx0 hx1
    go_wp2_with (go_at_call 62; refine (KI.call _).mono ?_; rintro e w9 ⟨rfl, rfl⟩)
    refine (l1Below_s _ q 16 _ C3.out (by omega) (by omega)).mono ?_
    rintro e w4 ⟨x, rfl, hx0, hx1, hc4, hg4⟩
    obtain ⟨j, rfl⟩ : ∃ n : Nat, x = n := ⟨x.toNat, by omega⟩
    have C4 : Hid (Cur w.heap.size w4 q) := hc4
    have G4 : Hid (w1.grownBy w4 (some q)) := grownBy_trans G3.out hg4
    have KJ : DigC j := ⟨fun w => l2Digit_s j (by omega) w⟩
    have zi : (digS i).size = 1 := rfl
    have zj : (digS j).size = 1 := rfl
    have zij : (digS i ++ digS j).size = 2 := by rw [ByteArray.size_append, zi, zj]
    clear hc4 hg4 hx0 hx1
    go_wp2_with (go_at_call 62; refine (KJ.call _).mono ?_; rintro e w8 ⟨rfl, rfl⟩)
    refine (l1Below_s _ q 16 _ C4.out (by omega) (by omega)).mono ?_
    rintro e w5 ⟨x, rfl, hx0, hx1, hc5, hg5⟩
    obtain ⟨k, rfl⟩ : ∃ n : Nat, x = n := ⟨x.toNat, by omega⟩
    have B5 : Hid (Below w.heap.size w w5) := Below.trans B1.out (below_of_grown (grownBy_trans G4.out hg5) hqB s1)
    have KK : DigC k := ⟨fun w => l2Digit_s k (by omega) w⟩
    have zk : (digS k).size = 1 := rfl
    clear hc5 hg5 hx0 hx1
    go_wp2_with (go_at_call 62; refine (KK.call _).mono ?_; rintro e w7 ⟨rfl, rfl⟩)
    go_ret
    exact ⟨_, rfl, B5.out⟩
  · go_wp2_with fail
    refine (l1Str_s w.heap.size q _ _ _ _ _ _ _ _ _ _ _ _ C2.out.alloc ?_ (Blk.new _ _ _)).mono ?_
    · omega
    rintro e w3 ⟨s, ⟨rfl, hc3, hg3⟩⟩
    have B3 : Hid (Below w.heap.size w w3) := Below.trans B1.out (below_of_grown (grownBy_trans (grown_alloc G2.out _) hg3) hqB s1)
    clear hc3 hg3
    go_wp2
    go_ret
    exact ⟨_, rfl, B3.out⟩
end Go.Proofs.Ytljilmekmfnkbaa
