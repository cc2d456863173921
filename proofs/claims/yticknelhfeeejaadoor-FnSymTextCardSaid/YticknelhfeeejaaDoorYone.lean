/-
  The draw of a symmetry and of its text; what is written of a symmetry is read as it.
-/
import Derived.Test.YticknelhfeeejaaDoorDstr
import Derived.Test.YticknelhfeeejaaDoorTtwo
namespace Go.Proofs.YticknelhfeeejaaDoor
open Go.ChangeShapes Go.WideShapes Go.ChangeAt Go.RowKit Go.Joins 
set_option linter.unusedSimpArgs false
set_option linter.unusedVariables false
set_option maxRecDepth 100000

theorem hit_text : ∀ (t : Nat) (f : Bool) (k : Nat), t < 4 → k < 8 → hit (textS (t : Int) f) k = (decide (((k : Int) % 4) = (t : Int)) && (decide (4 ≤ (k : Int)) == f)) := by
  intro t f k ht hk
  rcases (by omega : t = 0 ∨ t = 1 ∨ t = 2 ∨ t = 3) with rfl | rfl | rfl | rfl <;> cases f <;>
  rcases (by omega : k = 0 ∨ k = 1 ∨ k = 2 ∨ k = 3 ∨ k = 4 ∨ k = 5 ∨ k = 6 ∨ k = 7) with rfl | rfl | rfl | rfl | rfl | rfl | rfl | rfl <;> decide +kernel

theorem hit_none (k : Nat) (hk : k < 8) : hit ⟨#[]⟩ k = false := by
  rcases (by omega : k = 0 ∨ k = 1 ∨ k = 2 ∨ k = 3 ∨ k = 4 ∨ k = 5 ∨ k = 6 ∨ k = 7) with rfl | rfl | rfl | rfl | rfl | rfl | rfl | rfl <;> decide +kernel

/-- What is written of a symmetry is read as it; of what is none nothing is read. -/
theorem reads_text {t t2 : Int} {f f2 ok : Bool} (h : Reads (textS t f) t2 f2 ok) : ok = isSymB t ∧ (isSymB t = true → t2 = t ∧ f2 = f) := by
  cases hs : isSymB t
  · have e : textS t f = ⟨#[]⟩ := by simp [textS, hs]
    rw [e] at h
    rcases h with ⟨_, _, _, rfl⟩ | ⟨k, hk, _, hh, _⟩
    · exact ⟨rfl, fun h => by cases h⟩
    · rw [hit_none k hk] at hh; cases hh
  · obtain ⟨h0, h4⟩ := isSymB_iff.1 hs
    obtain ⟨n, rfl⟩ : ∃ n : Nat, t = n := ⟨t.toNat, by omega⟩
    have hn : n < 4 := by omega
    rcases h with ⟨hno, _⟩ | ⟨k, hk, _, hh, rfl, rfl, rfl⟩
    · exfalso
      have h1 := hno (if f then n + 4 else n) (by split <;> omega)
      rw [hit_text n f _ hn (by split <;> omega)] at h1
      cases f
      · simp at h1
        omega
      · simp at h1
        omega
    · rw [hit_text n f k hn hk] at hh
      simp at hh
      exact ⟨rfl, fun _ => ⟨hh.1, hh.2⟩⟩

structure IntDrawn (B q : Nat) (w : World) (e : Ending) (w' : World) (x : Int) : Prop where
  ret : e = .returned (.int .i64 x)
  cur : Cur B w' q
  grown : w.grownBy w' (some q)
structure SymDrawn (B q : Nat) (w : World) (e : Ending) (w' : World) (t : Int) (f : Bool) : Prop where
  ret : e = .returned (.agg #[.int .i64 t, .bool f])
  cur : Cur B w' q
  grown : w.grownBy w' (some q)

set_option maxHeartbeats 2000000 in
theorem l1Int_s (B q g : Nat) (a0 a1 a2 a3 a4 a5 a6 a7 a8 a9 b0 b1 b2 b3 b4 b5 b6 b7 b8 b9 : Int) (t : TypeId) (w : World) (hcur : Cur B w q) (hne : g ≠ q)
    (hrow : Blk w g #[.int .i64 a0, .int .i64 a1, .int .i64 a2, .int .i64 a3, .int .i64 a4, .int .i64 a5, .int .i64 a6, .int .i64 a7, .int .i64 a8, .int .i64 a9, .int .i64 b0, .int .i64 b1, .int .i64 b2, .int .i64 b3, .int .i64 b4, .int .i64 b5, .int .i64 b6, .int .i64 b7, .int .i64 b8, .int .i64 b9] t) :
    Calls Tryd.prog 27 #[.pointer (some ⟨q, 0, Option.none⟩), .slice (some ⟨g, 0, Option.none⟩) 20 20] w fun e w' => ∃ x, IntDrawn B q w e w' x := by
  have HC : Hid (Cur B w q) := hcur
  have HB : Hid (∀ k : Nat, k < 20 → ∃ x : Int, w.cell? ⟨g, k, Option.none⟩ = some (.int .i64 x)) := fun k hk => by
    rcases (by omega : k = 0 ∨ k = 1 ∨ k = 2 ∨ k = 3 ∨ k = 4 ∨ k = 5 ∨ k = 6 ∨ k = 7 ∨ k = 8 ∨ k = 9 ∨ k = 10 ∨ k = 11 ∨ k = 12 ∨ k = 13 ∨ k = 14 ∨ k = 15 ∨ k = 16 ∨ k = 17 ∨ k = 18 ∨ k = 19) with rfl | rfl | rfl | rfl | rfl | rfl | rfl | rfl | rfl | rfl | rfl | rfl | rfl | rfl | rfl | rfl | rfl | rfl | rfl | rfl
    all_goals exact ⟨_, (hrow.cell _).trans rfl⟩
  have hlt : Hid (g < w.heap.size) := hrow.lt
  clear hcur hrow
  go_enter Tryd.func27, Tryd.ntmps27
  go_wp2_with fail
  refine (l1Below_s B q 20 _ HC.out (by omega) (by omega)).mono ?_
  rintro e w1 ⟨x, rfl, hx0, hx1, hc1, hg1⟩
  obtain ⟨n, rfl⟩ : ∃ n : Nat, x = n := ⟨x.toNat, by omega⟩
  have hn : n < 20 := by omega
  obtain ⟨y, hy⟩ := HB.out n hn
  have hy1 : w1.cell? ⟨g, n, Option.none⟩ = some (.int .i64 y) := (World.cell?_of_block (hg1.block g hlt.out (fun e => hne (Option.some.inj e)))).trans hy
  have HC1 : Hid (Cur B w1 q) := hc1
  have HG1 : Hid (w.grownBy w1 (some q)) := hg1
  clear hc1 hg1 hy hx0 hx1
  go_wp2
  go_ret
  exact ⟨_, rfl, HC1.out, HG1.out⟩

set_option maxHeartbeats 2000000 in
theorem l1Odd_s (B q : Nat) (w : World) (hcur : Cur B w q) :
    Calls Tryd.prog 24 #[.pointer (some ⟨q, 0, Option.none⟩)] w fun e w' => ∃ x, IntDrawn B q w e w' x := by
  have HC : Hid (Cur B w q) := hcur
  have hq := hcur.lt
  clear hcur
  go_enter Tryd.func24, Tryd.ntmps24
  go_wp2_with fail
  refine (l1Int_s B q _ _ _ _ _ _ _ _ _ _ _ _ _ _ _ _ _ _ _ _ _ _ _ HC.out.alloc ?_ (Blk.new _ _ _)).mono ?_
  · omega
  rintro e w1 ⟨x, ⟨rfl, hc1, hg1⟩⟩
  have HC1 : Hid (Cur B w1 q) := hc1
  have HG1 : Hid (w.grownBy w1 (some q)) := grownBy_trans (grown_alloc (grownBy_refl _ _) _) hg1
  clear hc1 hg1
  go_wp2
  go_ret
  exact ⟨_, rfl, HC1.out, HG1.out⟩
end Go.Proofs.YticknelhfeeejaaDoor
