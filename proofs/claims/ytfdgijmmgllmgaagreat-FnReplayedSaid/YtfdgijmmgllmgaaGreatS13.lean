/-
  Texts Qa Gj Ub, joined.
-/
import Derived.Test.YtfdgijmmgllmgaaGreatS11
import Derived.Test.YtfdgijmmgllmgaaGreatS12
import Derived.Test.YtfdgijmmgllmgaaGreatS06
import Derived.Maps.AppendAt
import Derived.Test.YtfdgijmmgllmgaaGreatS09
namespace Go.Proofs.YtfdgijmmgllmgaaGreat
open Go.ChangeShapes Go.WideShapes Go.ChangeAt Go.RowKit Go.Joins
set_option linter.unusedSimpArgs false
set_option linter.unusedVariables false
set_option maxRecDepth 100000
attribute [local go_sem] store_f
open Ieee Go.Lib
attribute [local go_sem] store_c
/-- A sixteenth of a fine single is clean, and no greater than 40. -/
def sixB (m k : Nat) : Bool := match fineB m k with
  | some r => match F32.div r 1098907648 with
    | some q => decide (q < 4294967296) && decide (q % 2147483648 ≤ 1109393408) && (decide (q % 2147483648 ≠ 0) || decide (q = 0))
    | none => false
  | none => false
set_option maxRecDepth 1000000
theorem six_0 : chkTo (fun m => chkTo (sixB (0 + m)) 6) 100 = true := by decide +kernel
theorem six_1 : chkTo (fun m => chkTo (sixB (100 + m)) 6) 100 = true := by decide +kernel
theorem six_2 : chkTo (fun m => chkTo (sixB (200 + m)) 6) 100 = true := by decide +kernel
theorem six_3 : chkTo (fun m => chkTo (sixB (300 + m)) 6) 100 = true := by decide +kernel
theorem six_4 : chkTo (fun m => chkTo (sixB (400 + m)) 6) 100 = true := by decide +kernel
theorem six_5 : chkTo (fun m => chkTo (sixB (500 + m)) 6) 100 = true := by decide +kernel
theorem six_6 : chkTo (fun m => chkTo (sixB (600 + m)) 6) 100 = true := by decide +kernel
theorem six_7 : chkTo (fun m => chkTo (sixB (700 + m)) 6) 100 = true := by decide +kernel
theorem six_8 : chkTo (fun m => chkTo (sixB (800 + m)) 6) 100 = true := by decide +kernel
theorem six_9 : chkTo (fun m => chkTo (sixB (900 + m)) 6) 100 = true := by decide +kernel
theorem six_10 : chkTo (fun m => chkTo (sixB (1000 + m)) 6) 100 = true := by decide +kernel
theorem six_11 : chkTo (fun m => chkTo (sixB (1100 + m)) 6) 100 = true := by decide +kernel
theorem six_12 : chkTo (fun m => chkTo (sixB (1200 + m)) 6) 81 = true := by decide +kernel
structure Six (r x : Nat) : Prop where
  div : F32.div r 1098907648 = some x
  lt : x < 4294967296
  le : x % 2147483648 ≤ 1109393408
  z : x % 2147483648 = 0 → x = 0
theorem six_of (m k : Nat) (hm : m < 1281) (hk : k < 6) : ∃ r x, fineB m k = some r ∧ Six r x := by
  have key : sixB m k = true := by
    rcases (by omega : (0 ≤ m ∧ m < 100) ∨ (100 ≤ m ∧ m < 200) ∨ (200 ≤ m ∧ m < 300) ∨ (300 ≤ m ∧ m < 400) ∨ (400 ≤ m ∧ m < 500) ∨ (500 ≤ m ∧ m < 600) ∨ (600 ≤ m ∧ m < 700) ∨ (700 ≤ m ∧ m < 800) ∨ (800 ≤ m ∧ m < 900) ∨ (900 ≤ m ∧ m < 1000) ∨ (1000 ≤ m ∧ m < 1100) ∨ (1100 ≤ m ∧ m < 1200) ∨ (1200 ≤ m ∧ m < 1281)) with h | h | h | h | h | h | h | h | h | h | h | h | h
    · have h1 := chkTo_at (chkTo_at six_0 (m - 0) (by omega)) k hk
      rwa [show 0 + (m - 0) = m by omega] at h1
    · have h1 := chkTo_at (chkTo_at six_1 (m - 100) (by omega)) k hk
      rwa [show 100 + (m - 100) = m by omega] at h1
    · have h1 := chkTo_at (chkTo_at six_2 (m - 200) (by omega)) k hk
      rwa [show 200 + (m - 200) = m by omega] at h1
    · have h1 := chkTo_at (chkTo_at six_3 (m - 300) (by omega)) k hk
      rwa [show 300 + (m - 300) = m by omega] at h1
    · have h1 := chkTo_at (chkTo_at six_4 (m - 400) (by omega)) k hk
      rwa [show 400 + (m - 400) = m by omega] at h1
    · have h1 := chkTo_at (chkTo_at six_5 (m - 500) (by omega)) k hk
      rwa [show 500 + (m - 500) = m by omega] at h1
    · have h1 := chkTo_at (chkTo_at six_6 (m - 600) (by omega)) k hk
      rwa [show 600 + (m - 600) = m by omega] at h1
    · have h1 := chkTo_at (chkTo_at six_7 (m - 700) (by omega)) k hk
      rwa [show 700 + (m - 700) = m by omega] at h1
    · have h1 := chkTo_at (chkTo_at six_8 (m - 800) (by omega)) k hk
      rwa [show 800 + (m - 800) = m by omega] at h1
    · have h1 := chkTo_at (chkTo_at six_9 (m - 900) (by omega)) k hk
      rwa [show 900 + (m - 900) = m by omega] at h1
    · have h1 := chkTo_at (chkTo_at six_10 (m - 1000) (by omega)) k hk
      rwa [show 1000 + (m - 1000) = m by omega] at h1
    · have h1 := chkTo_at (chkTo_at six_11 (m - 1100) (by omega)) k hk
      rwa [show 1100 + (m - 1100) = m by omega] at h1
    · have h1 := chkTo_at (chkTo_at six_12 (m - 1200) (by omega)) k hk
      rwa [show 1200 + (m - 1200) = m by omega] at h1
  unfold sixB at key
  cases h : fineB m k with
  | none => rw [h] at key; cases key
  | some r =>
    rw [h] at key
    simp only [] at key
    cases h2 : F32.div r 1098907648 with
    | none => rw [h2] at key; cases key
    | some x =>
      rw [h2] at key
      simp only [Bool.and_eq_true, Bool.or_eq_true, decide_eq_true_eq] at key
      exact ⟨r, x, rfl, ⟨h2, key.1.1, key.1.2, fun h => by rcases key.2 with h3 | h3; exact absurd h h3; exact h3⟩⟩
structure SixtDrawn (B q : Nat) (w : World) (e : Ending) (w' : World) (r x : Nat) : Prop where
  ret : e = .returned (.float .f32 r)
  six : Six r x
  cur : Cur B w' q
  grown : w.grownBy w' (some q)
set_option maxHeartbeats 2000000 in
theorem l1Fine_q (B q : Nat) (w : World) (hcur : Cur B w q) :
    Calls Tryz.prog 62 #[.pointer (some ⟨q, 0, Option.none⟩)] w fun e w' => ∃ r x, SixtDrawn B q w e w' r x := by
  have HC : Hid (Cur B w q) := hcur
  have hq := hcur.lt
  clear hcur
  go_enter Tryz.func62, Tryz.ntmps62
  go_wp2_with fail
  refine (l1Some_s B q _ HC.out).mono ?_
  rintro e w1 ⟨m, ⟨rfl, hm, hc1, hg1⟩⟩
  have HC1 : Hid (Cur B w1 q) := hc1
  have HG1 : Hid (w.grownBy w1 (some q)) := hg1
  have hq1 := hc1.lt
  have HD : Hid (∀ k, k < 6 → ∃ r x, F32.div (floatOfInt .f32 ((m : Int) - 640)) (divsB k) = some r ∧ Six r x) := fun k hk => six_of m k hm hk
  clear hc1 hg1
  go_wp2_with fail
  refine (l1Below_s B q 6 _ HC1.out.alloc (by omega) (by omega)).mono ?_
  rintro e w2 ⟨x, rfl, hx0, hx1, hc2, hg2⟩
  have HC2 : Hid (Cur B w2 q) := hc2
  have HG2 : Hid (w.grownBy w2 (some q)) := grownBy_trans (grown_alloc HG1.out _) hg2
  have HB : Blk w2 w1.heap.size #[.float .f32 1065353216, .float .f32 1073741824, .float .f32 1098907648, .float .f32 1115684864, .float .f32 1120403456, .float .f32 1077936128] _ := Blk.grown (Blk.new _ _ _) hg2 (by omega)
  have hl := HB.lt
  have c0 := Blk.cellAt (i := 0) HB rfl
  have c1 := Blk.cellAt (i := 1) HB rfl
  have c2 := Blk.cellAt (i := 2) HB rfl
  have c3 := Blk.cellAt (i := 3) HB rfl
  have c4 := Blk.cellAt (i := 4) HB rfl
  have c5 := Blk.cellAt (i := 5) HB rfl
  simp at c0 c1 c2 c3 c4 c5
  clear hc2 hg2 HB
  generalize floatOfInt .f32 ((m : Int) - 640) = a at HD ⊢
  rcases (by omega : x = 0 ∨ x = 1 ∨ x = 2 ∨ x = 3 ∨ x = 4 ∨ x = 5) with rfl | rfl | rfl | rfl | rfl | rfl
  · obtain ⟨r, x, hr, ho⟩ := HD.out 0 (by omega)
    have hop := fun t w => run_float_arith (P := Tryz.prog) w .quo t .f32 a 1065353216 r hr
    have HO := Lib.hid ho
    clear hr ho
    go_wp2_with (simp only [hop])
    go_ret
    exact ⟨r, x, rfl, HO.out, HC2.out, HG2.out⟩
  · obtain ⟨r, x, hr, ho⟩ := HD.out 1 (by omega)
    have hop := fun t w => run_float_arith (P := Tryz.prog) w .quo t .f32 a 1073741824 r hr
    have HO := Lib.hid ho
    clear hr ho
    go_wp2_with (simp only [hop])
    go_ret
    exact ⟨r, x, rfl, HO.out, HC2.out, HG2.out⟩
  · obtain ⟨r, x, hr, ho⟩ := HD.out 2 (by omega)
    have hop := fun t w => run_float_arith (P := Tryz.prog) w .quo t .f32 a 1098907648 r hr
    have HO := Lib.hid ho
    clear hr ho
    go_wp2_with (simp only [hop])
    go_ret
    exact ⟨r, x, rfl, HO.out, HC2.out, HG2.out⟩
  · obtain ⟨r, x, hr, ho⟩ := HD.out 3 (by omega)
    have hop := fun t w => run_float_arith (P := Tryz.prog) w .quo t .f32 a 1115684864 r hr
    have HO := Lib.hid ho
    clear hr ho
    go_wp2_with (simp only [hop])
    go_ret
    exact ⟨r, x, rfl, HO.out, HC2.out, HG2.out⟩
  · obtain ⟨r, x, hr, ho⟩ := HD.out 4 (by omega)
    have hop := fun t w => run_float_arith (P := Tryz.prog) w .quo t .f32 a 1120403456 r hr
    have HO := Lib.hid ho
    clear hr ho
    go_wp2_with (simp only [hop])
    go_ret
    exact ⟨r, x, rfl, HO.out, HC2.out, HG2.out⟩
  · obtain ⟨r, x, hr, ho⟩ := HD.out 5 (by omega)
    have hop := fun t w => run_float_arith (P := Tryz.prog) w .quo t .f32 a 1077936128 r hr
    have HO := Lib.hid ho
    clear hr ho
    go_wp2_with (simp only [hop])
    go_ret
    exact ⟨r, x, rfl, HO.out, HC2.out, HG2.out⟩
theorem Six.pt {r x : Nat} (h : Six r x) : Pt x ∧ (valOf F32 x).natAbs ≤ magOf F32 1109393408 := pt_small (by omega) h.lt h.le h.z
theorem mag_40 : magOf F32 1109393408 = 40 * 2 ^ 149 := by decide +kernel
/-- A place that an event carries. -/
def sixP {r x r' y : Nat} (h : Six r x) (h' : Six r' y) : PtW := ⟨(x, y), h.pt.1, h'.pt.1⟩
theorem sixP_lim {r x r' y : Nat} (h : Six r x) (h' : Six r' y) : Lim 40 (sixP h h') := ⟨by rw [← mag_40]; exact h.pt.2, by rw [← mag_40]; exact h'.pt.2⟩
set_option maxHeartbeats 1000000 in
theorem some_4 (B q : Nat) (w : World) (hcur : Cur B w q) :
    Calls Tryz.prog 58 #[.pointer (some ⟨q, 0, Option.none⟩), .int .i64 (-4), .int .i64 4] w fun e w' => ∃ m, SmallM B q w e w' 9 4 m := by
  have HC : Hid (Cur B w q) := hcur
  clear hcur
  go_enter Tryz.func58, Tryz.ntmps58
  go_wp2_with fail
  refine (l1Below_s B q 9 _ HC.out (by omega) (by omega)).mono ?_
  rintro e w1 ⟨x, rfl, hx0, hx1, hc1, hg1⟩
  obtain ⟨n, rfl⟩ : ∃ n : Nat, x = n := ⟨x.toNat, by omega⟩
  have HC1 : Hid (Cur B w1 q) := hc1
  have HG1 : Hid (w.grownBy w1 (some q)) := hg1
  have hn : n < 9 := by omega
  clear hc1 hg1
  go_wp2
  go_ret
  exact ⟨n, by first | rfl | (simp; omega), hn, HC1.out, HG1.out⟩
theorem gr_16 : ∀ m : Nat, m < 9 → F32.div (floatOfInt .f32 ((m : Int) - 4)) 1098907648 = some (overB 1098907648 ((m : Int) - 4)) ∧ overB 1098907648 ((m : Int) - 4) < 4294967296 ∧ overB 1098907648 ((m : Int) - 4) % 2147483648 ≤ 1065353216 ∧ (overB 1098907648 ((m : Int) - 4) % 2147483648 = 0 → overB 1098907648 ((m : Int) - 4) = 0) := by decide +kernel
structure LittleDrawn (B q : Nat) (w : World) (e : Ending) (w' : World) (n : Nat) (m : Nat) : Prop where
  ret : e = .returned (.int .i64 m)
  one : 1 ≤ m
  le : m ≤ n
  cur : Cur B w' q
  grown : w.grownBy w' (some q)
set_option maxHeartbeats 1000000 in
theorem little_5 (B q : Nat) (w : World) (hcur : Cur B w q) :
    Calls Tryz.prog 58 #[.pointer (some ⟨q, 0, Option.none⟩), .int .i64 1, .int .i64 5] w fun e w' => ∃ m, LittleDrawn B q w e w' 5 m := by
  have HC : Hid (Cur B w q) := hcur
  clear hcur
  go_enter Tryz.func58, Tryz.ntmps58
  go_wp2_with fail
  refine (l1Below_s B q 5 _ HC.out (by omega) (by omega)).mono ?_
  rintro e w1 ⟨x, rfl, hx0, hx1, hc1, hg1⟩
  obtain ⟨n, rfl⟩ : ∃ n : Nat, x = n := ⟨x.toNat, by omega⟩
  have HC1 : Hid (Cur B w1 q) := hc1
  have HG1 : Hid (w.grownBy w1 (some q)) := hg1
  have hn : n < 5 := by omega
  clear hc1 hg1
  go_wp2
  go_ret
  exact ⟨n + 1, by first | rfl | (simp; omega), by omega, by omega, HC1.out, HG1.out⟩
set_option maxHeartbeats 1000000 in
theorem little_6 (B q : Nat) (w : World) (hcur : Cur B w q) :
    Calls Tryz.prog 58 #[.pointer (some ⟨q, 0, Option.none⟩), .int .i64 1, .int .i64 6] w fun e w' => ∃ m, LittleDrawn B q w e w' 6 m := by
  have HC : Hid (Cur B w q) := hcur
  clear hcur
  go_enter Tryz.func58, Tryz.ntmps58
  go_wp2_with fail
  refine (l1Below_s B q 6 _ HC.out (by omega) (by omega)).mono ?_
  rintro e w1 ⟨x, rfl, hx0, hx1, hc1, hg1⟩
  obtain ⟨n, rfl⟩ : ∃ n : Nat, x = n := ⟨x.toNat, by omega⟩
  have HC1 : Hid (Cur B w1 q) := hc1
  have HG1 : Hid (w.grownBy w1 (some q)) := hg1
  have hn : n < 6 := by omega
  clear hc1 hg1
  go_wp2
  go_ret
  exact ⟨n + 1, by first | rfl | (simp; omega), by omega, by omega, HC1.out, HG1.out⟩
end Go.Proofs.YtfdgijmmgllmgaaGreat
namespace Go.Proofs.YtfdgijmmgllmgaaGreat
open Go.ChangeShapes Go.WideShapes Go.ChangeAt Go.RowKit Go.Joins
set_option linter.unusedSimpArgs false
set_option linter.unusedVariables false
set_option maxRecDepth 100000
attribute [local go_sem] store_f
open Ieee
attribute [local go_sem] store_c
structure AreIs (a : Option Addr) (n cap : Nat) (l : List Shd) : Prop where
  call : ∀ w : World, RowAt w a l → Calls Tryz.prog 33 #[.slice a n cap] w fun e w' => e = .returned (.bool true) ∧ Below w.heap.size w w'
set_option maxHeartbeats 4000000 in
theorem areIs {a : Option Addr} {cap : Nat} {l : List Shd} (hlen : l.length ≤ 12) (hok : ∀ s ∈ l, s.Ok) : AreIs a l.length cap l := ⟨fun w hrow => by
  have HK : Hid (∀ j, j < l.length → ShdIs (l.getD j default) true) := fun j hj => by
    have h := shdIs (l.getD j default)
    rwa [(hok _ (by simp [List.getD, hj])).yes] at h
  have HR : Hid (RowAt w a l) := hrow
  clear hrow hok
  go_enter Tryz.func33, Tryz.ntmps33
  go_wp2_with fail
  go_loopw [10] (fun i wr => ∃ j : Nat, j ≤ l.length ∧ i = .int .i64 j ∧ Below w.heap.size w wr) (fun i _ => l.length - (intOf i).toNat)
  case atStart => exact ⟨0, by omega, rfl, Below.refl _ _⟩
  case round =>
    obtain ⟨j, hj, rfl, hbel⟩ := hrel
    have HB : Hid (Below w.heap.size w wr) := hbel
    have hbs := hbel.size
    by_cases hlt : j < l.length
    · have K := HK.out j hlt
      rcases HR.out with hnil | ⟨b, off, rfl, hR⟩
      · exfalso; rw [hnil] at hlt; simp at hlt
      have hrow := (ShRow.below hR hbel) j hlt
      generalize l.getD j default = s at hrow K
      obtain ⟨d0, d1, d2, d3, d4, d5, d6⟩ := hrow
      clear hbel hR
      go_wp2_with fail
      refine (K.call _).mono ?_
      rintro e w2 ⟨rfl, hb⟩
      have HB2 : Hid (Below w.heap.size w w2) := (HB.out.alloc (by omega) _).trans (hb.mono (by simp; omega))
      clear hb d0 d1 d2 d3 d4 d5 d6
      go_wp2
      go_roundw
      case rel => exact ⟨j + 1, by omega, by go_num, HB2.out⟩
      case measure => simp [intOf]; omega
    · have hjm : j = l.length := by omega
      subst hjm
      clear hbel
      go_wp2
      go_ret
      exact ⟨rfl, HB.out⟩⟩
end Go.Proofs.YtfdgijmmgllmgaaGreat
namespace Go.Proofs.YtfdgijmmgllmgaaGreat
open Go.ChangeShapes Go.WideShapes Go.ChangeAt Go.RowKit Go.Joins
set_option linter.unusedSimpArgs false
set_option linter.unusedVariables false
set_option maxRecDepth 100000
attribute [local go_sem] store_f
open Ieee Go.Lib
def LieAt (W : World) (b off : Nat) (xs : List Value) : Prop := ∀ j u, xs[j]? = some u → W.cell? ⟨b, off + j, Option.none⟩ = some u
theorem LieAt.below {W w1 : World} {b off : Nat} {xs : List Value} (h : LieAt W b off xs) (hb : Below W.heap.size W w1) : LieAt w1 b off xs := fun j u hj => cBelow hb (h j u hj)
theorem LieAt.alloc {W : World} {b off : Nat} {xs : List Value} {o : Obj} (h : LieAt W b off xs) : LieAt (W.alloc o) b off xs := fun j u hj => cAlloc (h j u hj)
theorem LieAt.drew {W : World} {b off : Nat} {xs : List Value} (h : LieAt W b off xs) : LieAt W.drew b off xs := h
theorem LieAt.set {W : World} {b off : Nat} {a : Addr} {v : Value} {xs : List Value} (h : LieAt W b off xs) (hne : b ≠ a.block) : LieAt (W.setCell a v) b off xs := fun j u hj => cSet hne (h j u hj)
theorem LieAt.grown {W w1 : World} {b off : Nat} {xs : List Value} {r : Option Nat} (h : LieAt W b off xs) (hg : W.grownBy w1 r) (hne : r ≠ some b) : LieAt w1 b off xs := fun j u hj => by
  have h0 := h j u hj
  rw [World.cell?_of_block (hg.block b (cell_lt h0) (fun e => hne e.symm))]
  exact h0
theorem LieAt.left {W : World} {b off : Nat} {xs ys : List Value} (h : LieAt W b off (xs ++ ys)) : LieAt W b off xs := fun j u hj => h j u (by rw [List.getElem?_append_left (List.getElem?_eq_some_iff.1 hj).1]; exact hj)
theorem LieAt.right {W : World} {b off : Nat} {xs ys : List Value} (h : LieAt W b off (xs ++ ys)) : LieAt W b (off + xs.length) ys := fun j u hj => by
  have h1 := h (xs.length + j) u (by rw [List.getElem?_append_right (by omega)]; simpa using hj)
  rwa [← Nat.add_assoc] at h1
/-- Elements of so many cells, one behind the other. -/
theorem flat_len {α : Type} (f : α → List Value) (m : Nat) (hf : ∀ x, (f x).length = m) (l : List α) : (l.flatMap f).length = l.length * m := by
  induction l with
  | nil => simp
  | cons x l ih => simp only [List.flatMap_cons, List.length_append, hf, ih, List.length_cons, Nat.add_mul]; omega
theorem flat_get {α : Type} [Inhabited α] (f : α → List Value) (m : Nat) (hf : ∀ x, (f x).length = m) : ∀ (l : List α) (k : Nat), k < l.length → ∀ j, j < m → (l.flatMap f)[k * m + j]? = (f (l.getD k default))[j]?
  | x :: l, 0, _, j, hj => by
    rw [List.flatMap_cons, Nat.zero_mul, Nat.zero_add, List.getElem?_append_left (by rw [hf]; exact hj)]
    rfl
  | x :: l, k + 1, h, j, hj => by
    have ih := flat_get f m hf l k (by simpa using h) j hj
    rw [List.flatMap_cons, List.getElem?_append_right (by rw [hf, Nat.add_mul]; omega), hf, show (k + 1) * m + j - m = k * m + j by rw [Nat.add_mul]; omega, ih]
    rfl
theorem lie_of_get {α : Type} [Inhabited α] {f : α → List Value} {m : Nat} (hm : 0 < m) (hf : ∀ x, (f x).length = m) {W : World} {b off : Nat} {l : List α} (h : ∀ k, k < l.length → ∀ j u, (f (l.getD k default))[j]? = some u → W.cell? ⟨b, off + k * m + j, Option.none⟩ = some u) : LieAt W b off (l.flatMap f) := fun j u hj => by
  have hlt := (List.getElem?_eq_some_iff.1 hj).1
  rw [flat_len f m hf] at hlt
  have hk : j / m < l.length := Nat.div_lt_of_lt_mul (by rw [Nat.mul_comm]; exact hlt)
  have e : j / m * m + j % m = j := by rw [Nat.mul_comm]; exact Nat.div_add_mod j m
  have hg := flat_get f m hf l (j / m) hk (j % m) (Nat.mod_lt _ hm)
  rw [e, hj] at hg
  have := h (j / m) hk (j % m) u hg.symm
  rwa [show off + j / m * m + j % m = off + j by omega] at this
theorem LieAt.get {α : Type} [Inhabited α] {f : α → List Value} {m : Nat} (hf : ∀ x, (f x).length = m) {W : World} {b off : Nat} {l : List α} (h : LieAt W b off (l.flatMap f)) {k : Nat} (hk : k < l.length) {j : Nat} {u : Value} (hj : (f (l.getD k default))[j]? = some u) : W.cell? ⟨b, off + k * m + j, Option.none⟩ = some u := by
  have hjm : j < m := by have := (List.getElem?_eq_some_iff.1 hj).1; rw [hf] at this; exact this
  have h1 := h (k * m + j) u (by rw [flat_get f m hf l k hk j hjm]; exact hj)
  rwa [← Nat.add_assoc] at h1
def LiesZ (W : World) (a : Option Addr) (xs : List Value) : Prop := xs = [] ∨ ∃ g, a = some ⟨g, 0, Option.none⟩ ∧ LieAt W g 0 xs
theorem LiesZ.below {W w1 : World} {a : Option Addr} {xs : List Value} (h : LiesZ W a xs) (hb : Below W.heap.size W w1) : LiesZ w1 a xs := by
  rcases h with h | ⟨g, e, h⟩
  · exact .inl h
  · exact .inr ⟨g, e, h.below hb⟩
theorem LiesZ.alloc {W : World} {a : Option Addr} {xs : List Value} {o : Obj} (h : LiesZ W a xs) : LiesZ (W.alloc o) a xs := by
  rcases h with h | ⟨g, e, h⟩
  · exact .inl h
  · exact .inr ⟨g, e, h.alloc⟩
theorem LiesZ.drew {W : World} {a : Option Addr} {xs : List Value} (h : LiesZ W a xs) : LiesZ W.drew a xs := h
/-- A block at whose place i something else stands is not the row's. -/
theorem LiesZ.grownAt {W w1 : World} {a : Option Addr} {xs : List Value} {R i : Nat} {v : Value} (h : LiesZ W a xs) (hg : W.grownBy w1 (some R)) (hc : W.cell? ⟨R, i, Option.none⟩ = some v) (hx : xs ≠ [] → ∃ u, xs[i]? = some u ∧ u ≠ v) : LiesZ w1 a xs := by
  rcases h with h | ⟨g, e, h⟩
  · exact .inl h
  · by_cases h0 : xs = []
    · exact .inl h0
    · refine .inr ⟨g, e, h.grown hg fun e' => ?_⟩
      cases e'
      obtain ⟨u, hu, hne⟩ := hx h0
      have h1 := h i u hu
      rw [Nat.zero_add, hc] at h1
      exact hne (Option.some.inj h1).symm
theorem lies_of_owns {W : World} {B T sz n c : Nat} {a : Option Addr} {xs : List Value} (h : W.ownsRow B T sz (.slice a n c) n xs) : LiesZ W a xs := by
  rcases ownsRow_forms h with ⟨e, h0⟩ | ⟨g, c', e⟩
  · refine .inl (List.eq_nil_of_length_eq_zero ?_)
    have := h.1
    rw [h0] at this
    simpa using this
  · cases e
    refine .inr ⟨g, rfl, fun j u hj => ?_⟩
    rw [Nat.zero_add, h.cellAt _ (by have := (List.getElem?_eq_some_iff.1 hj).1; have := h.1; omega)]
    exact hj
def Evw.cells (e : Evw) : List Value := [.int .i64 e.kind, .int .i64 e.n, .complex .f32 e.z1 e.z2, .complex .f32 e.s.a1 e.s.a2, .complex .f32 e.s.b1 e.s.b2, .complex .f32 e.s.c1 e.s.c2, .float .f32 e.s.r, .float .f32 e.s.g, .float .f32 e.s.b, .float .f32 e.s.k, .float .f32 e.l.r, .float .f32 e.l.g, .float .f32 e.l.b]
def evCells (l : List Evw) : List Value := l.flatMap Evw.cells
theorem evCells_len (l : List Evw) : (evCells l).length = l.length * 13 := flat_len Evw.cells 13 (fun _ => rfl) l
theorem evCells_snoc (l : List Evw) (e : Evw) : evCells (l ++ [e]) = evCells l ++ e.cells := by simp [evCells]
theorem evCells_app (l m : List Evw) : evCells (l ++ m) = evCells l ++ evCells m := by simp [evCells]
theorem shCells_app (l m : List Shd) : shCells (l ++ m) = shCells l ++ shCells m := by simp [shCells]
theorem bwCells_app (l m : List Bw) : bwCells (l ++ m) = bwCells l ++ bwCells m := by simp [bwCells]
/-- An event's cells at a place. -/
structure EvAt (W : World) (b o : Nat) (e : Evw) : Prop where
  c0 : W.cell? ⟨b, o, Option.none⟩ = some (.int .i64 e.kind)
  c1 : W.cell? ⟨b, o + 1, Option.none⟩ = some (.int .i64 e.n)
  c2 : W.cell? ⟨b, o + 2, Option.none⟩ = some (.complex .f32 e.z1 e.z2)
  c3 : W.cell? ⟨b, o + 3, Option.none⟩ = some (.complex .f32 e.s.a1 e.s.a2)
  c4 : W.cell? ⟨b, o + 4, Option.none⟩ = some (.complex .f32 e.s.b1 e.s.b2)
  c5 : W.cell? ⟨b, o + 5, Option.none⟩ = some (.complex .f32 e.s.c1 e.s.c2)
  c6 : W.cell? ⟨b, o + 6, Option.none⟩ = some (.float .f32 e.s.r)
  c7 : W.cell? ⟨b, o + 7, Option.none⟩ = some (.float .f32 e.s.g)
  c8 : W.cell? ⟨b, o + 8, Option.none⟩ = some (.float .f32 e.s.b)
  c9 : W.cell? ⟨b, o + 9, Option.none⟩ = some (.float .f32 e.s.k)
  c10 : W.cell? ⟨b, o + 10, Option.none⟩ = some (.float .f32 e.l.r)
  c11 : W.cell? ⟨b, o + 11, Option.none⟩ = some (.float .f32 e.l.g)
  c12 : W.cell? ⟨b, o + 12, Option.none⟩ = some (.float .f32 e.l.b)
theorem evAt {W : World} {b off : Nat} {l : List Evw} (h : LieAt W b off (evCells l)) {k : Nat} (hk : k < l.length) : EvAt W b (off + k * 13) (l.getD k default) := by
  have hf : ∀ x : Evw, x.cells.length = 13 := fun _ => rfl
  refine ⟨?_, ?_, ?_, ?_, ?_, ?_, ?_, ?_, ?_, ?_, ?_, ?_, ?_⟩
  · exact h.get hf hk (j := 0) rfl
  · exact h.get hf hk (j := 1) rfl
  · exact h.get hf hk (j := 2) rfl
  · exact h.get hf hk (j := 3) rfl
  · exact h.get hf hk (j := 4) rfl
  · exact h.get hf hk (j := 5) rfl
  · exact h.get hf hk (j := 6) rfl
  · exact h.get hf hk (j := 7) rfl
  · exact h.get hf hk (j := 8) rfl
  · exact h.get hf hk (j := 9) rfl
  · exact h.get hf hk (j := 10) rfl
  · exact h.get hf hk (j := 11) rfl
  · exact h.get hf hk (j := 12) rfl
theorem infoEv : (Tryz.prog.info? 38).map (fun i => (i.zero, i.size, i.bytes)) = some (some (.agg #[.int .i64 0, .int .i64 0, .complex .f32 0 0, .complex .f32 0 0, .complex .f32 0 0, .complex .f32 0 0, .float .f32 0, .float .f32 0, .float .f32 0, .float .f32 0, .float .f32 0, .float .f32 0, .float .f32 0]), 13, 80) := by kernel_rfl
theorem infoShd : (Tryz.prog.info? 36).map (fun i => (i.zero, i.size, i.bytes)) = some (some (.agg #[.complex .f32 0 0, .complex .f32 0 0, .complex .f32 0 0, .float .f32 0, .float .f32 0, .float .f32 0, .float .f32 0]), 7, 40) := by kernel_rfl
theorem shRow_of_lie {W : World} {b off : Nat} {l : List Shd} (h : LieAt W b off (shCells l)) : ShRow W b off l := fun k hk => by
  have hf : ∀ x : Shd, x.cells.length = 7 := fun _ => rfl
  exact ⟨h.get hf hk (j := 0) rfl, h.get hf hk (j := 1) rfl, h.get hf hk (j := 2) rfl, h.get hf hk (j := 3) rfl, h.get hf hk (j := 4) rfl, h.get hf hk (j := 5) rfl, h.get hf hk (j := 6) rfl⟩
theorem bwRow_of_lie {W : World} {g : Nat} {l : List Bw} (h : LieAt W g 0 (bwCells l)) : BwRow W g l := fun k hk => by
  have hf : ∀ x : Bw, x.cells.length = 2 := fun _ => rfl
  have h0 := h.get hf hk (j := 0) rfl
  have h1 := h.get hf hk (j := 1) rfl
  rw [Nat.zero_add] at h0 h1
  exact ⟨h0, h1⟩
theorem lie_of_bwRow {W : World} {g : Nat} {l : List Bw} (h : BwRow W g l) : LieAt W g 0 (bwCells l) :=
  lie_of_get (f := Bw.cells) (m := 2) (by omega) (fun _ => rfl) fun k hk j u hj => by
    have hj2 : j < 2 := (List.getElem?_eq_some_iff.1 hj).1
    rw [Nat.zero_add]
    rcases (by omega : j = 0 ∨ j = 1) with rfl | rfl
    · rw [← hj]; exact (h k hk).1
    · rw [← hj]; exact (h k hk).2
theorem flat_nil {α : Type} {f : α → List Value} {m : Nat} (hm : 0 < m) (hf : ∀ x, (f x).length = m) {l : List α} (h : l.flatMap f = []) : l = [] := by
  cases l with
  | nil => rfl
  | cons x l =>
    have := congrArg List.length h
    rw [flat_len f m hf, List.length_cons, List.length_nil, Nat.add_mul] at this
    omega
theorem bwIn_of_lies {W : World} {a : Option Addr} {l : List Bw} (h : LiesZ W a (bwCells l)) : BwIn W a l := by
  rcases h with h | ⟨g, e, h⟩
  · exact .inl (flat_nil (f := Bw.cells) (m := 2) (by omega) (fun _ => rfl) h)
  · exact .inr ⟨g, e, bwRow_of_lie h⟩
theorem lies_of_bwIn {W : World} {a : Option Addr} {l : List Bw} (h : BwIn W a l) : LiesZ W a (bwCells l) := by
  rcases h with h | ⟨g, e, h⟩
  · exact .inl (by rw [h]; rfl)
  · exact .inr ⟨g, e, lie_of_bwRow h⟩
theorem rowAt_of_lies {W : World} {a : Option Addr} {l : List Shd} (h : LiesZ W a (shCells l)) : RowAt W a l := by
  rcases h with h | ⟨g, e, h⟩
  · exact .inl (flat_nil (f := Shd.cells) (m := 7) (by omega) (fun _ => rfl) h)
  · exact .inr ⟨g, 0, e, shRow_of_lie h⟩
/-- The rows of a show. -/
structure ShoIn (W : World) (s : Sho) (a b l : Option Addr) : Prop where
  sh : LiesZ W a (shCells s.shs)
  bd : LiesZ W b (bwCells s.bds)
  lg : LiesZ W l (evCells s.log)
theorem ShoIn.below {W w1 : World} {s : Sho} {a b l : Option Addr} (h : ShoIn W s a b l) (hb : Below W.heap.size W w1) : ShoIn w1 s a b l := ⟨h.sh.below hb, h.bd.below hb, h.lg.below hb⟩
theorem ShoIn.alloc {W : World} {s : Sho} {a b l : Option Addr} {o : Obj} (h : ShoIn W s a b l) : ShoIn (W.alloc o) s a b l := ⟨h.sh.alloc, h.bd.alloc, h.lg.alloc⟩
theorem ShoIn.drew {W : World} {s : Sho} {a b l : Option Addr} (h : ShoIn W s a b l) : ShoIn W.drew s a b l := ⟨h.sh.drew, h.bd.drew, h.lg.drew⟩
theorem sh_at1 (l : List Shd) (h : shCells l ≠ []) : ∃ u, (shCells l)[1]? = some u ∧ ∀ x, u ≠ .float .f32 x := by
  cases l with
  | nil => exact absurd rfl h
  | cons s l => exact ⟨.complex .f32 s.b1 s.b2, rfl, fun x e => by cases e⟩
theorem bw_at1 (l : List Bw) (h : bwCells l ≠ []) : ∃ u, (bwCells l)[1]? = some u ∧ ∀ x, u ≠ .float .f32 x := by
  cases l with
  | nil => exact absurd rfl h
  | cons s l => exact ⟨.complex .f32 s.v1 s.v2, rfl, fun x e => by cases e⟩
theorem ev_at1 (l : List Evw) (h : evCells l ≠ []) : ∃ u, (evCells l)[1]? = some u ∧ ∀ x, u ≠ .float .f32 x := by
  cases l with
  | nil => exact absurd rfl h
  | cons s l => exact ⟨.int .i64 s.n, rfl, fun x e => by cases e⟩
/-- A show's own box is none of the rows. -/
theorem ShoIn.grownAt {W w1 : World} {s : Sho} {a b l : Option Addr} {R x : Nat} (h : ShoIn W s a b l) (hg : W.grownBy w1 (some R)) (hc : W.cell? ⟨R, 1, Option.none⟩ = some (.float .f32 x)) : ShoIn w1 s a b l := by
  refine ⟨h.sh.grownAt hg hc fun h0 => ?_, h.bd.grownAt hg hc fun h0 => ?_, h.lg.grownAt hg hc fun h0 => ?_⟩
  · obtain ⟨u, e, hu⟩ := sh_at1 _ h0; exact ⟨u, e, hu x⟩
  · obtain ⟨u, e, hu⟩ := bw_at1 _ h0; exact ⟨u, e, hu x⟩
  · obtain ⟨u, e, hu⟩ := ev_at1 _ h0; exact ⟨u, e, hu x⟩
/-- The rows of a show that the call owns. -/
structure ShoOwn (W : World) (B : Nat) (s : Sho) (N M K : Nat) (a b l : Option Addr) (ca cb cl : Nat) : Prop where
  sh : W.ownsRow B 36 7 (.slice a N ca) N (shCells s.shs)
  bd : W.ownsRow B 59 2 (.slice b M cb) M (bwCells s.bds)
  lg : W.ownsRow B 38 13 (.slice l K cl) K (evCells s.log)
theorem ShoOwn.in_ {W : World} {B : Nat} {s : Sho} {N M K : Nat} {a b l : Option Addr} {ca cb cl : Nat} (h : ShoOwn W B s N M K a b l ca cb cl) : ShoIn W s a b l := ⟨lies_of_owns h.sh, lies_of_owns h.bd, lies_of_owns h.lg⟩
theorem ShoOwn.below {W w1 : World} {B : Nat} {s : Sho} {N M K : Nat} {a b l : Option Addr} {ca cb cl : Nat} (h : ShoOwn W B s N M K a b l ca cb cl) (hb : Below W.heap.size W w1) : ShoOwn w1 B s N M K a b l ca cb cl := ⟨ownsBelow hb h.sh, ownsBelow hb h.bd, ownsBelow hb h.lg⟩
theorem ShoOwn.alloc {W : World} {B : Nat} {s : Sho} {N M K : Nat} {a b l : Option Addr} {ca cb cl : Nat} {o : Obj} (h : ShoOwn W B s N M K a b l ca cb cl) : ShoOwn (W.alloc o) B s N M K a b l ca cb cl := ⟨h.sh.alloc _, h.bd.alloc _, h.lg.alloc _⟩
theorem ShoOwn.drew {W : World} {B : Nat} {s : Sho} {N M K : Nat} {a b l : Option Addr} {ca cb cl : Nat} (h : ShoOwn W B s N M K a b l ca cb cl) : ShoOwn W.drew B s N M K a b l ca cb cl := ⟨h.sh.drew, h.bd.drew, h.lg.drew⟩
theorem ShoOwn.less {W : World} {B C : Nat} {s : Sho} {N M K : Nat} {a b l : Option Addr} {ca cb cl : Nat} (h : ShoOwn W B s N M K a b l ca cb cl) (hC : C ≤ B) : ShoOwn W C s N M K a b l ca cb cl := ⟨owns_less h.sh hC, owns_less h.bd hC, owns_less h.lg hC⟩
/-- What is owned stands where another block has grown. -/
theorem owns_other {W w1 : World} {B T sz n m c : Nat} {a : Option Addr} {xs : List Value} {r : Option Nat} (hg : W.grownBy w1 r) (h : W.ownsRow B T sz (.slice a m c) n xs) (hne : ∀ g, a = some ⟨g, 0, Option.none⟩ → r ≠ some g) : w1.ownsRow B T sz (.slice a m c) n xs := by
  obtain ⟨h1, h2⟩ := h
  refine ⟨h1, ?_⟩
  rcases h2 with h2 | ⟨g', cap', cur, e1, e2, e3, e4⟩
  · exact .inl h2
  · have ea : a = some ⟨g', 0, Option.none⟩ := by cases e1; rfl
    refine .inr ⟨g', cap', cur, e1, e2, ?_, e4⟩
    rw [hg.block g' (Array.getElem?_eq_some_iff.1 e3).1 (fun e => hne g' ea e.symm)]
    exact e3
/-- Rows of different types lie in different blocks. -/
theorem owns_apart {W : World} {B C T U sz su n m k j c d : Nat} {a : Option Addr} {g : Nat} {xs ys : List Value} (h : W.ownsRow B T sz (.slice a m c) n xs) (h' : W.ownsRow C U su (.slice (some ⟨g, 0, Option.none⟩) k d) j ys) (hTU : T ≠ U) : a ≠ some ⟨g, 0, Option.none⟩ := fun e => by
  subst e
  rcases h.2 with ⟨e0, _⟩ | ⟨g1, c1, cur1, e1, _, b1, _⟩
  · cases e0
  · rcases h'.2 with ⟨e0, _⟩ | ⟨g2, c2, cur2, e2, _, b2, _⟩
    · cases e0
    · cases e1; cases e2
      rw [b1] at b2
      simp at b2
      exact hTU b2.2
end Go.Proofs.YtfdgijmmgllmgaaGreat
