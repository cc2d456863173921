/-
  The call of FnExactWordOfSym returns true and writes nothing that was there.
-/
import Derived.Test.YtbeefbmgbmgbfaaPthree
namespace Go.Proofs.Ytbeefbmgbmgbfaa.wFnExactWordOfSym
open Go.ChangeShapes Go.WideShapes Go.ChangeAt Go.RowKit Go.Joins 
set_option linter.unusedSimpArgs false
set_option linter.unusedVariables false
theorem IntRow.otherw {W w1 : World} {g g2 : Nat} {z : List Int} (h : IntRow W g z) (hg : W.grownBy w1 (some g2)) (hne : g ≠ g2) : IntRow w1 g z := fun k hk => by
  have e : w1.heap[g]? = W.heap[g]? := hg.block g (cell_lt (h k hk)) (fun q => hne (Option.some.inj q))
  exact (World.cell?_of_block (a := ⟨g, k, Option.none⟩) e).trans (h k hk)

set_option maxHeartbeats 4000000 in
set_option maxRecDepth 1000000 in
theorem walk (kind t : Int) (f : Bool) (w : World) (_ : -9223372036854775808 ≤ kind) (_ : kind ≤ 9223372036854775807) (_ : -9223372036854775808 ≤ t) (_ : t ≤ 9223372036854775807) :
    Calls Try.prog 13 #[.int .i64 kind, .agg #[.int .i64 t, .bool f]] w fun e w' => e = .returned (.bool true) ∧ Below w.heap.size w w' := by
  obtain ⟨R, hR⟩ : ∃ R, wdsFind kind (t, f) = R := ⟨_, rfl⟩
  have hlen : (R.getD []).length ≤ 5 := by
    cases hc : R with
    | none => simp
    | some z =>
      rw [hc] at hR
      have hm := List.mem_of_find?_eq_some hR
      simp only [wds, List.mem_flatMap, List.mem_range] at hm
      obtain ⟨n, hn, hm⟩ := hm
      have := (wds_len kind n).2 z hm
      simp
      omega
  have C1 : ∀ W, Calls Try.prog 42 #[.int .i64 kind, .agg #[.int .i64 t, .bool f]] W (WordAns W (R.getD []) R.isSome) := fun W => wordOfSym_s kind t f W R hR
  have C2 : ∀ W, Calls Try.prog 29 #[.int .i64 kind, .agg #[.int .i64 t, .bool f]] W (WordAns W (R.getD []) R.isSome) := fun W => wordOfSym_i kind t f W R hR
  generalize R.isSome = ok at C1 C2
  generalize R.getD [] = z at C1 C2 hlen
  clear hR
  go_enter Try.func13, Try.ntmps13
  go_wp2_with fail
  refine (toSym_any _ _ _).mono ?_
  rintro e w1 ⟨rfl, hb1⟩
  have HA1 : Hid (Blk w1 w.heap.size #[.int .i64 t, .bool f] 51) := (Blk.new _ _ _).below hb1
  have b1 : Below w.heap.size w w1 := by (repeat' (first | (with_reducible exact Below.refl _ _) | (with_reducible assumption) | (with_reducible refine Below.alloc ?_ ?_ _) | (with_reducible refine Below.drew ?_) | (with_reducible refine Below.setCell ?_ ?_ _) | (with_reducible refine Below.trans ?_ (Below.mono (by assumption) ?_)) | (with_reducible exact Nat.le_refl _) | omega | (simp only [World.size_alloc, World.size_setCell, World.size_drew]; omega) | (simp; omega) | (simp; done)))
  have s1 := b1.size
  clear hb1
  go_wp2_with fail
  refine (C1 _).mono ?_
  rintro e w2 ⟨g1, c1, rfl, r1, hg1, hl1, hb2⟩
  have HA2 : Hid (Blk w2 w.heap.size #[.int .i64 t, .bool f] 51) := HA1.out.below hb2
  have HR2 : Hid (IntRow w2 g1 z) := r1.row
  have HB2 : Hid (Below w.heap.size w w2) := b1.trans (hb2.mono s1)
  have s2 := HB2.out.size
  have a0 : w2.cell? ⟨w.heap.size, 0, Option.none⟩ = some (.int .i64 t) := HA2.out.cell 0
  have a1 : w2.cell? ⟨w.heap.size, 1, Option.none⟩ = some (.bool f) := HA2.out.cell 1
  clear r1 hb2 b1 HA1
  go_wp2_with fail
  refine (toSym_any _ _ _).mono ?_
  rintro e w3 ⟨rfl, hb3⟩
  have HA3 : Hid (Blk w3 w.heap.size #[.int .i64 t, .bool f] 51) := HA2.out.below hb3
  have HR3 : Hid (IntRow w3 g1 z) := HR2.out.below hb3
  have HB3 : Hid (Below w.heap.size w w3) := HB2.out.trans (hb3.mono s2)
  have s3 := HB3.out.size
  have s23 := hb3.size
  clear hb3 HA2 HR2 HB2 a0 a1
  go_wp2_with fail
  refine (C2 _).mono ?_
  rintro e w4 ⟨g2, c2, rfl, r2, hg2, hl2, hb4⟩
  have HA4 : Hid (Blk w4 w.heap.size #[.int .i64 t, .bool f] 51) := HA3.out.below hb4
  have HR4 : Hid (IntRow w4 g1 z) := HR3.out.below hb4
  have HG4 : Hid (IntBlk w4 g2 z) := r2
  have HB4 : Hid (Below w.heap.size w w4) := HB3.out.trans (hb4.mono s3)
  have s4 := HB4.out.size
  clear r2 hb4 HA3 HR3 HB3
  go_wp2_with fail
  refine (eqIntS_same z _ _ _ _ _ _ rfl (by omega) HG4.out.row HR4.out).mono ?_
  rintro e w5 ⟨rfl, hb5⟩
  have HA5 : Hid (Blk w5 w.heap.size #[.int .i64 t, .bool f] 51) := HA4.out.below hb5
  have HR5 : Hid (IntRow w5 g1 z) := HR4.out.below hb5
  have HG5 : Hid (IntBlk w5 g2 z) := HG4.out.below hb5
  have HB5 : Hid (Below w.heap.size w w5) := HB4.out.trans (hb5.mono s4)
  have s5 := HB5.out.size
  have hp5 : IntMkd w5 g2 z.length 0 1 := by
    obtain ⟨cur, h1, h2, _⟩ := HG5.out
    exact ⟨cur, h1, h2, fun j hj => by omega⟩
  have HP5 : Hid (IntMkd w5 g2 z.length 0 1) := hp5
  clear hb5 HA4 HR4 HG4 HB4 hp5
  go_wp2_with fail
  refine (markIntS_any _ _ _ 1 _ (by omega) (by omega) (by omega) HP5.out).mono ?_
  rintro e w6 ⟨rfl, p6, gr6⟩
  have HM6 : Hid (IntMks w6 g2 z.length 1) := p6.marks
  have HR6 : Hid (IntRow w6 g1 z) := IntRow.otherw HR5.out gr6 (by omega)
  have HA6 : Hid (Blk w6 w.heap.size #[.int .i64 t, .bool f] 51) := (gr6.block _ HA5.out.lt (fun e => by have := Option.some.inj e; omega)).trans HA5.out
  have HB6 : Hid (Below w.heap.size w w6) := Below.grown HB5.out gr6 (by omega) (fun q hq => by cases hq; omega)
  have s6 := HB6.out.size
  clear p6 gr6 HA5 HR5 HG5 HB5 HP5
  go_wp2_with fail
  refine (heldIntS_any _ _ _ 1 _ (by omega) (by omega) (by omega) HM6.out).mono ?_
  rintro e w7 ⟨rfl, hb7⟩
  have HM7 : Hid (IntMks w7 g2 z.length 1) := HM6.out.below hb7
  have HR7 : Hid (IntRow w7 g1 z) := HR6.out.below hb7
  have HA7 : Hid (Blk w7 w.heap.size #[.int .i64 t, .bool f] 51) := HA6.out.below hb7
  have HB7 : Hid (Below w.heap.size w w7) := HB6.out.trans (hb7.mono s6)
  have s7 := HB7.out.size
  have a0 : w7.cell? ⟨w.heap.size, 0, Option.none⟩ = some (.int .i64 t) := HA7.out.cell 0
  have a1 : w7.cell? ⟨w.heap.size, 1, Option.none⟩ = some (.bool f) := HA7.out.cell 1
  clear hb7 HM6 HR6 HA6 HB6
  go_wp2_with fail
  refine (toSym_any _ _ _).mono ?_
  rintro e w8 ⟨rfl, hb8⟩
  have HM8 : Hid (IntMks w8 g2 z.length 1) := HM7.out.below hb8
  have HR8 : Hid (IntRow w8 g1 z) := HR7.out.below hb8
  have HB8 : Hid (Below w.heap.size w w8) := HB7.out.trans (hb8.mono s7)
  have s8 := HB8.out.size
  clear hb8 HM7 HR7 HA7 HB7 a0 a1
  go_wp2_with fail
  refine (C2 _).mono ?_
  rintro e w9 ⟨g3, c3, rfl, r3, hg3, hl3, hb9⟩
  have HM9 : Hid (IntMks w9 g2 z.length 1) := HM8.out.below hb9
  have HR9 : Hid (IntRow w9 g1 z) := HR8.out.below hb9
  have HG9 : Hid (IntRow w9 g3 z) := r3.row
  have HB9 : Hid (Below w.heap.size w w9) := HB8.out.trans (hb9.mono s8)
  have s9 := HB9.out.size
  clear r3 hb9 HM8 HR8 HB8
  go_wp2_with fail
  refine (eqIntS_same z _ _ _ _ _ _ rfl (by omega) HG9.out HR9.out).mono ?_
  rintro e w10 ⟨rfl, hb10⟩
  have HM10 : Hid (IntMks w10 g2 z.length 1) := HM9.out.below hb10
  have HB10 : Hid (Below w.heap.size w w10) := HB9.out.trans (hb10.mono s9)
  have s10 := HB10.out.size
  clear hb10 HM9 HR9 HG9 HB9
  go_wp2_with fail
  refine (heldIntS_any _ _ _ 1 _ (by omega) (by omega) (by omega) HM10.out).mono ?_
  rintro e w11 ⟨rfl, hb11⟩
  have hB := HB10.out
  go_wp2
  go_returns
  exact ⟨rfl, by (repeat' (first | (with_reducible exact Below.refl _ _) | (with_reducible assumption) | (with_reducible refine Below.alloc ?_ ?_ _) | (with_reducible refine Below.drew ?_) | (with_reducible refine Below.setCell ?_ ?_ _) | (with_reducible refine Below.trans ?_ (Below.mono (by assumption) ?_)) | (with_reducible exact Nat.le_refl _) | omega | (simp only [World.size_alloc, World.size_setCell, World.size_drew]; omega) | (simp; omega) | (simp; done)))⟩
end Go.Proofs.Ytbeefbmgbmgbfaa.wFnExactWordOfSym
