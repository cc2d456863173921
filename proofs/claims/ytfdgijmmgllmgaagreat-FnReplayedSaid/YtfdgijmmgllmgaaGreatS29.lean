/-
  Texts Wc, joined.
-/
import Derived.Test.YtfdgijmmgllmgaaGreatS28
namespace Go.Proofs.YtfdgijmmgllmgaaGreat
open Go.ChangeShapes Go.WideShapes Go.ChangeAt Go.RowKit Go.Joins
set_option linter.unusedSimpArgs false
set_option linter.unusedVariables false
set_option maxRecDepth 100000
attribute [local go_sem] store_f
open Ieee Go.Lib
attribute [local go_sem] store_c
structure OneSho (w W : World) (s : Sho) (N M K : Nat) (a b l : Option Addr) (ca cb cl : Nat) : Prop where
  x : Blk W w.heap.size #[.int .i64 s.size, .float .f32 s.step, .float .f32 s.lit.r, .float .f32 s.lit.g, .float .f32 s.lit.b, .slice a N ca, .int .i64 s.kind, .complex .f32 s.g1 s.g2, .float .f32 0, .slice b M cb, .int .i64 s.ticks, .slice l K cl] 34
  inn : ShoIn W s a b l
  below : Below w.heap.size w W
theorem OneSho.mono {w W W1 : World} {s : Sho} {N M K : Nat} {a b l : Option Addr} {ca cb cl : Nat} (h : OneSho w W s N M K a b l ca cb cl) (hb : Below W.heap.size W W1) : OneSho w W1 s N M K a b l ca cb cl :=
  ⟨h.x.below hb, h.inn.below hb, h.below.trans (hb.mono h.below.size)⟩
/-- All that the model's IsShow asks. -/
structure ShAskS (s : Sho) (N M K : Nat) (p : Bool) : Prop where
  size : LieM s.size 1 8 true
  one : ∀ w : World, Calls Tryz.prog 102 #[.float .f32 s.step] w fun e w' => e = .returned (.bool true) ∧ Below w.heap.size w w'
  s0 : (FloatKind.f32.format.order s.step 0 == some .lt) = false
  s1 : (FloatKind.f32.format.order s.step 0 == some .eq) = false
  s2 : (FloatKind.f32.format.order s.step 1132462080 == some .gt) = false
  lit : ColS s.lit true
  shs : AresS s.shs N
  tum : ∀ (w : World) (a : Option Addr) (cap : Nat), BwIn w a s.bds → Calls Tryz.prog 105 #[.agg #[.int .i64 s.kind, .complex .f32 s.g1 s.g2, .float .f32 0, .slice a M cap]] w fun e w' => e = .returned (.bool p) ∧ Below w.heap.size w w'
  len : p = true → M = N
  ticks : LieM s.ticks 0 200 true
  k24 : p = true → K ≤ 24
  kl : s.log.length = K
  log : p = true → ∀ e ∈ s.log, EvIs 76 e true
set_option maxHeartbeats 32000000 in
theorem shIsS {s : Sho} {N M K : Nat} {p : Bool} (A : ShAskS s N M K p) : ShIs 75 s N M K p := ⟨fun w a b l ca cb cl hr => by
  have Y1 := A.size
  have Y2 := Lib.hid A.one
  have s0 := A.s0
  have s1 := A.s1
  have s2 := A.s2
  have Y3 := A.lit
  have Y4 := Lib.hid A.shs
  have Y5 := Lib.hid A.tum
  have Y6 := Lib.hid A.len
  have Y7 := A.ticks
  have Y8 := Lib.hid A.k24
  have Y9 := Lib.hid A.kl
  have YL := Lib.hid A.log
  have T0 : Hid (OneSho w (w.alloc (.cells #[.int .i64 s.size, .float .f32 s.step, .float .f32 s.lit.r, .float .f32 s.lit.g, .float .f32 s.lit.b, .slice a N ca, .int .i64 s.kind, .complex .f32 s.g1 s.g2, .float .f32 0, .slice b M cb, .int .i64 s.ticks, .slice l K cl] 34)) s N M K a b l ca cb cl) := ⟨Blk.new _ _ _, hr.alloc, (Below.refl _ _).alloc (Nat.le_refl _) _⟩
  clear A hr
  go_enter Tryz.func75, Tryz.ntmps75
  go_wp2_with fail
  refine (Y1.call _).mono ?_
  rintro r w1 ⟨rfl, hb⟩
  have T1 := Lib.hid (T0.out.mono hb)
  clear hb T0 Y1
  (have p0 := Blk.cellAt (i := 0) T1.out.x rfl; have p1 := Blk.cellAt (i := 1) T1.out.x rfl; have p2 := Blk.cellAt (i := 2) T1.out.x rfl; have p3 := Blk.cellAt (i := 3) T1.out.x rfl; have p4 := Blk.cellAt (i := 4) T1.out.x rfl; have p5 := Blk.cellAt (i := 5) T1.out.x rfl; have p6 := Blk.cellAt (i := 6) T1.out.x rfl; have p7 := Blk.cellAt (i := 7) T1.out.x rfl; have p8 := Blk.cellAt (i := 8) T1.out.x rfl; have p9 := Blk.cellAt (i := 9) T1.out.x rfl; have p10 := Blk.cellAt (i := 10) T1.out.x rfl; have p11 := Blk.cellAt (i := 11) T1.out.x rfl; simp only [List.getElem_toArray, List.getElem_cons_zero, List.getElem_cons_succ] at p0 p1 p2 p3 p4 p5 p6 p7 p8 p9 p10 p11)
  have l1 := T1.out.x.lt
  go_wp2_with fail
  refine (Y2.out _).mono ?_
  rintro r w2 ⟨rfl, hb⟩
  have T2 := Lib.hid (T1.out.mono hb)
  clear hb T1 Y2 p0 p1 p2 p3 p4 p5 p6 p7 p8 p9 p10 p11 l1
  (have p0 := Blk.cellAt (i := 0) T2.out.x rfl; have p1 := Blk.cellAt (i := 1) T2.out.x rfl; have p2 := Blk.cellAt (i := 2) T2.out.x rfl; have p3 := Blk.cellAt (i := 3) T2.out.x rfl; have p4 := Blk.cellAt (i := 4) T2.out.x rfl; have p5 := Blk.cellAt (i := 5) T2.out.x rfl; have p6 := Blk.cellAt (i := 6) T2.out.x rfl; have p7 := Blk.cellAt (i := 7) T2.out.x rfl; have p8 := Blk.cellAt (i := 8) T2.out.x rfl; have p9 := Blk.cellAt (i := 9) T2.out.x rfl; have p10 := Blk.cellAt (i := 10) T2.out.x rfl; have p11 := Blk.cellAt (i := 11) T2.out.x rfl; simp only [List.getElem_toArray, List.getElem_cons_zero, List.getElem_cons_succ] at p0 p1 p2 p3 p4 p5 p6 p7 p8 p9 p10 p11)
  have l1 := T2.out.x.lt
  go_wp2_with fail
  refine (Y3.call _).mono ?_
  rintro r w3 ⟨rfl, hb⟩
  have T3 := Lib.hid (T2.out.mono hb)
  clear hb T2 Y3 p0 p1 p2 p3 p4 p5 p6 p7 p8 p9 p10 p11 l1 s0 s1 s2
  (have p0 := Blk.cellAt (i := 0) T3.out.x rfl; have p1 := Blk.cellAt (i := 1) T3.out.x rfl; have p2 := Blk.cellAt (i := 2) T3.out.x rfl; have p3 := Blk.cellAt (i := 3) T3.out.x rfl; have p4 := Blk.cellAt (i := 4) T3.out.x rfl; have p5 := Blk.cellAt (i := 5) T3.out.x rfl; have p6 := Blk.cellAt (i := 6) T3.out.x rfl; have p7 := Blk.cellAt (i := 7) T3.out.x rfl; have p8 := Blk.cellAt (i := 8) T3.out.x rfl; have p9 := Blk.cellAt (i := 9) T3.out.x rfl; have p10 := Blk.cellAt (i := 10) T3.out.x rfl; have p11 := Blk.cellAt (i := 11) T3.out.x rfl; simp only [List.getElem_toArray, List.getElem_cons_zero, List.getElem_cons_succ] at p0 p1 p2 p3 p4 p5 p6 p7 p8 p9 p10 p11)
  have l1 := T3.out.x.lt
  go_wp2_with fail
  refine (Y4.out.call _ _ _ T3.out.inn.sh).mono ?_
  rintro r w4 ⟨rfl, hb⟩
  have T4 := Lib.hid (T3.out.mono hb)
  clear hb T3 Y4 p0 p1 p2 p3 p4 p5 p6 p7 p8 p9 p10 p11 l1
  (have p0 := Blk.cellAt (i := 0) T4.out.x rfl; have p1 := Blk.cellAt (i := 1) T4.out.x rfl; have p2 := Blk.cellAt (i := 2) T4.out.x rfl; have p3 := Blk.cellAt (i := 3) T4.out.x rfl; have p4 := Blk.cellAt (i := 4) T4.out.x rfl; have p5 := Blk.cellAt (i := 5) T4.out.x rfl; have p6 := Blk.cellAt (i := 6) T4.out.x rfl; have p7 := Blk.cellAt (i := 7) T4.out.x rfl; have p8 := Blk.cellAt (i := 8) T4.out.x rfl; have p9 := Blk.cellAt (i := 9) T4.out.x rfl; have p10 := Blk.cellAt (i := 10) T4.out.x rfl; have p11 := Blk.cellAt (i := 11) T4.out.x rfl; simp only [List.getElem_toArray, List.getElem_cons_zero, List.getElem_cons_succ] at p0 p1 p2 p3 p4 p5 p6 p7 p8 p9 p10 p11)
  have l1 := T4.out.x.lt
  go_wp2_with fail
  refine (Y5.out _ _ _ (bwIn_of_lies T4.out.inn.bd)).mono ?_
  rintro r w5 ⟨rfl, hb⟩
  have T5 := Lib.hid (T4.out.mono hb)
  clear hb T4 Y5 p0 p1 p2 p3 p4 p5 p6 p7 p8 p9 p10 p11 l1
  (have p0 := Blk.cellAt (i := 0) T5.out.x rfl; have p1 := Blk.cellAt (i := 1) T5.out.x rfl; have p2 := Blk.cellAt (i := 2) T5.out.x rfl; have p3 := Blk.cellAt (i := 3) T5.out.x rfl; have p4 := Blk.cellAt (i := 4) T5.out.x rfl; have p5 := Blk.cellAt (i := 5) T5.out.x rfl; have p6 := Blk.cellAt (i := 6) T5.out.x rfl; have p7 := Blk.cellAt (i := 7) T5.out.x rfl; have p8 := Blk.cellAt (i := 8) T5.out.x rfl; have p9 := Blk.cellAt (i := 9) T5.out.x rfl; have p10 := Blk.cellAt (i := 10) T5.out.x rfl; have p11 := Blk.cellAt (i := 11) T5.out.x rfl; simp only [List.getElem_toArray, List.getElem_cons_zero, List.getElem_cons_succ] at p0 p1 p2 p3 p4 p5 p6 p7 p8 p9 p10 p11)
  have l1 := T5.out.x.lt
  cases p
  · go_wp2
    go_ret
    exact ⟨rfl, T5.out.below⟩
  · obtain rfl := Y6.out rfl
    have hk24 : K ≤ 24 := Y8.out rfl
    have HK : Hid (∀ j, j < K → EvIs 76 (s.log.getD j default) true) := fun j hj => YL.out rfl _ (by simp [List.getD, show j < s.log.length by have := Y9.out; omega])
    clear YL Y8 Y6
    go_wp2_with fail
    refine (Y7.call _).mono ?_
    rintro r w6 ⟨rfl, hb⟩
    have T6 := Lib.hid (T5.out.mono hb)
    clear hb T5 Y7 p0 p1 p2 p3 p4 p5 p6 p7 p8 p9 p10 p11 l1
    (have p0 := Blk.cellAt (i := 0) T6.out.x rfl; have p1 := Blk.cellAt (i := 1) T6.out.x rfl; have p2 := Blk.cellAt (i := 2) T6.out.x rfl; have p3 := Blk.cellAt (i := 3) T6.out.x rfl; have p4 := Blk.cellAt (i := 4) T6.out.x rfl; have p5 := Blk.cellAt (i := 5) T6.out.x rfl; have p6 := Blk.cellAt (i := 6) T6.out.x rfl; have p7 := Blk.cellAt (i := 7) T6.out.x rfl; have p8 := Blk.cellAt (i := 8) T6.out.x rfl; have p9 := Blk.cellAt (i := 9) T6.out.x rfl; have p10 := Blk.cellAt (i := 10) T6.out.x rfl; have p11 := Blk.cellAt (i := 11) T6.out.x rfl; simp only [List.getElem_toArray, List.getElem_cons_zero, List.getElem_cons_succ] at p0 p1 p2 p3 p4 p5 p6 p7 p8 p9 p10 p11)
    have l1 := T6.out.x.lt
    have hd : decide ((K : Int) ≤ 24) = true := by simp; omega
    go_wp2_with fail
    have hX1 : Below w6.heap.size w6 w6 := Below.refl _ _
    go_loopw [62] (fun i wr => ∃ j : Nat, j ≤ K ∧ i = .int .i64 j ∧ Below w6.heap.size w6 wr) (fun i _ => K - (intOf i).toNat)
    case atStart => exact ⟨0, by omega, rfl, Below.refl _ _⟩
    case round =>
      obtain ⟨j, hj, rfl, hbel⟩ := hrel
      have HB : Hid (Below w6.heap.size w6 wr) := hbel
      have hbs := hbel.size
      by_cases hlt : j < K
      · have KE := HK.out j hlt
        rcases T6.out.inn.lg with hnil | ⟨g, rfl, hR⟩
        · exfalso; have := Y9.out; rw [ev_nil hnil] at this; simp at this; omega
        have EA := evAt (hR.below hbel) (k := j) (by have := Y9.out; omega)
        rw [Nat.zero_add] at EA
        obtain ⟨e, he⟩ : ∃ e, s.log.getD j default = e := ⟨_, rfl⟩
        rw [he] at EA KE
        obtain ⟨c0, c1, c2, c3, c4, c5, c6, c7, c8, c9, c10, c11, c12⟩ := EA
        clear hbel hR he
        go_wp2_with fail
        refine (KE.call _).mono ?_
        rintro r w7 ⟨rfl, hb⟩
        have HB2 : Hid (Below w6.heap.size w6 w7) := (HB.out.alloc (by omega) _).trans (hb.mono (by simp; omega))
        clear hb c0 c1 c2 c3 c4 c5 c6 c7 c8 c9 c10 c11 c12
        go_wp2
        go_roundw
        case rel => exact ⟨j + 1, by omega, by go_num, HB2.out⟩
        case measure => simp [intOf]; omega
      · have hjm : j = K := by omega
        subst hjm
        clear p0 p1 p2 p3 p4 p5 p6 p7 p8 p9 p10 p11
        have TX := T6.out.mono hbel
        (have p0 := Blk.cellAt (i := 0) TX.x rfl; have p1 := Blk.cellAt (i := 1) TX.x rfl; have p2 := Blk.cellAt (i := 2) TX.x rfl; have p3 := Blk.cellAt (i := 3) TX.x rfl; have p4 := Blk.cellAt (i := 4) TX.x rfl; have p5 := Blk.cellAt (i := 5) TX.x rfl; have p6 := Blk.cellAt (i := 6) TX.x rfl; have p7 := Blk.cellAt (i := 7) TX.x rfl; have p8 := Blk.cellAt (i := 8) TX.x rfl; have p9 := Blk.cellAt (i := 9) TX.x rfl; have p10 := Blk.cellAt (i := 10) TX.x rfl; have p11 := Blk.cellAt (i := 11) TX.x rfl; simp only [List.getElem_toArray, List.getElem_cons_zero, List.getElem_cons_succ] at p0 p1 p2 p3 p4 p5 p6 p7 p8 p9 p10 p11)
        have l2 := TX.x.lt
        have HBX := Lib.hid TX.below
        clear hbel TX
        go_wp2
        go_ret
        exact ⟨by simp [hd] <;> omega, HBX.out⟩⟩
end Go.Proofs.YtfdgijmmgllmgaaGreat
