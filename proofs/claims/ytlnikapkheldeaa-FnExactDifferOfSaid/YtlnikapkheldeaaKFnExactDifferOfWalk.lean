/-
  The call of FnExactDifferOf returns true and writes nothing that was there.
-/
import Derived.Test.YtlnikapkheldeaaK44
import Derived.Test.YtlnikapkheldeaaK43
import Derived.Test.YtlnikapkheldeaaK23
import Derived.Deep.RegionHeld3
import Derived.Deep.DeepCutAuto
namespace Go.Proofs.Ytlnikapkheldeaa.wFnExactDifferOf
open Go.ChangeShapes Go.WideShapes Go.ChangeAt Go.RowKit Go.Joins
set_option linter.unusedSimpArgs false
set_option linter.unusedVariables false
set_option maxRecDepth 100000
attribute [local go_sem] store_f
open Ieee

structure PairM (F : FuncId) (n : Int) (a : Option Addr) (ca : Nat) (l : List Lit) (m : Int) (b : Option Addr) (cb : Nat) (k : List Lit) (v : Value) : Prop where
  call : ∀ w : World, LitsAt w a l → LitsAt w b k → Calls Try.prog F #[.agg #[.int .i64 n, .slice a l.length ca], .agg #[.int .i64 m, .slice b k.length cb]] w fun e w' => e = .returned v ∧ Below w.heap.size w w'
theorem both_of (n m : Int) {l k : List Lit} (hl : ∀ c ∈ l, c.W) (hk : ∀ c ∈ k, c.W) (_ : l.length ≤ 1048576) : ∃ (c : Int) (x : Nat), x ≤ 1065353216 ∧ (∀ a ca b cb, PairM 41 n a ca l m b cb k (.tuple #[.int .i64 c, .float .f32 x])) ∧ (∀ a ca b cb, PairM 65 n a ca l m b cb k (.tuple #[.int .i64 c, .float .f32 x])) := by
  obtain ⟨c, x, h1, hI, hZ⟩ := differ_both n m hl hk
  exact ⟨c, x, h1, fun a ca b cb => ⟨(hI a ca b cb).call⟩, fun a ca b cb => ⟨(hZ a ca b cb).call⟩⟩
theorem conv_wide {x : Nat} (h : x ≤ 1065353216) (w : World) : (convert 47 88 (.float .f32 x)).run Try.prog w = .ok (.float .f64 (wide x)) w :=
  run_convert_float_float (P := Try.prog) w 47 88 .f32 .f64 x (wide x) (by rw [Try.underlying47]; rfl) Try.underlying88 (wide_bits (fin_of_lt (by omega)))
set_option maxHeartbeats 32000000 in
theorem walk (n : Int) (a : Option Addr) (ca : Nat) (l : List Lit) (m : Int) (b : Option Addr) (cb : Nat) (k : List Lit) (w : World) (_ : -9223372036854775808 ≤ n) (_ : n ≤ 9223372036854775807) (hr1 : LitsAt w a l) (hw1 : ∀ c ∈ l, c.W) (hlc1 : l.length ≤ ca) (hcm1 : ca ≤ 9223372036854775807)
    (_ : -9223372036854775808 ≤ m) (_ : m ≤ 9223372036854775807) (hr2 : LitsAt w b k) (hw2 : ∀ c ∈ k, c.W) (hlc2 : k.length ≤ cb) (hcm2 : cb ≤ 9223372036854775807) :
    Calls Try.prog 18 #[.agg #[.int .i64 n, .slice a l.length ca], .agg #[.int .i64 m, .slice b k.length cb]] w fun e w' => e = .returned (.bool true) ∧ Below w.heap.size w w' := by
  by_cases hlen : l.length ≤ 1048576
  · have Z1 := szPic_yes (n := n) (a := a) (cap := ca) (len := l.length) (left := 1048576) (by omega) (by omega)
    have hle : ¬ (1048576 - (l.length : Int)) < 0 := by omega
    have hld : decide ((1048576 - (l.length : Int)) < 0) = false := by simpa using hle
    by_cases hlen2 : l.length + k.length ≤ 1048576
    · have Z2 := szPic_yes (n := m) (a := b) (cap := cb) (len := k.length) (left := 1048576 - (l.length : Int)) (by omega) (by omega)
      have T1 := toPicA (n := n) (a := a) (cap := ca) hlen
      have T2 := toPicA (n := m) (a := b) (cap := cb) (l := k) (by omega)
      have hlf : ¬ (1048576 - (l.length : Int) - (k.length : Int)) < 0 := by omega
      have hlg : decide ((1048576 - (l.length : Int) - (k.length : Int)) < 0) = false := by simpa using hlf
      obtain ⟨c, z, hzf, SI, SZ⟩ := both_of n m hw1 hw2 hlen
      have HI : Hid (∀ a ca b cb, PairM 41 n a ca l m b cb k (.tuple #[.int .i64 c, .float .f32 z])) := SI
      have HZ : Hid (∀ a ca b cb, PairM 65 n a ca l m b cb k (.tuple #[.int .i64 c, .float .f32 z])) := SZ
      have E1 : Hid (∀ a c b d, EqPic n a c b d l) := fun a c b d => eqPic hw1 hlen
      have E2 : Hid (∀ a c b d, EqPic m a c b d k) := fun a c b d => eqPic hw2 (by omega)
      have R1 : Hid (LitsAt w a l) := hr1
      have R2 : Hid (LitsAt w b k) := hr2
      clear hr1 hr2 hw1 hw2 SI SZ
      go_enter Try.func18, Try.ntmps18
      go_wp2_with fail
      generalize hV : (w.alloc (.cells #[.int .i64 n, .slice a l.length ca] 69)).alloc (.cells #[.int .i64 m, .slice b k.length cb] 69) = V
      have C0 : Hid (Ctx w V w.heap.size n a ca l) := by rw [← hV]; exact ⟨(Blk.new _ _ _).alloc, (R1.out.alloc).alloc, ((Below.refl _ _).alloc (Nat.le_refl _) _).alloc (by simp) _, Nat.le_refl _⟩
      have D0 : Hid (Ctx w V (w.heap.size + 1) m b cb k) := by rw [← hV]; exact ⟨Blk.newAt (by simp), (R2.out.alloc).alloc, ((Below.refl _ _).alloc (Nat.le_refl _) _).alloc (by simp) _, by omega⟩
      clear hV
      refine (Z1.call _).mono ?_
      rintro e w1 ⟨rfl, hb⟩
      have C1 : Hid (Ctx w w1 w.heap.size n a ca l) := C0.out.below hb
      have D1 : Hid (Ctx w w1 (w.heap.size + 1) m b cb k) := D0.out.below hb
      clear hb C0 D0
      (have q0 := Blk.cellAt (i := 0) D1.out.blk rfl; have q1 := Blk.cellAt (i := 1) D1.out.blk rfl; simp only [List.getElem_toArray, List.getElem_cons_zero, List.getElem_cons_succ] at q0 q1)
      go_wp2_with fail
      refine (Z2.call _).mono ?_
      rintro e w2 ⟨rfl, hb⟩
      have C2 : Hid (Ctx w w2 w.heap.size n a ca l) := C1.out.below hb
      have D2 : Hid (Ctx w w2 (w.heap.size + 1) m b cb k) := D1.out.below hb
      clear hb C1 D1 q0 q1
      (have p0 := Blk.cellAt (i := 0) C2.out.blk rfl; have p1 := Blk.cellAt (i := 1) C2.out.blk rfl; simp only [List.getElem_toArray, List.getElem_cons_zero, List.getElem_cons_succ] at p0 p1)
      (have q0 := Blk.cellAt (i := 0) D2.out.blk rfl; have q1 := Blk.cellAt (i := 1) D2.out.blk rfl; simp only [List.getElem_toArray, List.getElem_cons_zero, List.getElem_cons_succ] at q0 q1)
      have hL2 := C2.out.row
      have hK2 := D2.out.row
      have hB2 : Below w2.heap.size w2 w2 := Below.refl _ _
      have hz2 := Nat.le_refl w2.heap.size
      have l2 := C2.out.lt
      have m2 := D2.out.lt
      go_wp2_with fail
      go_cut [6, 7] (fun u0 u1 wx => u0 = .int .i64 c ∧ u1 = .float .f32 z ∧ Below w2.heap.size w2 wx)
      case first =>
        go_region_held3 (fun wx => Below w2.heap.size w2 wx ∧ w2.heap.size ≤ wx.heap.size ∧ w.heap.size < wx.heap.size ∧ w.heap.size + 1 < wx.heap.size ∧ wx.cell? ⟨w.heap.size, 0, Option.none⟩ = some (.int .i64 n) ∧ wx.cell? ⟨w.heap.size, 1, Option.none⟩ = some (.slice a l.length ca) ∧ wx.cell? ⟨w.heap.size + 1, 0, Option.none⟩ = some (.int .i64 m) ∧ wx.cell? ⟨w.heap.size + 1, 1, Option.none⟩ = some (.slice b k.length cb))
          (((repeat' apply And.intro) <;> first | (with_reducible assumption) | ((repeat (first | (with_reducible assumption) | (with_reducible exact And.left (by assumption)) | (with_reducible exact And.left (And.right (by assumption))) | (with_reducible exact And.left (And.right (And.right (by assumption)))) | (with_reducible refine LitsAt.drew ?_) | (with_reducible refine LitsAt.below ?_ hb) | (with_reducible refine LitsAt.alloc ?_))); done) | (((repeat (first | (with_reducible assumption) | (with_reducible exact cNewAt (by first | rfl | (simp only [World.size_alloc, World.size_setCell, World.size_drew]; done) | omega) rfl) | (with_reducible exact sNewAt (by first | rfl | (simp only [World.size_alloc, World.size_setCell, World.size_drew]; done) | omega) rfl) | (simp; done) | (with_reducible apply cAlloc) | (with_reducible apply cDrew) | (with_reducible refine cSet (by dsimp only; omega) ?_) | (with_reducible refine cSetOff (by dsimp only; omega) ?_) | (with_reducible apply cSame) | (with_reducible refine cBelow (by assumption) ?_) | (with_reducible apply sAlloc) | (with_reducible apply sDrew) | (with_reducible refine sBelow (by assumption) ?_) | (with_reducible refine sSet (by dsimp only; omega) ?_))); first | done | (simp [*]; done)); done) | (simp only [World.size_alloc, World.size_setCell, World.size_drew]; omega) | omega | (go_keep; done) | ((repeat' (first | (with_reducible exact Below.refl _ _) | (with_reducible assumption) | (with_reducible refine Below.alloc ?_ ?_ _) | (with_reducible refine Below.drew ?_) | (with_reducible refine Below.setCell ?_ ?_ _) | (with_reducible refine Below.trans ?_ (Below.mono (by assumption) ?_)) | (with_reducible exact Nat.le_refl _) | omega | (simp only [World.size_alloc, World.size_setCell, World.size_drew]; omega) | (simp; omega) | (simp; done))); done)))
          (first | (go_at_call 45; (with_reducible refine (T1.call _ ?_).mono ?_); (next => exact LitsAt.below hL2 (And.left (by assumption))); rintro e w3 ⟨⟨b3, rfl, ho⟩, hb⟩; have K3 : Hid (LitsAt w3 b3 l) := ho.lits; have hbs := hb.size; clear ho; (try simp only [World.size_alloc, World.size_setCell, World.size_drew] at hbs)) | (go_at_call 45; (with_reducible refine (T2.call _ ?_).mono ?_); (next => exact LitsAt.below hK2 (And.left (by assumption))); rintro e w4 ⟨⟨b4, rfl, ho⟩, hb⟩; have K4 : Hid (LitsAt w4 b4 k) := ho.lits; have K34 : Hid (LitsAt w4 b3 l) := LitsAt.below K3.out hb; have hbs := hb.size; clear ho; (try simp only [World.size_alloc, World.size_setCell, World.size_drew] at hbs)) | (go_at_call 65; (with_reducible refine ((HZ.out _ _ _ _).call _ K34.out K4.out).mono ?_); rintro e w5 ⟨rfl, hb⟩; have hbs := hb.size; (try simp only [World.size_alloc, World.size_setCell, World.size_drew] at hbs)))
        all_goals
          rename_i hHeld
          have hb8 := hHeld.1
          clear hHeld
          go_wp2_with fail
          go_meet
          exact ⟨rfl, rfl, hb8⟩
      case rest =>
        obtain ⟨rfl, rfl, hb⟩ := hcut
        have C3 : Hid (Ctx w wc w.heap.size n a ca l) := C2.out.below hb
        have D3 : Hid (Ctx w wc (w.heap.size + 1) m b cb k) := D2.out.below hb
        clear hb C2 D2 p0 p1 q0 q1 hL2 hK2 hB2 hz2 l2 m2
        (have p0 := Blk.cellAt (i := 0) C3.out.blk rfl; have p1 := Blk.cellAt (i := 1) C3.out.blk rfl; simp only [List.getElem_toArray, List.getElem_cons_zero, List.getElem_cons_succ] at p0 p1)
        go_wp2_with fail
        refine (T1.call _ C3.out.row).mono ?_
        rintro e w4 ⟨⟨b4, rfl, ho⟩, hb⟩
        have C4 : Hid (Ctx w w4 w.heap.size n a ca l) := C3.out.below hb
        have D4 : Hid (Ctx w w4 (w.heap.size + 1) m b cb k) := D3.out.below hb
        have O4 : Hid (OwnIn w4 wc.heap.size w4.heap.size b4 l) := ho
        have s4 := hb.size
        clear hb ho C3 D3 p0 p1
        (have q0 := Blk.cellAt (i := 0) D4.out.blk rfl; have q1 := Blk.cellAt (i := 1) D4.out.blk rfl; simp only [List.getElem_toArray, List.getElem_cons_zero, List.getElem_cons_succ] at q0 q1)
        have m4 := D4.out.lt
        go_wp2_with fail
        generalize hU : w4.alloc (.cells #[.int .i64 n, .slice b4 l.length l.length] 37) = U
        have CU : Hid (Ctx w U w.heap.size n a ca l) := by rw [← hU]; exact C4.out.alloc
        have DU : Hid (Ctx w U (w.heap.size + 1) m b cb k) := by rw [← hU]; exact D4.out.alloc
        have XU : Hid (PVar U w4.heap.size wc.heap.size w4.heap.size n b4 l.length l) := by rw [← hU]; exact PVar.new O4.out s4
        clear hU C4 D4 O4 s4 q0 q1 m4
        generalize w4.heap.size = x at *
        generalize wc.heap.size = x' at *
        refine (T2.call _ DU.out.row).mono ?_
        rintro e w5 ⟨⟨b5, rfl, ho⟩, hb⟩
        have C5 : Hid (Ctx w w5 w.heap.size n a ca l) := CU.out.below hb
        have D5 : Hid (Ctx w w5 (w.heap.size + 1) m b cb k) := DU.out.below hb
        have X5 : Hid (PVar w5 x x' x n b4 l.length l) := XU.out.below hb
        have O5 : Hid (OwnIn w5 U.heap.size w5.heap.size b5 k) := ho
        have s5 := hb.size
        clear hb ho CU DU XU
        (have x0 := Blk.cellAt (i := 0) X5.out.blk rfl; have x1 := Blk.cellAt (i := 1) X5.out.blk rfl; simp only [List.getElem_toArray, List.getElem_cons_zero, List.getElem_cons_succ] at x0 x1)
        have lx5 := X5.out.lt
        go_wp2_with fail
        generalize hU : w5.alloc (.cells #[.int .i64 m, .slice b5 k.length k.length] 37) = T
        have CT : Hid (Ctx w T w.heap.size n a ca l) := by rw [← hU]; exact C5.out.alloc
        have DT : Hid (Ctx w T (w.heap.size + 1) m b cb k) := by rw [← hU]; exact D5.out.alloc
        have XT : Hid (PVar T x x' x n b4 l.length l) := by rw [← hU]; exact X5.out.alloc
        have YT : Hid (PVar T w5.heap.size U.heap.size w5.heap.size m b5 k.length k) := by rw [← hU]; exact PVar.new O5.out s5
        clear hU C5 D5 X5 O5 s5 x0 x1 lx5
        generalize w5.heap.size = y at *
        generalize U.heap.size = y' at *
        refine ((HI.out _ _ _ _).call _ XT.out.lits YT.out.lits).mono ?_
        rintro e w6 ⟨rfl, hb⟩
        have C6 : Hid (Ctx w w6 w.heap.size n a ca l) := CT.out.below hb
        have D6 : Hid (Ctx w w6 (w.heap.size + 1) m b cb k) := DT.out.below hb
        have X6 : Hid (PVar w6 x x' x n b4 l.length l) := XT.out.below hb
        have Y6 : Hid (PVar w6 y y' y m b5 k.length k) := YT.out.below hb
        clear hb CT DT XT YT
        have hcv := fun w => conv_wide hzf w
        have HSM : Hid (SameF (wide z) (wide z)) := same_wide hzf
        generalize wide z = zz at hcv HSM
        clear hzf
        go_wp2_with (first | (go_at_call 66; (with_reducible refine (HSM.out.call _).mono ?_); rintro e w6b ⟨rfl, h6⟩; rw [h6]; clear h6 w6b) | (simp only [hcv]; fail_if_success (simp only [hcv])))

        (have p0 := Blk.cellAt (i := 0) C6.out.blk rfl; have p1 := Blk.cellAt (i := 1) C6.out.blk rfl; simp only [List.getElem_toArray, List.getElem_cons_zero, List.getElem_cons_succ] at p0 p1)
        (have x0 := Blk.cellAt (i := 0) X6.out.blk rfl; have x1 := Blk.cellAt (i := 1) X6.out.blk rfl; simp only [List.getElem_toArray, List.getElem_cons_zero, List.getElem_cons_succ] at x0 x1)
        have hL6 := C6.out.row
        have hK6 := X6.out.lits
        have hB6 : Below w6.heap.size w6 w6 := Below.refl _ _
        have hz6 := Nat.le_refl w6.heap.size
        have l6 := C6.out.lt
        have m6 := X6.out.lt
        go_wp2_with fail
        go_cut [55] (fun v wx => v = .bool false ∧ Below w6.heap.size w6 wx)
        case first =>
          go_region_held3 (fun wx => Below w6.heap.size w6 wx ∧ w6.heap.size ≤ wx.heap.size ∧ x < wx.heap.size ∧ w.heap.size < wx.heap.size ∧ wx.cell? ⟨w.heap.size, 0, Option.none⟩ = some (.int .i64 n) ∧ wx.cell? ⟨w.heap.size, 1, Option.none⟩ = some (.slice a l.length ca) ∧ wx.cell? ⟨x, 0, Option.none⟩ = some (.int .i64 n) ∧ wx.cell? ⟨x, 1, Option.none⟩ = some (.slice b4 l.length l.length))
            (((repeat' apply And.intro) <;> first | (with_reducible assumption) | ((repeat (first | (with_reducible assumption) | (with_reducible exact And.left (by assumption)) | (with_reducible exact And.left (And.right (by assumption))) | (with_reducible exact And.left (And.right (And.right (by assumption)))) | (with_reducible refine LitsAt.drew ?_) | (with_reducible refine LitsAt.below ?_ hb) | (with_reducible refine LitsAt.alloc ?_))); done) | (((repeat (first | (with_reducible assumption) | (with_reducible exact cNewAt (by first | rfl | (simp only [World.size_alloc, World.size_setCell, World.size_drew]; done) | omega) rfl) | (with_reducible exact sNewAt (by first | rfl | (simp only [World.size_alloc, World.size_setCell, World.size_drew]; done) | omega) rfl) | (simp; done) | (with_reducible apply cAlloc) | (with_reducible apply cDrew) | (with_reducible refine cSet (by dsimp only; omega) ?_) | (with_reducible refine cSetOff (by dsimp only; omega) ?_) | (with_reducible apply cSame) | (with_reducible refine cBelow (by assumption) ?_) | (with_reducible apply sAlloc) | (with_reducible apply sDrew) | (with_reducible refine sBelow (by assumption) ?_) | (with_reducible refine sSet (by dsimp only; omega) ?_))); first | done | (simp [*]; done)); done) | (simp only [World.size_alloc, World.size_setCell, World.size_drew]; omega) | omega | (go_keep; done) | ((repeat' (first | (with_reducible exact Below.refl _ _) | (with_reducible assumption) | (with_reducible refine Below.alloc ?_ ?_ _) | (with_reducible refine Below.drew ?_) | (with_reducible refine Below.setCell ?_ ?_ _) | (with_reducible refine Below.trans ?_ (Below.mono (by assumption) ?_)) | (with_reducible exact Nat.le_refl _) | omega | (simp only [World.size_alloc, World.size_setCell, World.size_drew]; omega) | (simp; omega) | (simp; done))); done)))
            (first | (go_at_call 45; (with_reducible refine (T1.call _ ?_).mono ?_); (next => exact LitsAt.below hL6 (And.left (by assumption))); rintro e w7 ⟨⟨b7, rfl, ho⟩, hb⟩; have K7 : Hid (LitsAt w7 b7 l) := ho.lits; have hbs := hb.size; clear ho; (try simp only [World.size_alloc, World.size_setCell, World.size_drew] at hbs)) | (go_at_call 46; (with_reducible refine ((E1.out _ _ _ _).call _ ?_ ?_).mono ?_); (next => exact LitsAt.below hK6 (And.left (by assumption))); (next => exact K7.out); rintro e w8 ⟨rfl, hb⟩; have hbs := hb.size; (try simp only [World.size_alloc, World.size_setCell, World.size_drew] at hbs)))
          all_goals
            rename_i hHeld
            have hb8 := hHeld.1
            clear hHeld
            go_wp2_with fail
            go_meet
            exact ⟨rfl, hb8⟩
        case rest =>
          obtain ⟨rfl, hb⟩ := hcut
          have D9 : Hid (Ctx w wc (w.heap.size + 1) m b cb k) := D6.out.below hb
          have Y9 : Hid (PVar wc y y' y m b5 k.length k) := Y6.out.below hb
          clear hb C6 D6 X6 Y6 p0 p1 x0 x1 hL6 hK6 hB6 hz6 l6 m6
          (have p0 := Blk.cellAt (i := 0) D9.out.blk rfl; have p1 := Blk.cellAt (i := 1) D9.out.blk rfl; simp only [List.getElem_toArray, List.getElem_cons_zero, List.getElem_cons_succ] at p0 p1)
          (have x0 := Blk.cellAt (i := 0) Y9.out.blk rfl; have x1 := Blk.cellAt (i := 1) Y9.out.blk rfl; simp only [List.getElem_toArray, List.getElem_cons_zero, List.getElem_cons_succ] at x0 x1)
          have hL9 := D9.out.row
          have hK9 := Y9.out.lits
          have hB9 : Below wc.heap.size wc wc := Below.refl _ _
          have hz9 := Nat.le_refl wc.heap.size
          have l9 := D9.out.lt
          have m9 := Y9.out.lt
          go_wp2_with fail
          go_region_held3 (fun wx => Below wc.heap.size wc wx ∧ wc.heap.size ≤ wx.heap.size ∧ y < wx.heap.size ∧ w.heap.size + 1 < wx.heap.size ∧ wx.cell? ⟨w.heap.size + 1, 0, Option.none⟩ = some (.int .i64 m) ∧ wx.cell? ⟨w.heap.size + 1, 1, Option.none⟩ = some (.slice b k.length cb) ∧ wx.cell? ⟨y, 0, Option.none⟩ = some (.int .i64 m) ∧ wx.cell? ⟨y, 1, Option.none⟩ = some (.slice b5 k.length k.length))
            (((repeat' apply And.intro) <;> first | (with_reducible assumption) | ((repeat (first | (with_reducible assumption) | (with_reducible exact And.left (by assumption)) | (with_reducible exact And.left (And.right (by assumption))) | (with_reducible exact And.left (And.right (And.right (by assumption)))) | (with_reducible refine LitsAt.drew ?_) | (with_reducible refine LitsAt.below ?_ hb) | (with_reducible refine LitsAt.alloc ?_))); done) | (((repeat (first | (with_reducible assumption) | (with_reducible exact cNewAt (by first | rfl | (simp only [World.size_alloc, World.size_setCell, World.size_drew]; done) | omega) rfl) | (with_reducible exact sNewAt (by first | rfl | (simp only [World.size_alloc, World.size_setCell, World.size_drew]; done) | omega) rfl) | (simp; done) | (with_reducible apply cAlloc) | (with_reducible apply cDrew) | (with_reducible refine cSet (by dsimp only; omega) ?_) | (with_reducible refine cSetOff (by dsimp only; omega) ?_) | (with_reducible apply cSame) | (with_reducible refine cBelow (by assumption) ?_) | (with_reducible apply sAlloc) | (with_reducible apply sDrew) | (with_reducible refine sBelow (by assumption) ?_) | (with_reducible refine sSet (by dsimp only; omega) ?_))); first | done | (simp [*]; done)); done) | (simp only [World.size_alloc, World.size_setCell, World.size_drew]; omega) | omega | (go_keep; done) | ((repeat' (first | (with_reducible exact Below.refl _ _) | (with_reducible assumption) | (with_reducible refine Below.alloc ?_ ?_ _) | (with_reducible refine Below.drew ?_) | (with_reducible refine Below.setCell ?_ ?_ _) | (with_reducible refine Below.trans ?_ (Below.mono (by assumption) ?_)) | (with_reducible exact Nat.le_refl _) | omega | (simp only [World.size_alloc, World.size_setCell, World.size_drew]; omega) | (simp; omega) | (simp; done))); done)))
            (first | (go_at_call 45; (with_reducible refine (T2.call _ ?_).mono ?_); (next => exact LitsAt.below hL9 (And.left (by assumption))); rintro e w10 ⟨⟨b10, rfl, ho⟩, hb⟩; have K10 : Hid (LitsAt w10 b10 k) := ho.lits; have hbs := hb.size; clear ho; (try simp only [World.size_alloc, World.size_setCell, World.size_drew] at hbs)) | (go_at_call 46; (with_reducible refine ((E2.out _ _ _ _).call _ ?_ ?_).mono ?_); (next => exact LitsAt.below hK9 (And.left (by assumption))); (next => exact K10.out); rintro e w11 ⟨rfl, hb⟩; have hbs := hb.size; (try simp only [World.size_alloc, World.size_setCell, World.size_drew] at hbs)))
          all_goals
            rename_i hHeld
            have B11 : Hid (Below w.heap.size w w11) := D9.out.bel.trans (hHeld.1.mono D9.out.bel.size)
            clear hHeld
            go_wp2
            go_ret
            exact ⟨rfl, B11.out⟩
    · have Z2 := szPic_no (n := m) (a := b) (cap := cb) (len := k.length) (left := 1048576 - (l.length : Int)) (by omega) (by omega) (by omega)
      clear hr1 hr2 hw1 hw2
      go_enter Try.func18, Try.ntmps18
      go_wp2_with fail
      have HV : Hid (Below w.heap.size w ((w.alloc (.cells #[.int .i64 n, .slice a l.length ca] 69)).alloc (.cells #[.int .i64 m, .slice b k.length cb] 69))) := by
        show Below w.heap.size w _
        (repeat' (first | (with_reducible exact Below.refl _ _) | (with_reducible assumption) | (with_reducible refine Below.alloc ?_ ?_ _) | (with_reducible refine Below.drew ?_) | (with_reducible refine Below.setCell ?_ ?_ _) | (with_reducible refine Below.trans ?_ (Below.mono (by assumption) ?_)) | (with_reducible exact Nat.le_refl _) | omega | (simp only [World.size_alloc, World.size_setCell, World.size_drew]; omega) | (simp; omega) | (simp; done)))
      have DV : Hid (Blk ((w.alloc (.cells #[.int .i64 n, .slice a l.length ca] 69)).alloc (.cells #[.int .i64 m, .slice b k.length cb] 69)) (w.heap.size + 1) #[.int .i64 m, .slice b k.length cb] 69) := Blk.newAt (by simp)
      refine (Z1.call _).mono ?_
      rintro e w1 ⟨rfl, hb⟩
      have H1 : Hid (Below w.heap.size w w1) := HV.out.trans (hb.mono HV.out.size)
      have D1 := DV.out.below hb
      have s1 := H1.out.size
      (have q0 := Blk.cellAt (i := 0) D1 rfl; have q1 := Blk.cellAt (i := 1) D1 rfl; simp only [List.getElem_toArray, List.getElem_cons_zero, List.getElem_cons_succ] at q0 q1)
      clear hb HV DV D1
      go_wp2_with fail
      refine (Z2.call _).mono ?_
      rintro e w2 ⟨rfl, hb⟩
      have H2 : Hid (Below w.heap.size w w2) := H1.out.trans (hb.mono s1)
      clear hb q0 q1
      go_wp2
      all_goals (go_ret; exact ⟨rfl, H2.out⟩)
  · have Z := szPic_no (n := n) (a := a) (cap := ca) (len := l.length) (left := 1048576) (by omega) (by omega) (by omega)
    clear hr1 hr2 hw1 hw2
    go_enter Try.func18, Try.ntmps18
    go_wp2_with fail
    refine (Z.call _).mono ?_
    rintro e w1 ⟨rfl, hb⟩
    have HB : Hid (Below w.heap.size w w1) := by
      show Below w.heap.size w w1
      exact Below.trans (by (repeat' (first | (with_reducible exact Below.refl _ _) | (with_reducible assumption) | (with_reducible refine Below.alloc ?_ ?_ _) | (with_reducible refine Below.drew ?_) | (with_reducible refine Below.setCell ?_ ?_ _) | (with_reducible refine Below.trans ?_ (Below.mono (by assumption) ?_)) | (with_reducible exact Nat.le_refl _) | omega | (simp only [World.size_alloc, World.size_setCell, World.size_drew]; omega) | (simp; omega) | (simp; done)))) (hb.mono (by simp; omega))
    clear hb
    go_wp2
    all_goals (go_ret; exact ⟨rfl, HB.out⟩)
end Go.Proofs.Ytlnikapkheldeaa.wFnExactDifferOf
