/-
  The call of FnFoldedWay returns true and writes nothing that was there.
-/
import Derived.Test.YtekkgpanmccdgaaK15
namespace Go.Proofs.Ytekkgpanmccdgaa.wFnFoldedWay
open Go.ChangeShapes Go.WideShapes Go.ChangeAt Go.RowKit Go.Joins
set_option linter.unusedSimpArgs false
set_option linter.unusedVariables false
set_option maxRecDepth 100000
attribute [local go_sem] store_f
open Ieee Go.Lib
attribute [local go_sem] store_c

set_option maxHeartbeats 32000000 in
theorem walk (a : Option Addr) (len cap : Nat) (bs : List Int) (w : World) (hrow : ByteRow w w.heap.size a len bs) :
    Calls Try.prog 5 #[.slice a len cap] w fun e w' => e = .returned (.bool true) ∧ Below w.heap.size w w' := by
  by_cases hl : len ≤ 4096
  · go_enter Try.func5, Try.ntmps5
    go_wp2_with fail
    refine (big_no _ _ _ _ hl).mono ?_
    rintro e w0 ⟨rfl, rfl⟩
    go_wp2_with fail
    refine (drawWay_s a len cap bs _ hrow hl).mono ?_
    rintro e w1 ⟨kind, x, y, v, n, ⟨rfl, hk, ox, oy, lv, hn, hb1⟩⟩
    obtain ⟨W, p1, p2, t, f, u1, u2, q1, q2, r1, r2, t', f', sp, sq, K⟩ := fw_of (kind := (kind : Int)) (by omega) (by omega) ox oy lv (show n ≤ 24 by omega)
    have KF := K.fold
    have KA := K.act
    have KW : ∀ w : World, Calls Try.prog 23 #[.complex .f32 x y, .complex .f32 v.1.1 v.1.2, .int .i64 n] w fun e w' => ∃ g c, WayOut w e w' W n g c := fun w => by
      have h := K.way.call w
      rw [K.w0] at h
      exact h
    have HKW := Lib.hid KW
    have KR := K.run
    have KE := K.fe
    have SE := K.se
    have SV := K.sv
    have HES := Lib.hid K.es
    have hop : ∀ w, (binOp .eql 36 (.complex .f32 q1 q2) (.complex .f32 q1 q2)).run Try.prog w = .ok (.bool true) w := fun w => by rw [run_eql_complex, K.e1, K.e2]; rfl
    have HOP := Lib.hid hop
    have B1 : Hid (Below w.heap.size w w1) := hb1
    have s1 := hb1.size
    clear K KW hop hb1 hrow ox oy lv
    generalize (kind : Int) = kd at *
    generalize v.1.1 = v1 at *
    generalize v.1.2 = v2 at *
    go_wp2_with fail
    refine (KF.call _).mono ?_
    rintro e w2 ⟨rfl, hb2⟩
    have B2 : Hid (Below w.heap.size w w2) := B1.out.trans (hb2.mono s1)
    have s2 := B2.out.size
    clear hb2 B1 KF
    go_wp2_with fail
    have B2' : Hid (Below w.heap.size w (w2.alloc (.cells #[.int .i64 t, .bool f] 49))) := B2.out.alloc s2 _
    refine (KA.call _).mono ?_
    rintro e w3 ⟨rfl, hb3⟩
    have s3 := hb3.size
    simp only [World.size_alloc] at s3
    have B3 : Hid (Below w.heap.size w w3) := B2'.out.trans (hb3.mono (by simp; omega))
    clear hb3 B2 B2' KA
    go_wp2_with fail
    generalize hX : (w3.alloc (.cells #[.complex .f32 p1 p2, .complex .f32 u1 u2] 54)).alloc (.cells #[.int .i64 kd, .complex .f32 0 0, .float .f32 0, .slice (some ⟨w3.heap.size, 0, Option.none⟩) 1 1] 39) = X
    have N3 : Hid (Blk X w3.heap.size #[.complex .f32 p1 p2, .complex .f32 u1 u2] 54) := by rw [← hX]; exact (Blk.new _ _ _).alloc
    have T3 : Hid (Blk X (w3.heap.size + 1) #[.int .i64 kd, .complex .f32 0 0, .float .f32 0, .slice (some ⟨w3.heap.size, 0, Option.none⟩) 1 1] 39) := by rw [← hX]; exact Blk.newAt (by simp)
    have BX : Hid (Below w.heap.size w X) := by rw [← hX]; exact (B3.out.alloc (by omega) _).alloc (by simp; omega) _
    clear hX B3
    have sX := BX.out.size
    refine (HKW.out _).mono ?_
    rintro e w4 ⟨g, cg, ⟨rfl, hcells, hb4⟩⟩
    have N4 : Hid (Blk w4 w3.heap.size #[.complex .f32 p1 p2, .complex .f32 u1 u2] 54) := N3.out.below hb4
    have T4 : Hid (Blk w4 (w3.heap.size + 1) #[.int .i64 kd, .complex .f32 0 0, .float .f32 0, .slice (some ⟨w3.heap.size, 0, Option.none⟩) 1 1] 39) := T3.out.below hb4
    have B4 : Hid (Below w.heap.size w w4) := BX.out.trans (hb4.mono sX)
    have C4 : Hid (∀ k, k ≤ n → w4.cell? ⟨g, k, Option.none⟩ = some (.complex .f32 (W k).1 (W k).2)) := hcells
    have s4 := B4.out.size
    clear hb4 hcells N3 T3 BX HKW
    (have t0 := Blk.cellAt (i := 0) T4.out rfl; have t1 := Blk.cellAt (i := 1) T4.out rfl; have t2 := Blk.cellAt (i := 2) T4.out rfl; have t3 := Blk.cellAt (i := 3) T4.out rfl; simp only [List.getElem_toArray, List.getElem_cons_zero, List.getElem_cons_succ] at t0 t1 t2 t3)
    have l4 := T4.out.lt
    have R4 : Hid (BwIn w4 (some ⟨w3.heap.size, 0, Option.none⟩) [⟨p1, p2, u1, u2⟩]) := .inr ⟨_, rfl, fun k hk => by
      have hk0 : k = 0 := by simpa using hk
      subst hk0
      exact ⟨N4.out.cell 0, N4.out.cell 1⟩⟩
    go_wp2_with fail
    refine (KR.call _ _ _ R4.out).mono ?_
    rintro e w5 ⟨a5, c5, ⟨rfl, hrow5, hb5⟩⟩
    have c4n := C4.out n (Nat.le_refl _)
    have cn := cBelow hb5 c4n
    have B5 : Hid (Below w.heap.size w w5) := B4.out.trans (hb5.mono s4)
    rcases hrow5 with h | ⟨ge, rfl, hrow5⟩
    · cases h
    obtain ⟨k0, k1⟩ := hrow5 0 (by simp)
    simp only [Nat.zero_mul, Nat.zero_add, List.getD_cons_zero] at k0 k1
    have s5 := B5.out.size
    clear hb5 hrow5 c4n C4 N4 T4 R4 B4 t0 t1 t2 t3 l4 KR
    generalize hW1 : (W n).1 = z1 at *
    generalize hW2 : (W n).2 = z2 at *
    clear hW1 hW2
    have lg := cell_lt cn
    have le := cell_lt k0
    go_wp2_with fail
    refine (KE.call _).mono ?_
    rintro e w6 ⟨rfl, hb6⟩
    have h0 := cBelow hb6 (cAlloc (o := .cells #[.int .i64 kd, .complex .f32 0 0, .float .f32 0, .slice (some ⟨ge, 0, Option.none⟩) 1 c5] 39) k0)
    have h1 := cBelow hb6 (cAlloc (o := .cells #[.int .i64 kd, .complex .f32 0 0, .float .f32 0, .slice (some ⟨ge, 0, Option.none⟩) 1 c5] 39) k1)
    have TE := Blk.belowAt hb6 (Blk.new w5 #[.int .i64 kd, .complex .f32 0 0, .float .f32 0, .slice (some ⟨ge, 0, Option.none⟩) 1 c5] 39)
    (have t0 := Blk.cellAt (i := 0) TE rfl; have t1 := Blk.cellAt (i := 1) TE rfl; have t2 := Blk.cellAt (i := 2) TE rfl; have t3 := Blk.cellAt (i := 3) TE rfl; simp only [List.getElem_toArray, List.getElem_cons_zero, List.getElem_cons_succ] at t0 t1 t2 t3)
    have lt6 := TE.lt
    have s6 := hb6.size
    simp only [World.size_alloc] at s6
    have lge : ge < w6.heap.size := by omega
    have B6 : Hid (Below w.heap.size w w6) := (B5.out.alloc s5 _).trans (hb6.mono (by simp; omega))
    have hop := HOP.out
    have hes := HES.out
    clear hb6 B5 k0 k1 cn TE KE HOP HES
    go_wp2_with (first | (simp only [hop]) | (go_at_call 24; (first | (with_reducible refine (SE.call _).mono ?_) | (with_reducible refine (SV.call _).mono ?_)); rintro e w7 ⟨rfl, rfl⟩))
    go_ret
    exact ⟨by simp [hes], by have hbb := B6.out; (repeat' (first | (with_reducible exact Below.refl _ _) | (with_reducible assumption) | (with_reducible refine Below.alloc ?_ ?_ _) | (with_reducible refine Below.drew ?_) | (with_reducible refine Below.setCell ?_ ?_ _) | (with_reducible refine Below.trans ?_ (Below.mono (by assumption) ?_)) | (with_reducible exact Nat.le_refl _) | omega | (simp only [World.size_alloc, World.size_setCell, World.size_drew]; omega) | (simp; omega) | (simp; done)))⟩
  · go_enter Try.func5, Try.ntmps5
    go_wp2_with fail
    refine (big_yes _ _ _ _ hl).mono ?_
    rintro e w0 ⟨rfl, rfl⟩
    go_wp2
    all_goals (go_returns; exact ⟨rfl, by (repeat' (first | (with_reducible exact Below.refl _ _) | (with_reducible assumption) | (with_reducible refine Below.alloc ?_ ?_ _) | (with_reducible refine Below.drew ?_) | (with_reducible refine Below.setCell ?_ ?_ _) | (with_reducible refine Below.trans ?_ (Below.mono (by assumption) ?_)) | (with_reducible exact Nat.le_refl _) | omega | (simp only [World.size_alloc, World.size_setCell, World.size_drew]; omega) | (simp; omega) | (simp; done)))⟩)
end Go.Proofs.Ytekkgpanmccdgaa.wFnFoldedWay
