/-
  Texts of this proof, joined: Ts.
-/
import Derived.Test.YtekkgpanmccdgaaK19
/-
  The draw of a tumble and of a number of ticks; what the laws of tumbles call.
-/
namespace Go.Proofs.Ytekkgpanmccdgaa
open Go.ChangeShapes Go.WideShapes Go.ChangeAt Go.RowKit Go.Joins
set_option linter.unusedSimpArgs false
set_option linter.unusedVariables false
set_option maxRecDepth 100000
attribute [local go_sem] store_f
open Ieee Go.Lib
attribute [local go_sem] store_c

structure TumbleDrawn (w : World) (e : Ending) (w' : World) (kind : Nat) (g : PtW) (ls : Nat) (l : List (PtW × PtW)) (a : Option Addr) (c n : Nat) : Prop where
  ret : e = .returned (.tuple #[.agg #[.int .i64 kind, .complex .f32 g.1.1 g.1.2, .float .f32 ls, .slice a l.length c], .int .i64 n])
  row : BwIn w' a (l.map wd)
  base : Base kind g ls l
  few : l.length ≤ 4
  less : n < 20
  below : Below w.heap.size w w'
theorem BwIn.grownNew {W w1 : World} {a : Option Addr} {L : List Bw} {q : Nat} {v : Value} {i : Int} (h : BwIn W a L) (hg : W.grownBy w1 (some q)) (hc : W.cell? ⟨q, 1, Option.none⟩ = some (.int .i64 i)) : BwIn w1 a L := by
  rcases h with h | ⟨g, e, h⟩
  · exact .inl h
  · by_cases h0 : L = []
    · exact .inl h0
    · refine .inr ⟨g, e, h.grown hg fun e => ?_⟩
      cases e
      have h1 := (h 0 (List.length_pos_iff.2 h0)).2
      rw [Nat.zero_mul, Nat.zero_add, hc] at h1
      cases h1
theorem cur_cell {B q : Nat} {W : World} (h : Cur B W q) : ∃ i : Int, W.cell? ⟨q, 1, Option.none⟩ = some (.int .i64 i) := by
  obtain ⟨a, len, cap, bs, i, hh, h1, _⟩ := h
  exact ⟨i, h1.cell 1⟩
set_option maxHeartbeats 8000000 in
theorem drawTumble_s (a : Option Addr) (len cap : Nat) (bs : List Int) (w : World) (hrow : ByteRow w w.heap.size a len bs) (hlen : len ≤ 4096) :
    Calls Try.prog 16 #[.slice a len cap] w fun e w' => ∃ kind g ls l a' c n, TumbleDrawn w e w' kind g ls l a' c n := by
  have HR := Lib.hid hrow
  clear hrow
  go_enter Try.func16, Try.ntmps16
  go_wp2_with fail
  generalize hX : w.alloc (.cells #[.int .i64 0, .complex .f32 0 0, .float .f32 0, .slice Option.none 0 0] 39) = X
  have R0 : Hid (Blk X w.heap.size #[.int .i64 0, .complex .f32 0 0, .float .f32 0, .slice Option.none 0 0] 39) := by rw [← hX]; exact Blk.new _ _ _
  have BX : Below w.heap.size w X := by rw [← hX]; (repeat' (first | (with_reducible exact Below.refl _ _) | (with_reducible assumption) | (with_reducible refine Below.alloc ?_ ?_ _) | (with_reducible refine Below.drew ?_) | (with_reducible refine Below.setCell ?_ ?_ _) | (with_reducible refine Below.trans ?_ (Below.mono (by assumption) ?_)) | (with_reducible exact Nat.le_refl _) | omega | (simp only [World.size_alloc, World.size_setCell, World.size_drew]; omega) | (simp; omega) | (simp; done)))
  have sX : w.heap.size < X.heap.size := by rw [← hX]; simp
  clear hX
  refine (l1New_s a len cap bs _ ((HR.out.of BX).mono BX.size) hlen).mono ?_
  rintro e w1 ⟨q, rfl, hql, hcur, hb1⟩
  have hqB := hcur.ge
  have C1 := Lib.hid hcur
  have B1 : Hid (Below w.heap.size w w1) := BX.trans (hb1.mono BX.size)
  have R1 : Hid (Blk w1 w.heap.size #[.int .i64 0, .complex .f32 0 0, .float .f32 0, .slice Option.none 0 0] 39) := R0.out.below hb1
  have s1 := hb1.size
  clear hcur hb1 BX R0 HR
  go_wp2_with fail
  refine (l5Draw_s X.heap.size q _ C1.out).mono ?_
  rintro e w2 ⟨kind, g, ls, l, a', c, ⟨rfl, hrow2, hbase, hfew, hc2, hg2⟩⟩
  have C2 := Lib.hid hc2
  have W2 := Lib.hid hrow2
  have HBS := Lib.hid hbase
  have R2 : Hid (Blk w2 w.heap.size #[.int .i64 0, .complex .f32 0 0, .float .f32 0, .slice Option.none 0 0] 39) := R1.out.grown hg2 (by omega)
  have B2 : Hid (Below w.heap.size w w2) := B1.out.trans (below_of_grown hg2 (by omega) (by omega))
  have s2 := hg2.size
  clear hc2 hrow2 hbase hg2 R1 B1 C1
  go_wp2_with fail
  refine (l1Below_s X.heap.size q 20 _ C2.out (by omega) (by omega)).mono ?_
  rintro e w3 ⟨j, rfl, hj0, hj1, hc3, hg3⟩
  obtain ⟨n, rfl⟩ : ∃ n : Nat, j = n := ⟨j.toNat, by omega⟩
  obtain ⟨ci, hci⟩ := cur_cell C2.out
  have W3 := Lib.hid (BwIn.grownNew (v := .bool true) W2.out hg3 hci)
  have R3 : Hid (Blk w3 w.heap.size #[.int .i64 0, .complex .f32 0 0, .float .f32 0, .slice Option.none 0 0] 39) := R2.out.grown hg3 (by omega)
  have B3 : Hid (Below w.heap.size w w3) := B2.out.trans (below_of_grown hg3 (by omega) (by omega))
  have hn : n < 20 := by omega
  clear hc3 hg3 hci R2 B2 C2 W2
  (have r0 := Blk.cellAt (i := 0) R3.out rfl; have r1 := Blk.cellAt (i := 1) R3.out rfl; have r2 := Blk.cellAt (i := 2) R3.out rfl; have r3 := Blk.cellAt (i := 3) R3.out rfl; simp only [List.getElem_toArray, List.getElem_cons_zero, List.getElem_cons_succ] at r0 r1 r2 r3)
  have P0 := Lib.hid r0
  have f0 := R3.out.free 0
  have f1 := R3.out.free 1
  have f2 := R3.out.free 2
  have f3 := R3.out.free 3
  have lr := R3.out.lt
  obtain ⟨g1, hg1⟩ : ∃ x, x = g.1.1 := ⟨_, rfl⟩
  obtain ⟨g2, hg2⟩ : ∃ x, x = g.1.2 := ⟨_, rfl⟩
  rw [← hg1, ← hg2]
  have HG1 := Lib.hid hg1
  have HG2 := Lib.hid hg2
  clear hg1 hg2
  have RS := ((((R3.out.set (i := 0) (v := .int .i64 kind)).set (i := 1) (v := .complex .f32 g1 g2)).set (i := 2) (v := .float .f32 ls)).set (i := 3) (v := .slice a' l.length c))
  have e0 := RS.cell 0
  have e1 := RS.cell 1
  have e2 := RS.cell 2
  have e3 := RS.cell 3
  simp only [List.setIfInBounds_toArray, List.set_cons_zero, List.set_cons_succ, List.getElem?_toArray, List.getElem?_cons_zero, List.getElem?_cons_succ] at e0 e1 e2 e3
  have E0 := Lib.hid e0
  have E1 := Lib.hid e1
  have E2 := Lib.hid e2
  have E3 := Lib.hid e3
  clear RS e0 e1 e2 e3
  go_wp2_with fail
  have e0 := E0.out
  have e1 := E1.out
  have e2 := E2.out
  have e3 := E3.out
  refine bodyPost_ret (v := .tuple #[.agg #[.int .i64 kind, .complex .f32 g1 g2, .float .f32 ls, .slice a' l.length c], .int .i64 n]) (by simp [results, Try.results16, go_sem, e0, e1, e2, e3]) rfl ⟨kind, g, ls, l, a', c, n, ⟨by rw [HG1.out, HG2.out], W3.out.grownAt grown_set4 P0.out, HBS.out, hfew, hn, ?_⟩⟩
  exact (((B3.out.setCell (Nat.le_refl _) _).setCell (Nat.le_refl _) _).setCell (Nat.le_refl _) _).setCell (Nat.le_refl _) _

theorem runW_fin {kind : Int} {g : PtW} {ls : Nat} {l : List (PtW × PtW)} {j : Nat} : ∀ b ∈ runW kind g ls l j, b.Fin := fun b hb => by
  unfold runW at hb
  obtain ⟨c, _, rfl⟩ := List.mem_map.1 hb
  exact ⟨c.1.2.1.cl.fin, c.1.2.2.cl.fin, c.2.2.1.cl.fin, c.2.2.2.cl.fin⟩
theorem runW_0 (kind : Int) (g : PtW) (ls : Nat) (l : List (PtW × PtW)) : runW kind g ls l 0 = l.map wd := by
  unfold runW
  rw [runL]
theorem same_run {kind : Int} {g : PtW} {ls : Nat} {l : List (PtW × PtW)} (B : Base kind g ls l) (j : Nat) : SameT kind g.1.1 g.1.2 ls l.length (runW kind g ls l j) :=
  sameT (runW_len _ _ _ _ _) B.few runW_fin g.2.1.cl.fin g.2.2.cl.fin (fin_of_lt (by have := B.loss; omega))
end Go.Proofs.Ytekkgpanmccdgaa
