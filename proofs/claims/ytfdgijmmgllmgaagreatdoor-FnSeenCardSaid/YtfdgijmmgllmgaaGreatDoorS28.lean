/-
  Texts Wd, joined.
-/
import Derived.Test.YtfdgijmmgllmgaaGreatDoorS27
import Derived.Laws.AppendOwnNone
namespace Go.Proofs.YtfdgijmmgllmgaaGreatDoor
open Go.ChangeShapes Go.WideShapes Go.ChangeAt Go.RowKit Go.Joins
set_option linter.unusedSimpArgs false
set_option linter.unusedVariables false
set_option maxRecDepth 100000
attribute [local go_sem] store_f
open Ieee Go.Lib
attribute [local go_sem] store_c
theorem run_append_owned_z {P : Program} {w : World} (base : Nat) (t ty e : TypeId) (i : TypeInfo) (size : Nat) (ht : P.underlying t = some (.slice e)) (hi : P.info? e = some i)
    (v : Value) (n c : Nat) (xs : List Value) (hown : w.ownsRow base e size v n xs) :
    (Builtin.append_ #[t, t] ty #[v, .slice Option.none 0 c]).run P w = .ok v w := by
  rcases hown.2 with ⟨rfl, rfl⟩ | ⟨g, cap, cur, rfl, _, _, hnc, _⟩
  · simp [Builtin.append_, run_underlying ht, sizeOf, typeInfo, hi, Builtin.lenOf, Builtin.firstCells]
  · simp [Builtin.append_, run_underlying ht, sizeOf, typeInfo, hi, Builtin.lenOf, Builtin.firstCells, hnc, storeCells]
theorem slice_form {W : World} {B T sz n m : Nat} {v : Value} {xs : List Value} (h : W.ownsRow B T sz v n xs) : ∃ a c, v = .slice a n c := by
  rcases ownsRow_forms h with ⟨rfl, h0⟩ | ⟨g, c, rfl⟩
  · exact ⟨_, _, by rw [h0]⟩
  · exact ⟨_, _, rfl⟩
theorem wpList_append_z {P : Program} {w : World} {ops : Array Oper} {rest : List Oper} {o : Oper} {a : Act} {Q : Exit → Act → World → Prop} (hgd : o.guard = Option.none) (s x : Operand) (t : TypeId)
    (ho : o.op = .call { callee := .builtin .append, args := #[s, x], argTypes := #[t, t] })
    (base : Nat) (e : TypeId) (i : TypeInfo) (z : Value) (size bytes : Nat) (ht : P.underlying t = some (.slice e)) (hi : P.info? e = some i) (hz : i.zero = some z)
    (hsize : i.size = size) (hby : i.bytes = bytes) (hzs : z.cells.size = size) (hsz : 0 < size)
    (v : Value) (n : Nat) (xs : List Value) (hs : a.eval s = v) (hown : w.ownsRow base e size v n xs)
    (ad : Option Addr) (m c : Nat) (news : List Value) (hx : a.eval x = .slice ad m c) (hl : news.length = m * size) (hnews : LiesZ w ad news) (h1 : ∀ u ∈ news, u.oneCell' = true)
    (h63 : n + m ≤ maxLen) (hbytes : (n + m) * bytes ≤ 140737488355328) (hbase : base ≤ w.heap.size)
    (h : ∀ a' c' w', w'.ownsRow base e size (.slice a' (n + m) c') (n + m) (xs ++ news) → w.grownBy w' v.ownBlock → wpList P ops Q rest (a.put o.dst (.slice a' (n + m) c')) w') : wpList P ops Q (o :: rest) a w := by
  cases ad with
  | none =>
    have hn : news = [] := by
      rcases hnews with h | ⟨g, e, _⟩
      · exact h
      · cases e
    subst hn
    have hm : m = 0 := by
      simp only [List.length_nil] at hl
      rcases Nat.eq_zero_or_pos m with h | h
      · exact h
      · have := Nat.mul_pos h hsz; omega
    subst hm
    obtain ⟨a', c', rfl⟩ := slice_form (m := 0) hown
    refine wpList_plain hgd fun K hK => ?_
    have hrun := run_append_owned_z (P := P) (w := w) base t o.type e i size ht hi _ n c xs hown
    unfold Oper.wp
    simp [execOp, ho, resolve, invoke, builtin, hs, hx, hrun, Result.andThen]
    refine hK _ _ ?_
    have h2 := h a' c' w (by simpa using hown) ⟨rfl, rfl, rfl, Nat.le_refl _, fun _ _ _ => rfl⟩
    simpa using h2
  | some ad =>
    refine wpList_append_own w hgd s x t ho base e i z size bytes ht hi hz hsize hby hzs hsz v n xs hs hown ad m c news hx hl (fun j u hj => ?_) h1 h63 hbytes hbase fun v' w' h2 h3 _ => ?_
    · rcases hnews with h | ⟨g, e, h⟩
      · subst h; simp at hj
      · cases e
        rw [Go.WideShapes.add_plain]
        exact h j u hj
    · obtain ⟨a', c', rfl⟩ := slice_form (m := 0) h2
      exact h a' c' w' h2 h3
set_option maxHeartbeats 32000000 in
theorem copyShowS {s : Sho} {N M K : Nat} (L : ShoLen s N M K) : CopyS 68 s N M K := ⟨fun w a b l ca cb cl hr => by
  have C1 : Hid ((shCells s.shs).length = N * 7 ∧ N ≤ 12) := ⟨by rw [shCells_len, L.n], L.n12⟩
  obtain ⟨i0, hi, hz0, hz1, hz2⟩ := info_parts infoShd
  obtain ⟨j0, hj, hy0, hy1, hy2⟩ := info_parts infoEv
  have C2 := copyS (kind := s.kind) (g1 := s.g1) (g2 := s.g2) (ls := 0) (N := M) (L := s.bds) L.m L.m8
  have C3 : Hid ((evCells s.log).length = K * 13 ∧ K ≤ 25) := ⟨by rw [evCells_len, L.k], L.k24⟩
  have HR := Lib.hid hr
  clear hr L
  go_enter Tryz.func68, Tryz.ntmps68
  have IX : ShoIn (((w.alloc (.cells #[.int .i64 s.size, .float .f32 s.step, .float .f32 s.lit.r, .float .f32 s.lit.g, .float .f32 s.lit.b, .slice a N ca, .int .i64 s.kind, .complex .f32 s.g1 s.g2, .float .f32 0, .slice b M cb, .int .i64 s.ticks, .slice l K cl] 34)).alloc (.cells #[.int .i64 0, .float .f32 0, .float .f32 0, .float .f32 0, .float .f32 0, .slice Option.none 0 0, .int .i64 0, .complex .f32 0 0, .float .f32 0, .slice Option.none 0 0, .int .i64 0, .slice Option.none 0 0] 34)).alloc (.cells #[] 36)) s a b l := HR.out.alloc.alloc.alloc
  have WX : (((w.alloc (.cells #[.int .i64 s.size, .float .f32 s.step, .float .f32 s.lit.r, .float .f32 s.lit.g, .float .f32 s.lit.b, .slice a N ca, .int .i64 s.kind, .complex .f32 s.g1 s.g2, .float .f32 0, .slice b M cb, .int .i64 s.ticks, .slice l K cl] 34)).alloc (.cells #[.int .i64 0, .float .f32 0, .float .f32 0, .float .f32 0, .float .f32 0, .slice Option.none 0 0, .int .i64 0, .complex .f32 0 0, .float .f32 0, .slice Option.none 0 0, .int .i64 0, .slice Option.none 0 0] 34)).alloc (.cells #[] 36)).ownsRow (w.heap.size + 1 + 1) 36 7 (.slice (some ⟨w.heap.size + 1 + 1, 0, Option.none⟩) 0 0) 0 [] := by
    have h := World.ownsRow_lit ((w.alloc (.cells #[.int .i64 s.size, .float .f32 s.step, .float .f32 s.lit.r, .float .f32 s.lit.g, .float .f32 s.lit.b, .slice a N ca, .int .i64 s.kind, .complex .f32 s.g1 s.g2, .float .f32 0, .slice b M cb, .int .i64 s.ticks, .slice l K cl] 34)).alloc (.cells #[.int .i64 0, .float .f32 0, .float .f32 0, .float .f32 0, .float .f32 0, .slice Option.none 0 0, .int .i64 0, .complex .f32 0 0, .float .f32 0, .slice Option.none 0 0, .int .i64 0, .slice Option.none 0 0] 34)) (e := 36) (size := 7) (base := w.heap.size + 1 + 1) #[] 0 (by simp) (by unfold maxLen; omega) rfl
    simpa using h
  go_wp2_with (at_builtin; go_loud (refine wpList_append_z rfl _ _ 27 rfl (w.heap.size + 1 + 1) 36 i0 (.agg #[.complex .f32 0 0, .complex .f32 0 0, .complex .f32 0 0, .float .f32 0, .float .f32 0, .float .f32 0, .float .f32 0]) 7 40 Tryz.underlying27 hi hz0 hz1 hz2 rfl (by decide) _ 0 [] rfl WX a N ca (shCells s.shs) rfl C1.out.1 IX.sh (sh_one _) (by have := C1.out.2; unfold maxLen; omega) (by have := C1.out.2; omega) (by simp) ?_))
  intro a1 c1 w1 hown hgrow
  clear IX WX
  generalize hW : (w.alloc (.cells #[.int .i64 s.size, .float .f32 s.step, .float .f32 s.lit.r, .float .f32 s.lit.g, .float .f32 s.lit.b, .slice a N ca, .int .i64 s.kind, .complex .f32 s.g1 s.g2, .float .f32 0, .slice b M cb, .int .i64 s.ticks, .slice l K cl] 34)).alloc (.cells #[.int .i64 0, .float .f32 0, .float .f32 0, .float .f32 0, .float .f32 0, .slice Option.none 0 0, .int .i64 0, .complex .f32 0 0, .float .f32 0, .slice Option.none 0 0, .int .i64 0, .slice Option.none 0 0] 34) = X
  have M0 : Hid (Blk X w.heap.size #[.int .i64 s.size, .float .f32 s.step, .float .f32 s.lit.r, .float .f32 s.lit.g, .float .f32 s.lit.b, .slice a N ca, .int .i64 s.kind, .complex .f32 s.g1 s.g2, .float .f32 0, .slice b M cb, .int .i64 s.ticks, .slice l K cl] 34) := by rw [← hW]; exact (Blk.new _ _ _).alloc
  have R0 : Hid (Blk X (w.heap.size + 1) #[.int .i64 0, .float .f32 0, .float .f32 0, .float .f32 0, .float .f32 0, .slice Option.none 0 0, .int .i64 0, .complex .f32 0 0, .float .f32 0, .slice Option.none 0 0, .int .i64 0, .slice Option.none 0 0] 34) := by rw [← hW]; exact Blk.newAt (by simp)
  have I0 : Hid (ShoIn X s a b l) := by rw [← hW]; exact HR.out.alloc.alloc
  have G0 : Hid (Below w.heap.size w X) := by rw [← hW]; show Below w.heap.size w _; (repeat' (first | (with_reducible exact Below.refl _ _) | (with_reducible assumption) | (with_reducible refine Below.alloc ?_ ?_ _) | (with_reducible refine Below.drew ?_) | (with_reducible refine Below.setCell ?_ ?_ _) | (with_reducible refine Below.trans ?_ (Below.mono (by assumption) ?_)) | (with_reducible exact Nat.le_refl _) | omega | (simp only [World.size_alloc, World.size_setCell, World.size_drew]; omega) | (simp; omega) | (simp; done)))
  have sX : w.heap.size + 2 ≤ X.heap.size := by rw [← hW]; simp
  have hXz : X.heap.size = w.heap.size + 1 + 1 := by rw [← hW]; simp
  rw [hW] at hgrow
  clear hW HR
  have hXs : w.heap.size + 1 + 1 = X.heap.size := by rw [hXz]
  rw [hXs] at hown hgrow
  have hb : Below X.heap.size X w1 := ((Below.refl X.heap.size X).alloc (Nat.le_refl _) (.cells #[] 36)).trans (below_of_grown hgrow (Nat.le_refl _) (by simp))
  have M1 : Hid (Blk w1 w.heap.size #[.int .i64 s.size, .float .f32 s.step, .float .f32 s.lit.r, .float .f32 s.lit.g, .float .f32 s.lit.b, .slice a N ca, .int .i64 s.kind, .complex .f32 s.g1 s.g2, .float .f32 0, .slice b M cb, .int .i64 s.ticks, .slice l K cl] 34) := M0.out.below hb
  have R1 : Hid (Blk w1 (w.heap.size + 1) #[.int .i64 0, .float .f32 0, .float .f32 0, .float .f32 0, .float .f32 0, .slice Option.none 0 0, .int .i64 0, .complex .f32 0 0, .float .f32 0, .slice Option.none 0 0, .int .i64 0, .slice Option.none 0 0] 34) := R0.out.below hb
  have I1 : Hid (ShoIn w1 s a b l) := I0.out.below hb
  have O1 : Hid (w1.ownsRow X.heap.size 36 7 (.slice a1 N c1) N (shCells s.shs)) := hown
  have G1 : Hid (Below w.heap.size w w1) := G0.out.trans (hb.mono (by omega))
  have s1 := hb.size
  clear hb hown hgrow M0 R0 I0 G0 C1 hXz
  (obtain ⟨p0, p1, p2, p3, p4, p5, p6, p7, p8, p9, p10, p11⟩ := blk12 (M1.out))
  have f5 := M1.out.free 5
  have l0 := M1.out.lt
  have l1 := R1.out.lt
  have M2 : Hid (Blk (w1.setCell ⟨w.heap.size, 5, Option.none⟩ (.slice a1 N c1)) w.heap.size #[.int .i64 s.size, .float .f32 s.step, .float .f32 s.lit.r, .float .f32 s.lit.g, .float .f32 s.lit.b, .slice a1 N c1, .int .i64 s.kind, .complex .f32 s.g1 s.g2, .float .f32 0, .slice b M cb, .int .i64 s.ticks, .slice l K cl] 34) := Blk.setAt rfl M1.out rfl
  have R2 : Hid (Blk (w1.setCell ⟨w.heap.size, 5, Option.none⟩ (.slice a1 N c1)) (w.heap.size + 1) #[.int .i64 0, .float .f32 0, .float .f32 0, .float .f32 0, .float .f32 0, .slice Option.none 0 0, .int .i64 0, .complex .f32 0 0, .float .f32 0, .slice Option.none 0 0, .int .i64 0, .slice Option.none 0 0] 34) := R1.out.other (by dsimp only; omega)
  have I2 : Hid (ShoIn (w1.setCell ⟨w.heap.size, 5, Option.none⟩ (.slice a1 N c1)) s a b l) := I1.out.setR p1
  have O2 : Hid ((w1.setCell ⟨w.heap.size, 5, Option.none⟩ (.slice a1 N c1)).ownsRow X.heap.size 36 7 (.slice a1 N c1) N (shCells s.shs)) := owns_set O1.out (by dsimp only; omega)
  have G2 : Hid (Below w.heap.size w (w1.setCell ⟨w.heap.size, 5, Option.none⟩ (.slice a1 N c1))) := G1.out.setCell (by dsimp only; omega) _
  have s2 : X.heap.size ≤ (w1.setCell ⟨w.heap.size, 5, Option.none⟩ (.slice a1 N c1)).heap.size := by simp; omega
  clear M1 R1 I1 O1 G1
  go_wp2_with fail
  have HB2 := bwIn_of_lies I2.out.bd
  generalize w1.setCell ⟨w.heap.size, 5, Option.none⟩ (.slice a1 N c1) = Y at *
  clear p0 p1 p2 p3 p4 p5 p6 p7 p8 p9 p10 p11 f5 l0 l1
  refine (C2.call _ _ _ HB2).mono ?_
  rintro e w3 ⟨b3, c3, ⟨rfl, hown, hb⟩⟩
  have M3 : Hid (Blk w3 w.heap.size #[.int .i64 s.size, .float .f32 s.step, .float .f32 s.lit.r, .float .f32 s.lit.g, .float .f32 s.lit.b, .slice a1 N c1, .int .i64 s.kind, .complex .f32 s.g1 s.g2, .float .f32 0, .slice b M cb, .int .i64 s.ticks, .slice l K cl] 34) := M2.out.below hb
  have R3 : Hid (Blk w3 (w.heap.size + 1) #[.int .i64 0, .float .f32 0, .float .f32 0, .float .f32 0, .float .f32 0, .slice Option.none 0 0, .int .i64 0, .complex .f32 0 0, .float .f32 0, .slice Option.none 0 0, .int .i64 0, .slice Option.none 0 0] 34) := R2.out.below hb
  have I3 : Hid (ShoIn w3 s a b l) := I2.out.below hb
  have O3 : Hid (w3.ownsRow X.heap.size 36 7 (.slice a1 N c1) N (shCells s.shs)) := ownsBelow hb O2.out
  have Q3 : Hid (w3.ownsRow X.heap.size 74 2 (.slice b3 M c3) M (bwCells s.bds)) := owns_less hown s2
  have G3 : Hid (Below w.heap.size w w3) := G2.out.trans (hb.mono (by omega))
  have s3 := hb.size
  clear hb hown M2 R2 I2 O2 G2 C2 HB2
  (obtain ⟨p0, p1, p2, p3, p4, p5, p6, p7, p8, p9, p10, p11⟩ := blk12 (M3.out))
  have f6 := M3.out.free 6
  have f7 := M3.out.free 7
  have f8 := M3.out.free 8
  have f9 := M3.out.free 9
  have l0 := M3.out.lt
  have l1 := R3.out.lt
  have M4 : Hid (Blk ((((w3.setCell ⟨w.heap.size, 6, Option.none⟩ (.int .i64 s.kind)).setCell ⟨w.heap.size, 7, Option.none⟩ (.complex .f32 s.g1 s.g2)).setCell ⟨w.heap.size, 8, Option.none⟩ (.float .f32 0)).setCell ⟨w.heap.size, 9, Option.none⟩ (.slice b3 M c3)) w.heap.size #[.int .i64 s.size, .float .f32 s.step, .float .f32 s.lit.r, .float .f32 s.lit.g, .float .f32 s.lit.b, .slice a1 N c1, .int .i64 s.kind, .complex .f32 s.g1 s.g2, .float .f32 0, .slice b3 M c3, .int .i64 s.ticks, .slice l K cl] 34) := Blk.setAt rfl (Blk.setAt rfl (Blk.setAt rfl (Blk.setAt rfl M3.out rfl) rfl) rfl) rfl
  have R4 : Hid (Blk ((((w3.setCell ⟨w.heap.size, 6, Option.none⟩ (.int .i64 s.kind)).setCell ⟨w.heap.size, 7, Option.none⟩ (.complex .f32 s.g1 s.g2)).setCell ⟨w.heap.size, 8, Option.none⟩ (.float .f32 0)).setCell ⟨w.heap.size, 9, Option.none⟩ (.slice b3 M c3)) (w.heap.size + 1) #[.int .i64 0, .float .f32 0, .float .f32 0, .float .f32 0, .float .f32 0, .slice Option.none 0 0, .int .i64 0, .complex .f32 0 0, .float .f32 0, .slice Option.none 0 0, .int .i64 0, .slice Option.none 0 0] 34) := (((R3.out.other (by dsimp only; omega)).other (by dsimp only; omega)).other (by dsimp only; omega)).other (by dsimp only; omega)
  have I4 : Hid (ShoIn ((((w3.setCell ⟨w.heap.size, 6, Option.none⟩ (.int .i64 s.kind)).setCell ⟨w.heap.size, 7, Option.none⟩ (.complex .f32 s.g1 s.g2)).setCell ⟨w.heap.size, 8, Option.none⟩ (.float .f32 0)).setCell ⟨w.heap.size, 9, Option.none⟩ (.slice b3 M c3)) s a b l) := I3.out.grownAt grown_set4' p1
  have O4 : Hid (((((w3.setCell ⟨w.heap.size, 6, Option.none⟩ (.int .i64 s.kind)).setCell ⟨w.heap.size, 7, Option.none⟩ (.complex .f32 s.g1 s.g2)).setCell ⟨w.heap.size, 8, Option.none⟩ (.float .f32 0)).setCell ⟨w.heap.size, 9, Option.none⟩ (.slice b3 M c3)).ownsRow X.heap.size 36 7 (.slice a1 N c1) N (shCells s.shs)) := owns_set (owns_set (owns_set (owns_set O3.out (by dsimp only; omega)) (by dsimp only; omega)) (by dsimp only; omega)) (by dsimp only; omega)
  have Q4 : Hid (((((w3.setCell ⟨w.heap.size, 6, Option.none⟩ (.int .i64 s.kind)).setCell ⟨w.heap.size, 7, Option.none⟩ (.complex .f32 s.g1 s.g2)).setCell ⟨w.heap.size, 8, Option.none⟩ (.float .f32 0)).setCell ⟨w.heap.size, 9, Option.none⟩ (.slice b3 M c3)).ownsRow X.heap.size 74 2 (.slice b3 M c3) M (bwCells s.bds)) := owns_set (owns_set (owns_set (owns_set Q3.out (by dsimp only; omega)) (by dsimp only; omega)) (by dsimp only; omega)) (by dsimp only; omega)
  have G4 : Hid (Below w.heap.size w ((((w3.setCell ⟨w.heap.size, 6, Option.none⟩ (.int .i64 s.kind)).setCell ⟨w.heap.size, 7, Option.none⟩ (.complex .f32 s.g1 s.g2)).setCell ⟨w.heap.size, 8, Option.none⟩ (.float .f32 0)).setCell ⟨w.heap.size, 9, Option.none⟩ (.slice b3 M c3))) := (((G3.out.setCell (by dsimp only; omega) _).setCell (by dsimp only; omega) _).setCell (by dsimp only; omega) _).setCell (by dsimp only; omega) _
  have s4 : Y.heap.size ≤ ((((w3.setCell ⟨w.heap.size, 6, Option.none⟩ (.int .i64 s.kind)).setCell ⟨w.heap.size, 7, Option.none⟩ (.complex .f32 s.g1 s.g2)).setCell ⟨w.heap.size, 8, Option.none⟩ (.float .f32 0)).setCell ⟨w.heap.size, 9, Option.none⟩ (.slice b3 M c3)).heap.size := by simp; omega
  clear M3 R3 I3 O3 Q3 G3
  have IZ : ShoIn (((((w3.setCell ⟨w.heap.size, 6, Option.none⟩ (.int .i64 s.kind)).setCell ⟨w.heap.size, 7, Option.none⟩ (.complex .f32 s.g1 s.g2)).setCell ⟨w.heap.size, 8, Option.none⟩ (.float .f32 0)).setCell ⟨w.heap.size, 9, Option.none⟩ (.slice b3 M c3)).alloc (.cells #[] 38)) s a b l := I4.out.alloc
  have WZ : (((((w3.setCell ⟨w.heap.size, 6, Option.none⟩ (.int .i64 s.kind)).setCell ⟨w.heap.size, 7, Option.none⟩ (.complex .f32 s.g1 s.g2)).setCell ⟨w.heap.size, 8, Option.none⟩ (.float .f32 0)).setCell ⟨w.heap.size, 9, Option.none⟩ (.slice b3 M c3)).alloc (.cells #[] 38)).ownsRow w3.heap.size 38 13 (.slice (some ⟨w3.heap.size, 0, Option.none⟩) 0 0) 0 [] := by
    have h := World.ownsRow_lit ((((w3.setCell ⟨w.heap.size, 6, Option.none⟩ (.int .i64 s.kind)).setCell ⟨w.heap.size, 7, Option.none⟩ (.complex .f32 s.g1 s.g2)).setCell ⟨w.heap.size, 8, Option.none⟩ (.float .f32 0)).setCell ⟨w.heap.size, 9, Option.none⟩ (.slice b3 M c3)) (e := 38) (size := 13) (base := w3.heap.size) #[] 0 (by simp) (by unfold maxLen; omega) rfl
    simpa using h
  go_wp2_with (at_builtin; go_loud (refine wpList_append_z rfl _ _ 32 rfl w3.heap.size 38 j0 (.agg #[.int .i64 0, .int .i64 0, .complex .f32 0 0, .complex .f32 0 0, .complex .f32 0 0, .complex .f32 0 0, .float .f32 0, .float .f32 0, .float .f32 0, .float .f32 0, .float .f32 0, .float .f32 0, .float .f32 0]) 13 80 Tryz.underlying32 hj hy0 hy1 hy2 rfl (by decide) _ 0 [] rfl WZ l K cl (evCells s.log) rfl C3.out.1 IZ.lg (ev_one _) (by have := C3.out.2; unfold maxLen; omega) (by have := C3.out.2; omega) (by simp) ?_))
  intro l5 c5 w5 hown hgrow
  clear IZ WZ
  have hZ3 : ((((w3.setCell ⟨w.heap.size, 6, Option.none⟩ (.int .i64 s.kind)).setCell ⟨w.heap.size, 7, Option.none⟩ (.complex .f32 s.g1 s.g2)).setCell ⟨w.heap.size, 8, Option.none⟩ (.float .f32 0)).setCell ⟨w.heap.size, 9, Option.none⟩ (.slice b3 M c3)).heap.size = w3.heap.size := by simp
  clear p0 p1 p2 p3 p4 p5 p6 p7 p8 p9 p10 p11 f6 f7 f8 f9 l0 l1
  rw [← hZ3] at hown hgrow
  clear hZ3
  generalize (((w3.setCell ⟨w.heap.size, 6, Option.none⟩ (.int .i64 s.kind)).setCell ⟨w.heap.size, 7, Option.none⟩ (.complex .f32 s.g1 s.g2)).setCell ⟨w.heap.size, 8, Option.none⟩ (.float .f32 0)).setCell ⟨w.heap.size, 9, Option.none⟩ (.slice b3 M c3) = Z at *
  have hb : Below Z.heap.size Z w5 := ((Below.refl Z.heap.size Z).alloc (Nat.le_refl _) (.cells #[] 38)).trans (below_of_grown hgrow (Nat.le_refl _) (by simp))
  have M5 : Hid (Blk w5 w.heap.size #[.int .i64 s.size, .float .f32 s.step, .float .f32 s.lit.r, .float .f32 s.lit.g, .float .f32 s.lit.b, .slice a1 N c1, .int .i64 s.kind, .complex .f32 s.g1 s.g2, .float .f32 0, .slice b3 M c3, .int .i64 s.ticks, .slice l K cl] 34) := M4.out.below hb
  have R5 : Hid (Blk w5 (w.heap.size + 1) #[.int .i64 0, .float .f32 0, .float .f32 0, .float .f32 0, .float .f32 0, .slice Option.none 0 0, .int .i64 0, .complex .f32 0 0, .float .f32 0, .slice Option.none 0 0, .int .i64 0, .slice Option.none 0 0] 34) := R4.out.below hb
  have O5 : Hid (w5.ownsRow X.heap.size 36 7 (.slice a1 N c1) N (shCells s.shs)) := ownsBelow hb O4.out
  have Q5 : Hid (w5.ownsRow X.heap.size 74 2 (.slice b3 M c3) M (bwCells s.bds)) := ownsBelow hb Q4.out
  have P5 : Hid (w5.ownsRow X.heap.size 38 13 (.slice l5 K c5) K (evCells s.log)) := owns_less hown (by omega)
  have G5 : Hid (Below w.heap.size w w5) := G4.out.trans (hb.mono (by omega))
  have s5 := hb.size
  clear hb hown hgrow M4 R4 I4 O4 Q4 G4 C3
  (obtain ⟨p0, p1, p2, p3, p4, p5, p6, p7, p8, p9, p10, p11⟩ := blk12 (M5.out))
  (obtain ⟨r0, r1, r2, r3, r4, r5, r6, r7, r8, r9, r10, r11⟩ := blk12 (R5.out))
  have f11 := M5.out.free 11
  (have h0 := R5.out.free 0; have h1 := R5.out.free 1; have h2 := R5.out.free 2; have h3 := R5.out.free 3; have h4 := R5.out.free 4; have h5 := R5.out.free 5; have h6 := R5.out.free 6; have h7 := R5.out.free 7; have h8 := R5.out.free 8; have h9 := R5.out.free 9; have h10 := R5.out.free 10; have h11 := R5.out.free 11)
  have l0 := M5.out.lt
  have l1 := R5.out.lt
  have R6 : Blk (w5.setCell ⟨w.heap.size, 11, Option.none⟩ (.slice l5 K c5)) (w.heap.size + 1) #[.int .i64 0, .float .f32 0, .float .f32 0, .float .f32 0, .float .f32 0, .slice Option.none 0 0, .int .i64 0, .complex .f32 0 0, .float .f32 0, .slice Option.none 0 0, .int .i64 0, .slice Option.none 0 0] 34 := R5.out.other (by dsimp only; omega)
  (have RS := (((((((((((R6.set (i := 0) (v := .int .i64 s.size)).set (i := 1) (v := .float .f32 s.step)).set (i := 2) (v := .float .f32 s.lit.r)).set (i := 3) (v := .float .f32 s.lit.g)).set (i := 4) (v := .float .f32 s.lit.b)).set (i := 5) (v := .slice a1 N c1)).set (i := 6) (v := .int .i64 s.kind)).set (i := 7) (v := .complex .f32 s.g1 s.g2)).set (i := 8) (v := .float .f32 0)).set (i := 9) (v := .slice b3 M c3)).set (i := 10) (v := .int .i64 s.ticks)).set (i := 11) (v := .slice l5 K c5); have e0 := RS.cell 0; have e1 := RS.cell 1; have e2 := RS.cell 2; have e3 := RS.cell 3; have e4 := RS.cell 4; have e5 := RS.cell 5; have e6 := RS.cell 6; have e7 := RS.cell 7; have e8 := RS.cell 8; have e9 := RS.cell 9; have e10 := RS.cell 10; have e11 := RS.cell 11; simp only [List.setIfInBounds_toArray, List.set_cons_zero, List.set_cons_succ, List.getElem?_toArray, List.getElem?_cons_zero, List.getElem?_cons_succ] at e0 e1 e2 e3 e4 e5 e6 e7 e8 e9 e10 e11)
  clear R6
  (have E0 := Lib.hid e0; have E1 := Lib.hid e1; have E2 := Lib.hid e2; have E3 := Lib.hid e3; have E4 := Lib.hid e4; have E5 := Lib.hid e5; have E6 := Lib.hid e6; have E7 := Lib.hid e7; have E8 := Lib.hid e8; have E9 := Lib.hid e9; have E10 := Lib.hid e10; have E11 := Lib.hid e11; clear RS e0 e1 e2 e3 e4 e5 e6 e7 e8 e9 e10 e11)
  go_wp2_with fail
  (have e0 := E0.out; have e1 := E1.out; have e2 := E2.out; have e3 := E3.out; have e4 := E4.out; have e5 := E5.out; have e6 := E6.out; have e7 := E7.out; have e8 := E8.out; have e9 := E9.out; have e10 := E10.out; have e11 := E11.out)
  refine bodyPost_ret (v := .agg #[.int .i64 s.size, .float .f32 s.step, .float .f32 s.lit.r, .float .f32 s.lit.g, .float .f32 s.lit.b, .slice a1 N c1, .int .i64 s.kind, .complex .f32 s.g1 s.g2, .float .f32 0, .slice b3 M c3, .int .i64 s.ticks, .slice l5 K c5]) (by simp [results, Tryz.results68, go_sem, e0, e1, e2, e3, e4, e5, e6, e7, e8, e9, e10, e11]) rfl ⟨a1, b3, l5, c1, c3, c5, ⟨rfl, ⟨?_, ?_, ?_⟩, ?_⟩⟩
  · refine owns_less (C := w.heap.size) (B := X.heap.size) ?_ (by omega)
    iterate 13 (refine owns_set ?_ (by dsimp only; omega))
    exact O5.out
  · refine owns_less (C := w.heap.size) (B := X.heap.size) ?_ (by omega)
    iterate 13 (refine owns_set ?_ (by dsimp only; omega))
    exact Q5.out
  · refine owns_less (C := w.heap.size) (B := X.heap.size) ?_ (by omega)
    iterate 13 (refine owns_set ?_ (by dsimp only; omega))
    exact P5.out
  · iterate 13 (refine Below.setCell ?_ (by dsimp only; omega) _)
    exact G5.out⟩
end Go.Proofs.YtfdgijmmgllmgaaGreatDoor
