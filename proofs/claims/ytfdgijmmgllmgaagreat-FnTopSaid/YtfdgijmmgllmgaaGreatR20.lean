/-
  Texts Uc, joined.
-/
import Derived.Test.YtfdgijmmgllmgaaGreatR14
import Derived.Test.YtfdgijmmgllmgaaGreatR09
import Derived.WalkSpells
namespace Go.Proofs.YtfdgijmmgllmgaaGreat
open Go.ChangeShapes Go.WideShapes Go.ChangeAt Go.RowKit Go.Joins
set_option linter.unusedSimpArgs false
set_option linter.unusedVariables false
set_option maxRecDepth 100000
attribute [local go_sem] store_f
open Ieee Go.Lib
attribute [local go_sem] store_c
structure CopL (B : Nat) (w : World) (e : Ending) (w' : World) (T : TypeId) (sz : Nat) (xs : List Value) (N : Nat) (a : Option Addr) (c : Nat) : Prop where
  ret : e = .returned (.slice a N c)
  own : w'.ownsRow B T sz (.slice a N c) N xs
  below : Below w.heap.size w w'
structure CloneL (F : FuncId) (T : TypeId) (sz : Nat) (xs : List Value) (N : Nat) : Prop where
  call : ∀ (w : World) (a : Option Addr) (cap : Nat), LiesZ w a xs → Calls Tryz.prog F #[.slice a N cap] w fun e w' => ∃ a' c', CopL w.heap.size w e w' T sz xs N a' c'
theorem sh_one (l : List Shd) : ∀ u ∈ shCells l, u.oneCell' = true := fun u hu => by
  simp only [shCells, List.mem_flatMap, Shd.cells] at hu
  obtain ⟨b, _, hu⟩ := hu
  simp at hu
  rcases hu with rfl | rfl | rfl | rfl | rfl | rfl | rfl <;> rfl
theorem bw_one (l : List Bw) : ∀ u ∈ bwCells l, u.oneCell' = true := fun u hu => by
  simp only [bwCells, List.mem_flatMap, Bw.cells] at hu
  obtain ⟨b, _, hu⟩ := hu
  simp at hu
  rcases hu with rfl | rfl <;> rfl
theorem ev_one (l : List Evw) : ∀ u ∈ evCells l, u.oneCell' = true := fun u hu => by
  simp only [evCells, List.mem_flatMap, Evw.cells] at hu
  obtain ⟨b, _, hu⟩ := hu
  simp at hu
  rcases hu with rfl | rfl | rfl | rfl | rfl | rfl | rfl | rfl | rfl | rfl | rfl | rfl | rfl <;> rfl
set_option maxHeartbeats 8000000 in
theorem cloneShd {xs : List Value} {N : Nat} (hx : xs.length = N * 7) (h1 : ∀ u ∈ xs, u.oneCell' = true) (hn : N ≤ 64) : CloneL 66 36 7 xs N := ⟨fun w a cap hr => by
  obtain ⟨i0, hi, hz0, hz1, hz2⟩ := info_parts infoShd
  cases a with
  | none =>
    have hL : xs = [] := by
      rcases hr with h | ⟨g, e, _⟩
      · exact h
      · cases e
    subst hL
    obtain rfl : N = 0 := by simp at hx; omega
    clear hr h1
    have hnil := fun (W : World) => Lib.run_eql_slice_nil (P := Tryz.prog) W 27 36 Option.none 0 cap 0 0 Tryz.underlying27
    show Calls _ _ #[.slice Option.none 0 cap] _ _
    go_enter Tryz.func66, Tryz.ntmps66
    go_wp2
    go_ret
    exact ⟨Option.none, 0, ⟨rfl, World.ownsRow_nil _ _ _ _, Below.refl _ _⟩⟩
  | some ad =>
    have hnil := fun (W : World) => Lib.run_eql_slice_nil (P := Tryz.prog) W 27 36 (some ad) N cap 0 0 Tryz.underlying27
    have HN : Hid (∀ (o : Obj) j u, xs[j]? = some u → (w.alloc o).cell? (ad.add j) = some u) := by
      rcases hr with h | ⟨g, e, h⟩
      · subst h
        intro o j u hj
        simp at hj
      · cases e
        intro o j u hj
        rw [Go.WideShapes.add_plain]
        exact cAlloc (h j u hj)
    have HX := Lib.hid hx
    have H1 := Lib.hid h1
    clear hr hx h1
    go_enter Tryz.func66, Tryz.ntmps66
    go_wp2_with (at_builtin; go_loud (refine wpList_append_own _ rfl _ _ 27 rfl w.heap.size 36 i0 (.agg #[.complex .f32 0 0, .complex .f32 0 0, .complex .f32 0 0, .float .f32 0, .float .f32 0, .float .f32 0, .float .f32 0]) 7 40 Tryz.underlying27 hi hz0 hz1 hz2 rfl (by decide) _ 0 [] rfl ?_ ad N cap xs rfl ?_ ?_ ?_ ?_ ?_ ?_ ?_))
    · exact World.ownsRow_lit _ #[] 0 (by simp) (by unfold maxLen; omega) rfl
    · exact HX.out
    · intro j u hj
      exact HN.out _ j u hj
    · exact H1.out
    · unfold maxLen; omega
    · omega
    · first | omega | (simp only [World.size_alloc, World.size_setCell, World.size_drew]; omega)
    intro v' w2 hown' hgrow hvn
    have HB2 : Hid (Below w.heap.size w w2) := Below.grown (by (repeat' (first | (with_reducible exact Below.refl _ _) | (with_reducible assumption) | (with_reducible refine Below.alloc ?_ ?_ _) | (with_reducible refine Below.drew ?_) | (with_reducible refine Below.setCell ?_ ?_ _) | (with_reducible refine Below.trans ?_ (Below.mono (by assumption) ?_)) | (with_reducible exact Nat.le_refl _) | omega | (simp only [World.size_alloc, World.size_setCell, World.size_drew]; omega) | (simp; omega) | (simp; done)))) hgrow (by simp) (fun q hq => by cases hq; simp)
    try simp only [Nat.zero_add, List.nil_append] at hown'
    have HO : Hid (w2.ownsRow w.heap.size 36 7 v' N xs) := hown'
    clear hown' hgrow hvn
    rcases ownsRow_forms HO.out with ⟨rfl, h0⟩ | ⟨g, c', rfl⟩
    · go_wp2
      go_ret
      subst h0
      exact ⟨_, _, ⟨rfl, HO.out, HB2.out⟩⟩
    · go_wp2
      go_ret
      exact ⟨_, _, ⟨rfl, HO.out, HB2.out⟩⟩⟩
set_option maxHeartbeats 8000000 in
theorem cloneEv {xs : List Value} {N : Nat} (hx : xs.length = N * 13) (h1 : ∀ u ∈ xs, u.oneCell' = true) (hn : N ≤ 64) : CloneL 68 38 13 xs N := ⟨fun w a cap hr => by
  obtain ⟨i0, hi, hz0, hz1, hz2⟩ := info_parts infoEv
  cases a with
  | none =>
    have hL : xs = [] := by
      rcases hr with h | ⟨g, e, _⟩
      · exact h
      · cases e
    subst hL
    obtain rfl : N = 0 := by simp at hx; omega
    clear hr h1
    have hnil := fun (W : World) => Lib.run_eql_slice_nil (P := Tryz.prog) W 32 38 Option.none 0 cap 0 0 Tryz.underlying32
    show Calls _ _ #[.slice Option.none 0 cap] _ _
    go_enter Tryz.func68, Tryz.ntmps68
    go_wp2
    go_ret
    exact ⟨Option.none, 0, ⟨rfl, World.ownsRow_nil _ _ _ _, Below.refl _ _⟩⟩
  | some ad =>
    have hnil := fun (W : World) => Lib.run_eql_slice_nil (P := Tryz.prog) W 32 38 (some ad) N cap 0 0 Tryz.underlying32
    have HN : Hid (∀ (o : Obj) j u, xs[j]? = some u → (w.alloc o).cell? (ad.add j) = some u) := by
      rcases hr with h | ⟨g, e, h⟩
      · subst h
        intro o j u hj
        simp at hj
      · cases e
        intro o j u hj
        rw [Go.WideShapes.add_plain]
        exact cAlloc (h j u hj)
    have HX := Lib.hid hx
    have H1 := Lib.hid h1
    clear hr hx h1
    go_enter Tryz.func68, Tryz.ntmps68
    go_wp2_with (at_builtin; go_loud (refine wpList_append_own _ rfl _ _ 32 rfl w.heap.size 38 i0 (.agg #[.int .i64 0, .int .i64 0, .complex .f32 0 0, .complex .f32 0 0, .complex .f32 0 0, .complex .f32 0 0, .float .f32 0, .float .f32 0, .float .f32 0, .float .f32 0, .float .f32 0, .float .f32 0, .float .f32 0]) 13 80 Tryz.underlying32 hi hz0 hz1 hz2 rfl (by decide) _ 0 [] rfl ?_ ad N cap xs rfl ?_ ?_ ?_ ?_ ?_ ?_ ?_))
    · exact World.ownsRow_lit _ #[] 0 (by simp) (by unfold maxLen; omega) rfl
    · exact HX.out
    · intro j u hj
      exact HN.out _ j u hj
    · exact H1.out
    · unfold maxLen; omega
    · omega
    · first | omega | (simp only [World.size_alloc, World.size_setCell, World.size_drew]; omega)
    intro v' w2 hown' hgrow hvn
    have HB2 : Hid (Below w.heap.size w w2) := Below.grown (by (repeat' (first | (with_reducible exact Below.refl _ _) | (with_reducible assumption) | (with_reducible refine Below.alloc ?_ ?_ _) | (with_reducible refine Below.drew ?_) | (with_reducible refine Below.setCell ?_ ?_ _) | (with_reducible refine Below.trans ?_ (Below.mono (by assumption) ?_)) | (with_reducible exact Nat.le_refl _) | omega | (simp only [World.size_alloc, World.size_setCell, World.size_drew]; omega) | (simp; omega) | (simp; done)))) hgrow (by simp) (fun q hq => by cases hq; simp)
    try simp only [Nat.zero_add, List.nil_append] at hown'
    have HO : Hid (w2.ownsRow w.heap.size 38 13 v' N xs) := hown'
    clear hown' hgrow hvn
    rcases ownsRow_forms HO.out with ⟨rfl, h0⟩ | ⟨g, c', rfl⟩
    · go_wp2
      go_ret
      subst h0
      exact ⟨_, _, ⟨rfl, HO.out, HB2.out⟩⟩
    · go_wp2
      go_ret
      exact ⟨_, _, ⟨rfl, HO.out, HB2.out⟩⟩⟩
structure ShoCop (B : Nat) (w : World) (e : Ending) (w' : World) (s : Sho) (N M K : Nat) (a b l : Option Addr) (ca cb cl : Nat) : Prop where
  ret : e = .returned (.agg #[.int .i64 s.size, .float .f32 s.step, .float .f32 s.lit.r, .float .f32 s.lit.g, .float .f32 s.lit.b, .slice a N ca, .int .i64 s.kind, .complex .f32 s.g1 s.g2, .float .f32 0, .slice b M cb, .int .i64 s.ticks, .slice l K cl])
  own : ShoOwn w' B s N M K a b l ca cb cl
  below : Below w.heap.size w w'
structure CopyS (F : FuncId) (s : Sho) (N M K : Nat) : Prop where
  call : ∀ (w : World) (a b l : Option Addr) (ca cb cl : Nat), ShoIn w s a b l → Calls Tryz.prog F #[.agg #[.int .i64 s.size, .float .f32 s.step, .float .f32 s.lit.r, .float .f32 s.lit.g, .float .f32 s.lit.b, .slice a N ca, .int .i64 s.kind, .complex .f32 s.g1 s.g2, .float .f32 0, .slice b M cb, .int .i64 s.ticks, .slice l K cl]] w fun e w' => ∃ a' b' l' ca' cb' cl', ShoCop w.heap.size w e w' s N M K a' b' l' ca' cb' cl'
theorem grown_set4' {W : World} {R i j k l : Nat} {u0 u1 u2 u3 : Value} : W.grownBy ((((W.setCell ⟨R, i, Option.none⟩ u0).setCell ⟨R, j, Option.none⟩ u1).setCell ⟨R, k, Option.none⟩ u2).setCell ⟨R, l, Option.none⟩ u3) (some R) :=
  grownBy_set (grownBy_set (grownBy_set (grownBy_set (grownBy_refl _ _))))
theorem ShoIn.setR {W : World} {s : Sho} {a b l : Option Addr} {R x i : Nat} {v : Value} (h : ShoIn W s a b l) (hc : W.cell? ⟨R, 1, Option.none⟩ = some (.float .f32 x)) : ShoIn (W.setCell ⟨R, i, Option.none⟩ v) s a b l :=
  h.grownAt (grownBy_set (grownBy_refl _ _)) hc
structure ShoLen (s : Sho) (N M K : Nat) : Prop where
  n : s.shs.length = N
  m : s.bds.length = M
  k : s.log.length = K
  n12 : N ≤ 12
  m8 : M ≤ 8
  k24 : K ≤ 25
set_option maxHeartbeats 32000000 in
theorem copyOfShow_i {s : Sho} {N M K : Nat} (L : ShoLen s N M K) : CopyS 29 s N M K := ⟨fun w a b l ca cb cl hr => by
  have C1 := cloneShd (xs := shCells s.shs) (N := N) (by rw [shCells_len, L.n]) (sh_one _) (by have := L.n12; omega)
  have C2 := copyT (kind := s.kind) (g1 := s.g1) (g2 := s.g2) (ls := 0) (N := M) (L := s.bds) L.m L.m8
  have C3 := cloneEv (xs := evCells s.log) (N := K) (by rw [evCells_len, L.k]) (ev_one _) (by have := L.k24; omega)
  have HR := Lib.hid hr
  clear hr L
  go_enter Tryz.func29, Tryz.ntmps29
  go_wp2_with fail
  generalize hW : (w.alloc (.cells #[.int .i64 s.size, .float .f32 s.step, .float .f32 s.lit.r, .float .f32 s.lit.g, .float .f32 s.lit.b, .slice a N ca, .int .i64 s.kind, .complex .f32 s.g1 s.g2, .float .f32 0, .slice b M cb, .int .i64 s.ticks, .slice l K cl] 34)).alloc (.cells #[.int .i64 0, .float .f32 0, .float .f32 0, .float .f32 0, .float .f32 0, .slice Option.none 0 0, .int .i64 0, .complex .f32 0 0, .float .f32 0, .slice Option.none 0 0, .int .i64 0, .slice Option.none 0 0] 34) = X
  have M0 : Hid (Blk X w.heap.size #[.int .i64 s.size, .float .f32 s.step, .float .f32 s.lit.r, .float .f32 s.lit.g, .float .f32 s.lit.b, .slice a N ca, .int .i64 s.kind, .complex .f32 s.g1 s.g2, .float .f32 0, .slice b M cb, .int .i64 s.ticks, .slice l K cl] 34) := by rw [← hW]; exact (Blk.new _ _ _).alloc
  have R0 : Hid (Blk X (w.heap.size + 1) #[.int .i64 0, .float .f32 0, .float .f32 0, .float .f32 0, .float .f32 0, .slice Option.none 0 0, .int .i64 0, .complex .f32 0 0, .float .f32 0, .slice Option.none 0 0, .int .i64 0, .slice Option.none 0 0] 34) := by rw [← hW]; exact Blk.newAt (by simp)
  have I0 : Hid (ShoIn X s a b l) := by rw [← hW]; exact HR.out.alloc.alloc
  have G0 : Hid (Below w.heap.size w X) := by rw [← hW]; show Below w.heap.size w _; (repeat' (first | (with_reducible exact Below.refl _ _) | (with_reducible assumption) | (with_reducible refine Below.alloc ?_ ?_ _) | (with_reducible refine Below.drew ?_) | (with_reducible refine Below.setCell ?_ ?_ _) | (with_reducible refine Below.trans ?_ (Below.mono (by assumption) ?_)) | (with_reducible exact Nat.le_refl _) | omega | (simp only [World.size_alloc, World.size_setCell, World.size_drew]; omega) | (simp; omega) | (simp; done)))
  have sX : w.heap.size + 2 ≤ X.heap.size := by rw [← hW]; simp
  clear hW HR
  refine (C1.call _ _ _ I0.out.sh).mono ?_
  rintro e w1 ⟨a1, c1, ⟨rfl, hown, hb⟩⟩
  have M1 : Hid (Blk w1 w.heap.size #[.int .i64 s.size, .float .f32 s.step, .float .f32 s.lit.r, .float .f32 s.lit.g, .float .f32 s.lit.b, .slice a N ca, .int .i64 s.kind, .complex .f32 s.g1 s.g2, .float .f32 0, .slice b M cb, .int .i64 s.ticks, .slice l K cl] 34) := M0.out.below hb
  have R1 : Hid (Blk w1 (w.heap.size + 1) #[.int .i64 0, .float .f32 0, .float .f32 0, .float .f32 0, .float .f32 0, .slice Option.none 0 0, .int .i64 0, .complex .f32 0 0, .float .f32 0, .slice Option.none 0 0, .int .i64 0, .slice Option.none 0 0] 34) := R0.out.below hb
  have I1 : Hid (ShoIn w1 s a b l) := I0.out.below hb
  have O1 : Hid (w1.ownsRow X.heap.size 36 7 (.slice a1 N c1) N (shCells s.shs)) := hown
  have G1 : Hid (Below w.heap.size w w1) := G0.out.trans (hb.mono (by omega))
  have s1 := hb.size
  clear hb hown M0 R0 I0 G0 C1
  (obtain ⟨p0, p1, p2, p3, p4, p5, p6, p7, p8, p9, p10, p11⟩ := blk12 (M1.out))
  have f5 := M1.out.free 5
  have l0 := M1.out.lt
  have l1 := R1.out.lt
  have M2 : Hid (Blk (w1.setCell ⟨w.heap.size, 5, Option.none⟩ (.slice a1 N c1)) w.heap.size #[.int .i64 s.size, .float .f32 s.step, .float .f32 s.lit.r, .float .f32 s.lit.g, .float .f32 s.lit.b, .slice a1 N c1, .int .i64 s.kind, .complex .f32 s.g1 s.g2, .float .f32 0, .slice b M cb, .int .i64 s.ticks, .slice l K cl] 34) := Blk.setAt rfl M1.out rfl
  have R2 : Hid (Blk (w1.setCell ⟨w.heap.size, 5, Option.none⟩ (.slice a1 N c1)) (w.heap.size + 1) #[.int .i64 0, .float .f32 0, .float .f32 0, .float .f32 0, .float .f32 0, .slice Option.none 0 0, .int .i64 0, .complex .f32 0 0, .float .f32 0, .slice Option.none 0 0, .int .i64 0, .slice Option.none 0 0] 34) := R1.out.other (by dsimp only; omega)
  have I2 : Hid (ShoIn (w1.setCell ⟨w.heap.size, 5, Option.none⟩ (.slice a1 N c1)) s a b l) := I1.out.setR p1
  have O2 : Hid ((w1.setCell ⟨w.heap.size, 5, Option.none⟩ (.slice a1 N c1)).ownsRow X.heap.size 36 7 (.slice a1 N c1) N (shCells s.shs)) := owns_set O1.out (by dsimp only; omega)
  have G2 : Hid (Below w.heap.size w (w1.setCell ⟨w.heap.size, 5, Option.none⟩ (.slice a1 N c1))) := G1.out.setCell (by dsimp only; omega) _
  have s2 : X.heap.size ≤ (w1.setCell ⟨w.heap.size, 5, Option.none⟩ (.slice a1 N c1)).heap.size := by simp; omega
  clear M1 R1 I1 O1 G1
  go_wp2_with fail
  have HB2 := bwIn_of_lies I2.out.bd
  generalize w1.setCell ⟨w.heap.size, 5, Option.none⟩ (.slice a1 N c1) = Y at *
  clear p0 p1 p2 p3 p4 p5 p6 p7 p8 p9 p10 p11 f5 l0 l1
  refine (C2.call _ _ _ HB2).mono ?_
  rintro e w3 ⟨b3, c3, ⟨rfl, hown, hb⟩⟩
  have M3 : Hid (Blk w3 w.heap.size #[.int .i64 s.size, .float .f32 s.step, .float .f32 s.lit.r, .float .f32 s.lit.g, .float .f32 s.lit.b, .slice a1 N c1, .int .i64 s.kind, .complex .f32 s.g1 s.g2, .float .f32 0, .slice b M cb, .int .i64 s.ticks, .slice l K cl] 34) := M2.out.below hb
  have R3 : Hid (Blk w3 (w.heap.size + 1) #[.int .i64 0, .float .f32 0, .float .f32 0, .float .f32 0, .float .f32 0, .slice Option.none 0 0, .int .i64 0, .complex .f32 0 0, .float .f32 0, .slice Option.none 0 0, .int .i64 0, .slice Option.none 0 0] 34) := R2.out.below hb
  have I3 : Hid (ShoIn w3 s a b l) := I2.out.below hb
  have O3 : Hid (w3.ownsRow X.heap.size 36 7 (.slice a1 N c1) N (shCells s.shs)) := ownsBelow hb O2.out
  have Q3 : Hid (w3.ownsRow X.heap.size 59 2 (.slice b3 M c3) M (bwCells s.bds)) := owns_less hown s2
  have G3 : Hid (Below w.heap.size w w3) := G2.out.trans (hb.mono (by omega))
  have s3 := hb.size
  clear hb hown M2 R2 I2 O2 G2 C2 HB2
  (obtain ⟨p0, p1, p2, p3, p4, p5, p6, p7, p8, p9, p10, p11⟩ := blk12 (M3.out))
  have f6 := M3.out.free 6
  have f7 := M3.out.free 7
  have f8 := M3.out.free 8
  have f9 := M3.out.free 9
  have l0 := M3.out.lt
  have l1 := R3.out.lt
  have M4 : Hid (Blk ((((w3.setCell ⟨w.heap.size, 6, Option.none⟩ (.int .i64 s.kind)).setCell ⟨w.heap.size, 7, Option.none⟩ (.complex .f32 s.g1 s.g2)).setCell ⟨w.heap.size, 8, Option.none⟩ (.float .f32 0)).setCell ⟨w.heap.size, 9, Option.none⟩ (.slice b3 M c3)) w.heap.size #[.int .i64 s.size, .float .f32 s.step, .float .f32 s.lit.r, .float .f32 s.lit.g, .float .f32 s.lit.b, .slice a1 N c1, .int .i64 s.kind, .complex .f32 s.g1 s.g2, .float .f32 0, .slice b3 M c3, .int .i64 s.ticks, .slice l K cl] 34) := Blk.setAt rfl (Blk.setAt rfl (Blk.setAt rfl (Blk.setAt rfl M3.out rfl) rfl) rfl) rfl
  have R4 : Hid (Blk ((((w3.setCell ⟨w.heap.size, 6, Option.none⟩ (.int .i64 s.kind)).setCell ⟨w.heap.size, 7, Option.none⟩ (.complex .f32 s.g1 s.g2)).setCell ⟨w.heap.size, 8, Option.none⟩ (.float .f32 0)).setCell ⟨w.heap.size, 9, Option.none⟩ (.slice b3 M c3)) (w.heap.size + 1) #[.int .i64 0, .float .f32 0, .float .f32 0, .float .f32 0, .float .f32 0, .slice Option.none 0 0, .int .i64 0, .complex .f32 0 0, .float .f32 0, .slice Option.none 0 0, .int .i64 0, .slice Option.none 0 0] 34) := (((R3.out.other (by dsimp only; omega)).other (by dsimp only; omega)).other (by dsimp only; omega)).other (by dsimp only; omega)
  have I4 : Hid (ShoIn ((((w3.setCell ⟨w.heap.size, 6, Option.none⟩ (.int .i64 s.kind)).setCell ⟨w.heap.size, 7, Option.none⟩ (.complex .f32 s.g1 s.g2)).setCell ⟨w.heap.size, 8, Option.none⟩ (.float .f32 0)).setCell ⟨w.heap.size, 9, Option.none⟩ (.slice b3 M c3)) s a b l) := I3.out.grownAt grown_set4' p1
  have O4 : Hid (((((w3.setCell ⟨w.heap.size, 6, Option.none⟩ (.int .i64 s.kind)).setCell ⟨w.heap.size, 7, Option.none⟩ (.complex .f32 s.g1 s.g2)).setCell ⟨w.heap.size, 8, Option.none⟩ (.float .f32 0)).setCell ⟨w.heap.size, 9, Option.none⟩ (.slice b3 M c3)).ownsRow X.heap.size 36 7 (.slice a1 N c1) N (shCells s.shs)) := owns_set (owns_set (owns_set (owns_set O3.out (by dsimp only; omega)) (by dsimp only; omega)) (by dsimp only; omega)) (by dsimp only; omega)
  have Q4 : Hid (((((w3.setCell ⟨w.heap.size, 6, Option.none⟩ (.int .i64 s.kind)).setCell ⟨w.heap.size, 7, Option.none⟩ (.complex .f32 s.g1 s.g2)).setCell ⟨w.heap.size, 8, Option.none⟩ (.float .f32 0)).setCell ⟨w.heap.size, 9, Option.none⟩ (.slice b3 M c3)).ownsRow X.heap.size 59 2 (.slice b3 M c3) M (bwCells s.bds)) := owns_set (owns_set (owns_set (owns_set Q3.out (by dsimp only; omega)) (by dsimp only; omega)) (by dsimp only; omega)) (by dsimp only; omega)
  have G4 : Hid (Below w.heap.size w ((((w3.setCell ⟨w.heap.size, 6, Option.none⟩ (.int .i64 s.kind)).setCell ⟨w.heap.size, 7, Option.none⟩ (.complex .f32 s.g1 s.g2)).setCell ⟨w.heap.size, 8, Option.none⟩ (.float .f32 0)).setCell ⟨w.heap.size, 9, Option.none⟩ (.slice b3 M c3))) := (((G3.out.setCell (by dsimp only; omega) _).setCell (by dsimp only; omega) _).setCell (by dsimp only; omega) _).setCell (by dsimp only; omega) _
  have s4 : Y.heap.size ≤ ((((w3.setCell ⟨w.heap.size, 6, Option.none⟩ (.int .i64 s.kind)).setCell ⟨w.heap.size, 7, Option.none⟩ (.complex .f32 s.g1 s.g2)).setCell ⟨w.heap.size, 8, Option.none⟩ (.float .f32 0)).setCell ⟨w.heap.size, 9, Option.none⟩ (.slice b3 M c3)).heap.size := by simp; omega
  clear M3 R3 I3 O3 Q3 G3
  go_wp2_with fail
  generalize (((w3.setCell ⟨w.heap.size, 6, Option.none⟩ (.int .i64 s.kind)).setCell ⟨w.heap.size, 7, Option.none⟩ (.complex .f32 s.g1 s.g2)).setCell ⟨w.heap.size, 8, Option.none⟩ (.float .f32 0)).setCell ⟨w.heap.size, 9, Option.none⟩ (.slice b3 M c3) = Z at *
  clear p0 p1 p2 p3 p4 p5 p6 p7 p8 p9 p10 p11 f6 f7 f8 f9 l0 l1
  refine (C3.call _ _ _ I4.out.lg).mono ?_
  rintro e w5 ⟨l5, c5, ⟨rfl, hown, hb⟩⟩
  have M5 : Hid (Blk w5 w.heap.size #[.int .i64 s.size, .float .f32 s.step, .float .f32 s.lit.r, .float .f32 s.lit.g, .float .f32 s.lit.b, .slice a1 N c1, .int .i64 s.kind, .complex .f32 s.g1 s.g2, .float .f32 0, .slice b3 M c3, .int .i64 s.ticks, .slice l K cl] 34) := M4.out.below hb
  have R5 : Hid (Blk w5 (w.heap.size + 1) #[.int .i64 0, .float .f32 0, .float .f32 0, .float .f32 0, .float .f32 0, .slice Option.none 0 0, .int .i64 0, .complex .f32 0 0, .float .f32 0, .slice Option.none 0 0, .int .i64 0, .slice Option.none 0 0] 34) := R4.out.below hb
  have O5 : Hid (w5.ownsRow X.heap.size 36 7 (.slice a1 N c1) N (shCells s.shs)) := ownsBelow hb O4.out
  have Q5 : Hid (w5.ownsRow X.heap.size 59 2 (.slice b3 M c3) M (bwCells s.bds)) := ownsBelow hb Q4.out
  have P5 : Hid (w5.ownsRow X.heap.size 38 13 (.slice l5 K c5) K (evCells s.log)) := owns_less hown (by omega)
  have G5 : Hid (Below w.heap.size w w5) := G4.out.trans (hb.mono (by omega))
  have s5 := hb.size
  clear hb hown M4 R4 I4 O4 Q4 G4 C3
  (obtain ⟨p0, p1, p2, p3, p4, p5, p6, p7, p8, p9, p10, p11⟩ := blk12 (M5.out))
  (obtain ⟨r0, r1, r2, r3, r4, r5, r6, r7, r8, r9, r10, r11⟩ := blk12 (R5.out))
  have f11 := M5.out.free 11
  (have h0 := R5.out.free 0; have h1 := R5.out.free 1; have h2 := R5.out.free 2; have h3 := R5.out.free 3; have h4 := R5.out.free 4; have h5 := R5.out.free 5; have h6 := R5.out.free 6; have h7 := R5.out.free 7; have h8 := R5.out.free 8; have h9 := R5.out.free 9; have h10 := R5.out.free 10; have h11 := R5.out.free 11)
  have l0 := M5.out.lt
  have l1 := R5.out.lt
  have R6 : Blk (w5.setCell ⟨w.heap.size, 11, Option.none⟩ (.slice l5 K c5)) (w.heap.size + 1) #[.int .i64 0, .float .f32 0, .float .f32 0, .float .f32 0, .float .f32 0, .slice Option.none 0 0, .int .i64 0, .complex .f32 0 0, .float .f32 0, .slice Option.none 0 0, .int .i64 0, .slice Option.none 0 0] 34 := R5.out.other (by dsimp only; omega)
  (have RS := (((((((((((R6.set (i := 0) (v := .int .i64 s.size)).set (i := 1) (v := .float .f32 s.step)).set (i := 2) (v := .float .f32 s.lit.r)).set (i := 3) (v := .float .f32 s.lit.g)).set (i := 4) (v := .float .f32 s.lit.b)).set (i := 5) (v := .slice a1 N c1)).set (i := 6) (v := .int .i64 s.kind)).set (i := 7) (v := .complex .f32 s.g1 s.g2)).set (i := 8) (v := .float .f32 0)).set (i := 9) (v := .slice b3 M c3)).set (i := 10) (v := .int .i64 s.ticks)).set (i := 11) (v := .slice l5 K c5); have e0 := RS.cell 0; have e1 := RS.cell 1; have e2 := RS.cell 2; have e3 := RS.cell 3; have e4 := RS.cell 4; have e5 := RS.cell 5; have e6 := RS.cell 6; have e7 := RS.cell 7; have e8 := RS.cell 8; have e9 := RS.cell 9; have e10 := RS.cell 10; have e11 := RS.cell 11; simp only [List.setIfInBounds_toArray, List.set_cons_zero, List.set_cons_succ, List.getElem?_toArray, List.getElem?_cons_zero, List.getElem?_cons_succ] at e0 e1 e2 e3 e4 e5 e6 e7 e8 e9 e10 e11)
  clear R6
  (have E0 := Lib.hid e0; have E1 := Lib.hid e1; have E2 := Lib.hid e2; have E3 := Lib.hid e3; have E4 := Lib.hid e4; have E5 := Lib.hid e5; have E6 := Lib.hid e6; have E7 := Lib.hid e7; have E8 := Lib.hid e8; have E9 := Lib.hid e9; have E10 := Lib.hid e10; have E11 := Lib.hid e11; clear RS e0 e1 e2 e3 e4 e5 e6 e7 e8 e9 e10 e11)
  go_wp2_with fail
  (have e0 := E0.out; have e1 := E1.out; have e2 := E2.out; have e3 := E3.out; have e4 := E4.out; have e5 := E5.out; have e6 := E6.out; have e7 := E7.out; have e8 := E8.out; have e9 := E9.out; have e10 := E10.out; have e11 := E11.out)
  refine bodyPost_ret (v := .agg #[.int .i64 s.size, .float .f32 s.step, .float .f32 s.lit.r, .float .f32 s.lit.g, .float .f32 s.lit.b, .slice a1 N c1, .int .i64 s.kind, .complex .f32 s.g1 s.g2, .float .f32 0, .slice b3 M c3, .int .i64 s.ticks, .slice l5 K c5]) (by simp [results, Tryz.results29, go_sem, e0, e1, e2, e3, e4, e5, e6, e7, e8, e9, e10, e11]) rfl ⟨a1, b3, l5, c1, c3, c5, ⟨rfl, ⟨?_, ?_, ?_⟩, ?_⟩⟩
  · refine owns_less (C := w.heap.size) (B := X.heap.size) ?_ (by omega)
    iterate 13 (refine owns_set ?_ (by dsimp only; omega))
    exact O5.out
  · refine owns_less (C := w.heap.size) (B := X.heap.size) ?_ (by omega)
    iterate 13 (refine owns_set ?_ (by dsimp only; omega))
    exact Q5.out
  · refine owns_less (C := w.heap.size) (B := X.heap.size) ?_ (by omega)
    iterate 13 (refine owns_set ?_ (by dsimp only; omega))
    exact P5.out
  · iterate 13 (refine Below.setCell ?_ (by dsimp only; omega) _)
    exact G5.out⟩
end Go.Proofs.YtfdgijmmgllmgaaGreat
