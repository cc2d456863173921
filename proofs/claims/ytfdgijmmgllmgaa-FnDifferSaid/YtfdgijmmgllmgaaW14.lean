/-
  Texts Sn So Dfb FnDifferWalk Join PlainYes, joined.
-/
import Derived.Test.YtfdgijmmgllmgaaW13
import Derived.Test.YtfdgijmmgllmgaaW07
import Derived.Test.YtfdgijmmgllmgaaW12
import Derived.Test.YtfdgijmmgllmgaaW11
import Derived.Deep.RegionHeld3
import Derived.Deep.DeepCutAuto
import Derived.Deep.QuietTactic
import Derived.BigQuiet
import Derived.Test.YtfdgijmmgllmgaaW01
namespace Go.Proofs.Ytfdgijmmgllmgaa
open Go.ChangeShapes Go.WideShapes Go.ChangeAt Go.RowKit Go.Joins
set_option linter.unusedSimpArgs false
set_option linter.unusedVariables false
set_option maxRecDepth 100000
attribute [local go_sem] store_f
open Go.Shelf Ieee
attribute [local go_sem] Oper.semAt_some
def txt (c : Lit) : ByteArray := dig3 (stepN c.r) (stepN c.g) (stepN c.b)
structure Lit.Wide (c : Lit) : Prop where
  r : c.r < 4294967296
  g : c.g < 4294967296
  b : c.b < 4294967296
theorem fmt_of {c : Lit} (h : c.isB = true) (w : c.Wide) : FmtM c (txt c) := by
  obtain ⟨pa, pb, pc⟩ := colB_parts w.r w.g w.b h
  exact ⟨fun W => format_i_yes c.r c.g c.b pa pb pc W⟩
def rowOf (l : List Lit) (m x : Nat) : List Lit := (l.drop (x * m)).take m
def lineAt (l : List Lit) (m x : Nat) : ByteArray := lineOf (fun k => txt ((rowOf l m x).getD k default)) m
theorem keeps_below {W W' : World} (hb : Below W.heap.size W W') : KeepsOthers W W' := ⟨hb.size, fun k o hk _ => (hb.block k (Array.getElem?_eq_some_iff.1 hk).1).trans hk⟩
def lines (l : List Lit) (m : Nat) (xs : List (Fin m)) : List Value := xs.map fun x => .string (lineAt l m x.1)
structure Lined (w w' : World) (e : Ending) (l : List Lit) (m : Nat) : Prop where
  row : ∃ v, e = .returned v ∧ w'.ownsRow w.heap.size 9 1 v m (texts (lineAt l m) m) ∧ v ≠ .slice Option.none 0 0
  below : Below w.heap.size w w'
theorem lines_snoc (l : List Lit) (m : Nat) (xs : List (Fin m)) (x : Fin m) : lines l m (xs ++ [x]) = lines l m xs ++ [.string (lineAt l m x.1)] := by simp [lines]
theorem lines_all (l : List Lit) (m : Nat) (h : 1 ≤ m) : lines l m (rowsTo m h m) = texts (lineAt l m) m := by
  unfold lines rowsTo texts
  rw [List.map_map]
  apply List.map_congr_left
  intro j hj
  simp only [List.mem_range] at hj
  simp [rowNo, Nat.mod_eq_of_lt hj]
theorem two_own {β : Type} (B p q : Nat) (t t' : TypeId) (u u' : Value) : OwnFrom B (fun (_ : β) W => Boxed W p t u ∧ Boxed W q t' u') := fun s A C row hs hg hr =>
  ⟨hs.1.kept hg (fun e => by obtain ⟨_, o, ho, hc⟩ := hr _ e.symm; rw [show A.heap[p]? = _ from hs.1] at ho; cases ho; cases hc), hs.2.kept hg (fun e => by obtain ⟨_, o, ho, hc⟩ := hr _ e.symm; rw [show A.heap[q]? = _ from hs.2] at ho; cases ho; cases hc)⟩
attribute [-go_sem] Builtin.append_
set_option maxHeartbeats 16000000 in
theorem formatPic {m : Nat} {b o cap : Nat} {l : List Lit} (h1 : 1 ≤ m) (h8 : m ≤ 8) (hl : l.length = m * m) (hcap : l.length ≤ cap) (P : PicIs m (some ⟨b, o, Option.none⟩) cap l true)
    (hrow : ∀ x, x < m → ∀ (W : World), LitRow W b o l → b < W.heap.size → Calls Try.prog 36 #[.slice (some ⟨b, o + x * m * 3, Option.none⟩) m m] W fun e W' => e = .returned (.string (lineAt l m x)) ∧ Below W.heap.size W W')
    (w : World) (hr : LitRow w b o l) (hbw : b < w.heap.size) :
    Calls Try.prog 11 #[.agg #[.int .i64 m, .slice (some ⟨b, o, Option.none⟩) l.length cap]] w fun e w' => Lined w w' e l m := by
  have PH := Lib.hid P.call
  have HR := Lib.hid hr
  have RH := Lib.hid hrow
  have HL := Lib.hid hl
  clear hr hrow P hl
  obtain ⟨i0, hi, hz0, hz1, hz2⟩ := info_parts infoStr
  refine (callsIn_wide (n := 3)).1 ?_
  refine callsIn_of_wp_marks Try.func11 rfl trivial ?_ rfl
  simp only [Try.ntmps11, List.size_toArray, List.length_cons, List.length_nil, Nat.reduceAdd, Nat.reduceSub, Array.replicate_succ, Array.replicate_zero, List.push_toArray, List.append_toArray, List.nil_append, List.cons_append]
  gi_wp2_with fail
  obtain ⟨X, hX⟩ : ∃ X, ((w.alloc (.cells #[.int .i64 m, .slice (some ⟨b, o, Option.none⟩) l.length cap] 26)).alloc (.cells #[] 9)).alloc (.cells #[.slice (some ⟨w.heap.size + 1, 0, Option.none⟩) 0 0] 34) = X := ⟨_, rfl⟩
  rw [hX]
  have M0 : Hid (Blk X w.heap.size #[.int .i64 m, .slice (some ⟨b, o, Option.none⟩) l.length cap] 26) := by rw [← hX]; exact ((Blk.new _ _ _).alloc).alloc
  have N0 : Hid (Blk X (w.heap.size + 1 + 1) #[.slice (some ⟨w.heap.size + 1, 0, Option.none⟩) 0 0] 34) := by rw [← hX]; exact Blk.newAt (by simp)
  have O0 : Hid (X.ownsRow w.heap.size 9 1 (.slice (some ⟨w.heap.size + 1, 0, Option.none⟩) 0 0) 0 []) := by
    rw [← hX]
    refine World.ownsRow.alloc ?_ _
    have h := World.ownsRow_lit (base := w.heap.size) (e := 9) (size := 1) (w.alloc (.cells #[.int .i64 m, .slice (some ⟨b, o, Option.none⟩) l.length cap] 26)) #[] 0 (by simp) (by unfold maxLen; omega) (by simp)
    simpa using h
  have G0 : Hid (Below w.heap.size w X) := by rw [← hX]; show Below w.heap.size w _; (repeat' (first | (with_reducible exact Below.refl _ _) | (with_reducible assumption) | (with_reducible refine Below.alloc ?_ ?_ _) | (with_reducible refine Below.drew ?_) | (with_reducible refine Below.setCell ?_ ?_ _) | (with_reducible refine Below.trans ?_ (Below.mono (by assumption) ?_)) | (with_reducible exact Nat.le_refl _) | omega | (simp only [World.size_alloc, World.size_setCell, World.size_drew]; omega) | (simp; omega) | (simp; done)))
  have hs : w.heap.size + 3 ≤ X.heap.size := by rw [← hX]; simp
  clear hX
  refine ⟨trivial, ?_⟩
  refine (callsIn_wide.2 (PH.out X (.inr ⟨b, o, rfl, HR.out.below G0.out⟩))).mono ?_
  rintro e w1 ⟨rfl, hb⟩
  have M1 := M0.out.below hb
  have N1 := N0.out.below hb
  have O1 := ownsBelow hb O0.out
  have G1 := G0.out.trans (hb.mono (by omega))
  have hs1 := hb.size
  have m0 := Blk.cellAt (i := 0) M1 rfl
  have m1 := Blk.cellAt (i := 1) M1 rfl
  simp only [List.getElem_toArray, List.getElem_cons_zero, List.getElem_cons_succ] at m0 m1
  have MH := Lib.hid M1
  have NH := Lib.hid N1
  have OH := Lib.hid O1
  have GH := Lib.hid G1
  clear hb M0 N0 O0 G0 PH M1 N1 O1 G1
  gi_wp2_with (refine ⟨trivial, ?_⟩; gi_at_call 35; refine (callsIn_wide.2 (chunk_i _ _ _ m h1 h8 _)).mono ?_; rintro e w2 ⟨rfl, rfl⟩)
  obtain ⟨W2, hW2⟩ : ∃ W2, (w1.alloc (.cells #[.slice (some ⟨b, o, Option.none⟩) l.length cap] 24)).alloc (.cells #[.int .i64 m] 3) = W2 := ⟨_, rfl⟩
  rw [hW2]
  have e1 : W2.cell? ⟨w1.heap.size, 0, Option.none⟩ = some (.slice (some ⟨b, o, Option.none⟩) l.length cap) := by rw [← hW2]; simp
  have e2 : W2.cell? ⟨w1.heap.size + 1, 0, Option.none⟩ = some (.int .i64 m) := by rw [← hW2]; simp
  have hs2 : w1.heap.size + 2 ≤ W2.heap.size := by rw [← hW2]; simp
  have bN : Boxed W2 (w.heap.size + 1 + 1) 34 (.slice (some ⟨w.heap.size + 1, 0, Option.none⟩) 0 0) := by rw [← hW2]; exact Boxed.alloc (Boxed.alloc NH.out _) _
  have b1 : Boxed W2 (w1.heap.size) 24 (.slice (some ⟨b, o, Option.none⟩) l.length cap) := by rw [← hW2]; exact Boxed.alloc (Boxed.new _ _ _) _
  have b2 : Boxed W2 (w1.heap.size + 1) 3 (.int .i64 m) := by
    rw [← hW2]
    have h := Boxed.new (w1.alloc (.cells #[.slice (some ⟨b, o, Option.none⟩) l.length cap] 24)) 3 (.int .i64 m)
    rwa [World.size_alloc] at h
  have hO : W2.ownsRow w.heap.size 9 1 (.slice (some ⟨w.heap.size + 1, 0, Option.none⟩) 0 0) 0 [] := by rw [← hW2]; exact (OH.out.alloc _).alloc _
  have hG : Below w.heap.size w W2 := by rw [← hW2]; exact (GH.out.alloc (by omega) _).alloc (by simp; omega) _
  clear hW2 MH NH OH GH m0 m1
  refine wpIn_rangeFunc_ownF rfl (by omega) (gf := 71) (lb := #[.pointer (some ⟨w1.heap.size, 0, Option.none⟩), .pointer (some ⟨w1.heap.size + 1, 0, Option.none⟩)]) rfl trivial (enters_of Try.func71 (by kernel_rfl) rfl)
    (chunk_stops Fence.wide 2 trivial rfl (by omega) w1.heap.size (w1.heap.size + 1) b o m l.length cap h1 h8 HL.out hcap W2 (by omega) (by omega) e1 e2)
    (fun h k => h.trans k) (fun W q u u' hq h ha hw => ⟨(belowK_b (w := W2) (Nat.le_refl _) W q u u' hq h ha hw).block _ (by omega), (belowK_b (w := W2) (Nat.le_refl _) W q u u' hq h ha hw).block _ (by omega)⟩) (Below.refl _ _) (fun _ => rfl)
    (fun pre W => (∃ v, Boxed W (w.heap.size + 1 + 1) 34 v ∧ W.ownsRow w.heap.size 9 1 v pre.length (lines l m pre) ∧ v ≠ .slice Option.none 0 0) ∧ Below w.heap.size w W ∧ Boxed W (w1.heap.size) 24 (.slice (some ⟨b, o, Option.none⟩) l.length cap) ∧ Boxed W (w1.heap.size + 1) 3 (.int .i64 m))
    (fun _ _ _ => False)
    (OwnFrom.and (Own.from (holdsRow_own w.heap.size (w.heap.size + 1 + 1) 34 9 1 (fun pre : List (Fin m) => pre.length) (fun pre => lines l m pre) (fun _ v => v ≠ .slice Option.none 0 0)) _) (OwnFrom.and (ownFrom_below (Nat.le_refl _) (by omega)) (two_own _ _ _ _ _ _ _)))
    (fun _ _ _ _ _ hs _ _ => hs)
    ⟨⟨_, bN, by simpa [lines] using hO, by simp⟩, hG, b1, b2⟩
    (fun x => { tmps := #[.agg #[.int .i64 m, .slice (some ⟨b, o, Option.none⟩) l.length cap], .pointer (some ⟨w.heap.size, 0, Option.none⟩), .slice Option.none 0 0, .pointer (some ⟨w.heap.size + 1 + 1, 0, Option.none⟩), .slice (some ⟨b, o + x.1 * m * 3, Option.none⟩) m m, .slice (some ⟨w.heap.size + 1, 0, Option.none⟩) 0 0, .agg #[.int .i64 m, .slice (some ⟨b, o, Option.none⟩) l.length cap], .bool true, .bool false, undef, .pointer (some ⟨w.heap.size, 1, Option.none⟩), .slice (some ⟨b, o, Option.none⟩) l.length cap, .pointer (some ⟨w.heap.size, 0, Option.none⟩), .int .i64 m, .func (.func 71) #[] #[.pointer (some ⟨w1.heap.size, 0, Option.none⟩), .pointer (some ⟨w1.heap.size + 1, 0, Option.none⟩)], .slice (some ⟨b, o + x.1 * m * 3, Option.none⟩) m m, undef, undef, undef, undef, undef, undef], defers := [] }) ?assign ?body ?done ?stop
  case assign =>
    intro q x W K hK
    simp only [rowEnc]
    gi_wp2
    exact hK
  case body =>
    rintro q pre x W ⟨⟨v, hv, hrw, hnn⟩, hB, x1, x2⟩ hlt
    have hmx : Try.prog.follows .mixedOrders = true := by kernel_rfl
    have hc := hv.cell
    have hf := hv.frozen
    have hS := hB.size
    gi_wp2
    gi_region_with_o (first | (refine ⟨trivial, ?_⟩; gi_at_call 36; refine (CallsIn.inRound q (callsIn_wide.2 (RH.out x.1 x.2 _ (HR.out.below (by first | exact hB | exact hB.drew)) (by first | exact Nat.lt_of_lt_of_le hbw hS)))).mono ?_; rintro e w3 ⟨rfl, hb3⟩; have hrw3 := ownsBelow hb3 hrw.drew; have hv3 : Boxed w3 (w.heap.size + 1 + 1) 34 v := (hb3.block _ hv.lt).trans hv; have hc3 := hv3.cell; have hl3 := hv3.lt; have hf3 := hv3.frozen; have hs3 : W.heap.size ≤ w3.heap.size := hb3.size; obtain ⟨v', w4, hrun, hown', hgrow, _⟩ := run_append_own (P := Try.prog) (w3.alloc (.cells #[.string (lineAt l m x.1)] 9)) w.heap.size 34 34 9 i0 (.string ⟨#[]⟩) 1 16 Try.underlying34 hi hz0 hz1 hz2 rfl (by decide) v pre.length (lines l m pre) (hrw3.alloc _) ⟨w3.heap.size, 0, Option.none⟩ 1 1 [.string (lineAt l m x.1)] rfl (cell_one_new _ _ _) (by simp [Value.oneCell']) (by unfold maxLen; omega) (by omega) (by simp; omega); obtain ⟨g', cap', rfl⟩ := ownsRow_succ hown'; obtain ⟨hv1, hv2, hr2, hk2, hb2⟩ := hv3.appended (by decide) hrw3 (by omega) (by omega) hown' hgrow; have hc1 := hv1.cell; have hf1 := hv1.frozen))
    all_goals
      gi_wp2
      have y1 : Boxed w3 (w1.heap.size) 24 (.slice (some ⟨b, o, Option.none⟩) l.length cap) := (hb3.block _ x1.lt).trans x1
      have y2 : Boxed w3 (w1.heap.size + 1) 3 (.int .i64 m) := (hb3.block _ x2.lt).trans x2
      have z1 := ((y1.alloc _).kept hgrow (y1.not_row (by decide) hrw3)).other (B' := w.heap.size + 1 + 1) (by omega) (.slice (some ⟨g', 0, Option.none⟩) (pre.length + 1) cap')
      have z2 := ((y2.alloc _).kept hgrow (y2.not_row (by decide) hrw3)).other (B' := w.heap.size + 1 + 1) (by omega) (.slice (some ⟨g', 0, Option.none⟩) (pre.length + 1) cap')
      have hbW : Below w.heap.size W w3 := ((Below.refl w.heap.size W).drew).trans (hb3.mono hS)
      exact ⟨((KeepsOthers.drew _).trans (keeps_below hb3)).trans hk2, ⟨z1.trans x1.symm, z2.trans x2.symm⟩, ⟨_, hv2, by rw [lines_snoc]; simpa using hr2, by simp⟩, (hB.trans hbW).trans hb2, z1, z2⟩
  case done =>
    rintro D ys W hD rfl ⟨⟨v, hv, hrw, hnn⟩, hB, _⟩ hK
    have hc := hv.cell
    gi_wp2
    refine ⟨by simp, .inl ⟨_, _, rfl, run_takeDeferred hK, ?_⟩⟩
    refine ⟨_, results_tmp rfl _ _ _, ⟨v, rfl, ?_, hnn⟩, hB.trans (belowK_b (w := w) (Nat.le_refl _) W D _ _ (by omega) hK rfl rfl)⟩
    rw [lines_all] at hrw
    rw [rowsTo_len] at hrw
    exact ownsRow_putObj hrw _ hK rfl
  case stop =>
    rintro D c pre W _ _ h _
    exact h.elim
end Go.Proofs.Ytfdgijmmgllmgaa
namespace Go.Proofs.Ytfdgijmmgllmgaa
open Go.ChangeShapes Go.WideShapes Go.ChangeAt Go.RowKit Go.Joins
set_option linter.unusedSimpArgs false
set_option linter.unusedVariables false
set_option maxRecDepth 100000
attribute [local go_sem] store_f
open Ieee
theorem rowOf_len {l : List Lit} {m x : Nat} (hl : l.length = m * m) (hx : x < m) : (rowOf l m x).length = m := by
  have h : x * m + m ≤ m * m := by rw [← Nat.succ_mul]; exact Nat.mul_le_mul_right _ hx
  simp [rowOf]; omega
theorem rowOf_get {l : List Lit} {m x k : Nat} (hk : k < m) : (rowOf l m x).getD k default = l.getD (x * m + k) default := by
  unfold rowOf
  rw [List.getD_eq_getElem?_getD, List.getD_eq_getElem?_getD, List.getElem?_take_of_lt hk, List.getElem?_drop]
theorem join3 (xs : List ByteArray) (h : ∀ x ∈ xs, x.data.toList.length = 3) : (Lib.join (xs.map (·.data.toList)) [32]).length ≤ 4 * xs.length := by
  cases xs with
  | nil => simp [Lib.join, List.intercalate]
  | cons y r =>
    rw [List.map_cons, Lib.join_cons, List.length_append, h y (by simp)]
    have h2 : ∀ (r : List ByteArray), (∀ x ∈ r, x.data.toList.length = 3) → (Lib.joinTail [32] (r.map (·.data.toList))).length = 4 * r.length := by
      intro r hr
      induction r with
      | nil => simp [Lib.joinTail]
      | cons z t ih =>
        have := ih (fun x hx => hr x (by simp [hx]))
        have hz := hr z (by simp)
        simp [Lib.joinTail] at this ⊢
        simp at hz
        omega
    rw [h2 r (fun x hx => h x (by simp [hx]))]
    simp; omega
theorem txt_len (c : Lit) : (txt c).data.toList.length = 3 := by simp [txt, dig3]
theorem rowRun {l : List Lit} {m x b o : Nat} {W : World} (hl : l.length = m * m) (hx : x < m) (h : LitRow W b o l) (hb : b < W.heap.size) : LitRun W b (o + x * m * 3) (rowOf l m x) := by
  have hm : x * m + m ≤ m * m := by rw [← Nat.succ_mul]; exact Nat.mul_le_mul_right _ hx
  have e : ∀ k, o + x * m * 3 + k * 3 = o + (x * m + k) * 3 := fun k => by omega
  refine ⟨hb, fun k hk => ?_, fun k hk => ?_, fun k hk => ?_⟩ <;> rw [rowOf_len hl hx] at hk <;> rw [rowOf_get hk, e k]
  · exact (h (x * m + k) (by omega)).1
  · exact (h (x * m + k) (by omega)).2.1
  · exact (h (x * m + k) (by omega)).2.2
theorem fmtRowAt {l : List Lit} {m x b o : Nat} (h1 : 1 ≤ m) (h8 : m ≤ 8) (hl : l.length = m * m) (hx : x < m) (hf : ∀ k, k < l.length → FmtM (l.getD k default) (txt (l.getD k default))) (W : World) (h : LitRow W b o l) (hb : b < W.heap.size) :
    Calls Try.prog 36 #[.slice (some ⟨b, o + x * m * 3, Option.none⟩) m m] W fun e W' => e = .returned (.string (lineAt l m x)) ∧ Below W.heap.size W W' := by
  have hm : x * m + m ≤ m * m := by rw [← Nat.succ_mul]; exact Nat.mul_le_mul_right _ hx
  have hn := rowOf_len hl hx
  have hs : Shorts (fun k => txt ((rowOf l m x).getD k default)) (rowOf l m x).length := ⟨by omega, by
    have h3 := join3 ((List.range (rowOf l m x).length).map fun k => txt ((rowOf l m x).getD k default)) (fun y hy => by
      obtain ⟨k, _, rfl⟩ := List.mem_map.1 hy
      exact txt_len _)
    simp only [List.length_map, List.length_range] at h3
    omega⟩
  have h4 := fmtRow (l := rowOf l m x) (f := fun k => txt ((rowOf l m x).getD k default)) (by omega) hs (fun k hk => by
    rw [hn] at hk
    rw [rowOf_get hk]
    exact hf _ (by omega)) b (o + x * m * 3) m W (rowRun hl hx h hb)
  rw [hn] at h4
  exact h4
end Go.Proofs.Ytfdgijmmgllmgaa
namespace Go.Proofs.Ytfdgijmmgllmgaa
open Go.ChangeShapes Go.WideShapes Go.ChangeAt Go.RowKit Go.Joins
set_option linter.unusedSimpArgs false
set_option linter.unusedVariables false
set_option maxRecDepth 100000
attribute [local go_sem] store_f
open Ieee
theorem join3_eq (xs : List ByteArray) (h : ∀ x ∈ xs, x.data.toList.length = 3) (h0 : 1 ≤ xs.length) : (Lib.join (xs.map (·.data.toList)) [32]).length = 4 * xs.length - 1 := by
  cases xs with
  | nil => simp at h0
  | cons y r =>
    rw [List.map_cons, Lib.join_cons, List.length_append, h y (by simp)]
    have h2 : ∀ (r : List ByteArray), (∀ x ∈ r, x.data.toList.length = 3) → (Lib.joinTail [32] (r.map (·.data.toList))).length = 4 * r.length := by
      intro r hr
      induction r with
      | nil => simp [Lib.joinTail]
      | cons z t ih =>
        have := ih (fun x hx => hr x (by simp [hx]))
        have hz := hr z (by simp)
        simp [Lib.joinTail] at this ⊢
        simp at hz
        omega
    rw [h2 r (fun x hx => h x (by simp [hx]))]
    simp; omega
theorem line_size {l : List Lit} {m x : Nat} (h1 : 1 ≤ m) : (lineAt l m x).size = 4 * m - 1 := by
  have h := join3_eq ((List.range m).map fun k => txt ((rowOf l m x).getD k default)) (fun y hy => by
    obtain ⟨k, _, rfl⟩ := List.mem_map.1 hy
    exact txt_len _) (by simpa using h1)
  simp only [List.length_map, List.length_range] at h
  unfold lineAt lineOf
  rw [← h]
  show (List.toArray _).size = _
  simp
structure LinesM (n g0 cap : Nat) (l : List Lit) (f : Nat → ByteArray) : Prop where
  call : ∀ w : World, LitRow w g0 0 l → Calls Try.prog 11 #[.agg #[.int .i64 n, .slice (some ⟨g0, 0, Option.none⟩) l.length cap]] w fun e w' => (∃ g c, e = .returned (.slice (some ⟨g, 0, Option.none⟩) n c) ∧ w.heap.size ≤ g ∧ StrsAt w' g n f) ∧ Below w.heap.size w w'
  size : ∀ k, (f k).size = 4 * n - 1
theorem linesM {n g0 cap : Nat} {l : List Lit} (h1 : 1 ≤ n) (h8 : n ≤ 8) (hl : l.length = n * n) (hok : Oks l) (hcap : l.length ≤ cap) : LinesM n g0 cap l (lineAt l n) where
  call := fun w hr => by
    have hp := picB_ok h1 h8 hl hok
    have PI := picIs n (some ⟨g0, 0, Option.none⟩) cap l
    rw [hp] at PI
    have hn1 : 1 ≤ n * n := Nat.mul_le_mul h1 h1
    have hmem : ∀ k, k < l.length → (l.getD k default).Ok := fun k hk => hok _ (getD_memL hk)
    have hb : g0 < w.heap.size := cell_lt (hr 0 (by omega)).1
    refine (formatPic h1 h8 hl hcap PI (fun x hx W h hb => fmtRowAt h1 h8 hl hx (fun k hk => fmt_of (isB_ok (hmem k hk)) ⟨(hmem k hk).w.r, (hmem k hk).w.g, (hmem k hk).w.b⟩) W h hb) w hr hb).mono ?_
    rintro e w' ⟨⟨v, rfl, hown, _⟩, hB⟩
    obtain ⟨g, c, rfl, _, hg, hS⟩ := strs_of hown h1
    exact ⟨⟨g, c, rfl, hg, hS⟩, hB⟩
  size := fun k => line_size h1
end Go.Proofs.Ytfdgijmmgllmgaa
namespace Go.Proofs.Ytfdgijmmgllmgaa.wFnDiffer
open Go.ChangeShapes Go.WideShapes Go.ChangeAt Go.RowKit Go.Joins
set_option linter.unusedSimpArgs false
set_option linter.unusedVariables false
set_option maxRecDepth 100000
attribute [local go_sem] store_f
open Ieee
set_option maxHeartbeats 64000000 in
theorem walk (a : Option Addr) (len cap : Nat) (bs : List Int) (w : World) (hrow : ByteRow w w.heap.size a len bs) :
    Calls Try.prog 3 #[.slice a len cap] w fun e w' => e = .returned (.bool true) ∧ Below w.heap.size w w' := by
  by_cases hl : len ≤ 4096
  · go_enter Try.func3, Try.ntmps3
    go_wp2_with fail
    refine (big_no _ _ _ _ hl).mono ?_
    rintro e w0 ⟨rfl, rfl⟩
    go_wp2_with fail
    refine (drawPicture_s a len cap bs _ hrow hl).mono ?_
    rintro e w1 ⟨n, l, g0, cp, ⟨rfl, hrow1, hg0, h1, h5, hln, hok, hb1, hroom⟩⟩
    have h3 : len % 4 < 4 := Nat.mod_lt _ (by omega)
    obtain ⟨c, x, t, K⟩ := dfs_of (g0 := g0) (cap := cp) h1 (by omega) h3 hln hok
    have LM := linesM (g0 := g0) h1 (show n ≤ 8 by omega) hln hok hroom
    have HL1 : Hid (LitRow w1 g0 0 l) := hrow1
    have B1 : Hid (Below w.heap.size w w1) := hb1
    have s1 := hb1.size
    clear hrow1 hok hb1 hrow hln hroom
    have hmod : Hid (((len : Int) % 4) = ((len % 4 : Nat) : Int)) := by show _ = _; omega
    generalize spreadCols (len % 4 : Nat) n l = m at K
    generalize lineAt l n = f at LM
    go_wp2_with fail
    rw [hmod.out]
    generalize len % 4 = kd at *
    clear hmod
    generalize hV : w1.alloc (.cells #[.int .i64 n, .slice (some ⟨g0, 0, Option.none⟩) l.length cp] 26) = V
    have PV : Hid (Blk V w1.heap.size #[.int .i64 n, .slice (some ⟨g0, 0, Option.none⟩) l.length cp] 26) := by rw [← hV]; exact Blk.new _ _ _
    have LV : Hid (LitRow V g0 0 l) := by rw [← hV]; exact HL1.out.alloc
    have BV : Hid (Below w.heap.size w V) := by rw [← hV]; exact B1.out.alloc (by omega) _
    clear hV HL1 B1 s1
    generalize w1.heap.size = pp at *
    refine (K.sp.call _ (Or.inr ⟨g0, 0, rfl, LV.out⟩)).mono ?_
    rintro e w2 ⟨⟨g1, c1, ⟨rfl, own1⟩⟩, hb⟩
    have P2 : Hid (Blk w2 pp #[.int .i64 n, .slice (some ⟨g0, 0, Option.none⟩) l.length cp] 26) := PV.out.below hb
    have L2 : Hid (LitRow w2 g0 0 l) := LV.out.below hb
    have M2 : Hid (LitRow w2 g1 0 m) := litRow_of own1 rfl
    have B2 : Hid (Below w.heap.size w w2) := BV.out.trans (hb.mono BV.out.size)
    clear hb own1 PV LV BV
    (have p0 := Blk.cellAt (i := 0) P2.out rfl; have p1 := Blk.cellAt (i := 1) P2.out rfl; simp only [List.getElem_toArray, List.getElem_cons_zero, List.getElem_cons_succ] at p0 p1)
    have lp := P2.out.lt
    go_wp2_with fail
    generalize hX : w2.alloc (.cells #[.int .i64 n, .slice (some ⟨g1, 0, Option.none⟩) m.length c1] 26) = X
    have P3 : Hid (Blk X pp #[.int .i64 n, .slice (some ⟨g0, 0, Option.none⟩) l.length cp] 26) := by rw [← hX]; exact P2.out.alloc
    have Q3 : Hid (Blk X w2.heap.size #[.int .i64 n, .slice (some ⟨g1, 0, Option.none⟩) m.length c1] 26) := by rw [← hX]; exact Blk.new _ _ _
    have L3 : Hid (LitRow X g0 0 l) := by rw [← hX]; exact L2.out.alloc
    have M3 : Hid (LitRow X g1 0 m) := by rw [← hX]; exact M2.out.alloc
    have B3 : Hid (Below w.heap.size w X) := by rw [← hX]; exact B2.out.alloc B2.out.size _
    clear hX P2 L2 M2 B2 p0 p1 lp
    generalize w2.heap.size = qq at *
    refine ((K.d1 _ _).call _ (Or.inr ⟨g0, 0, rfl, L3.out⟩) (Or.inr ⟨g1, 0, rfl, M3.out⟩)).mono ?_
    rintro e w4 ⟨rfl, hb⟩
    have P4 : Hid (Blk w4 pp #[.int .i64 n, .slice (some ⟨g0, 0, Option.none⟩) l.length cp] 26) := P3.out.below hb
    have Q4 : Hid (Blk w4 qq #[.int .i64 n, .slice (some ⟨g1, 0, Option.none⟩) m.length c1] 26) := Q3.out.below hb
    have L4 : Hid (LitRow w4 g0 0 l) := L3.out.below hb
    have M4 : Hid (LitRow w4 g1 0 m) := M3.out.below hb
    have B4 : Hid (Below w.heap.size w w4) := B3.out.trans (hb.mono B3.out.size)
    clear hb P3 Q3 L3 M3 B3
    (have p0 := Blk.cellAt (i := 0) P4.out rfl; have p1 := Blk.cellAt (i := 1) P4.out rfl; simp only [List.getElem_toArray, List.getElem_cons_zero, List.getElem_cons_succ] at p0 p1)
    (have q0 := Blk.cellAt (i := 0) Q4.out rfl; have q1 := Blk.cellAt (i := 1) Q4.out rfl; simp only [List.getElem_toArray, List.getElem_cons_zero, List.getElem_cons_succ] at q0 q1)
    go_wp2_with fail
    refine ((K.d2 _ _).call _ (Or.inr ⟨g1, 0, rfl, M4.out⟩) (Or.inr ⟨g0, 0, rfl, L4.out⟩)).mono ?_
    rintro e w5 ⟨rfl, hb⟩
    have P5 : Hid (Blk w5 pp #[.int .i64 n, .slice (some ⟨g0, 0, Option.none⟩) l.length cp] 26) := P4.out.below hb
    have Q5 : Hid (Blk w5 qq #[.int .i64 n, .slice (some ⟨g1, 0, Option.none⟩) m.length c1] 26) := Q4.out.below hb
    have L5 : Hid (LitRow w5 g0 0 l) := L4.out.below hb
    have M5 : Hid (LitRow w5 g1 0 m) := M4.out.below hb
    have B5 : Hid (Below w.heap.size w w5) := B4.out.trans (hb.mono B4.out.size)
    clear hb P4 Q4 L4 M4 B4 p0 p1 q0 q1
    (have p0 := Blk.cellAt (i := 0) P5.out rfl; have p1 := Blk.cellAt (i := 1) P5.out rfl; simp only [List.getElem_toArray, List.getElem_cons_zero, List.getElem_cons_succ] at p0 p1)
    (have q0 := Blk.cellAt (i := 0) Q5.out rfl; have q1 := Blk.cellAt (i := 1) Q5.out rfl; simp only [List.getElem_toArray, List.getElem_cons_zero, List.getElem_cons_succ] at q0 q1)
    have e0 := K.e0
    have x0 := K.x0
    have xx : FloatKind.f32.format.order x x = some .eq := by simpa using K.xx
    have SM := K.sm
    clear K
    cases t
    all_goals
      go_wp2_with fail
      refine ((SM _ _).call _ (Or.inr ⟨g0, 0, rfl, L5.out⟩) (Or.inr ⟨g1, 0, rfl, M5.out⟩)).mono ?_
      rintro e w6 ⟨rfl, hb⟩
      have P6 : Hid (Blk w6 pp #[.int .i64 n, .slice (some ⟨g0, 0, Option.none⟩) l.length cp] 26) := P5.out.below hb
      have L6 : Hid (LitRow w6 g0 0 l) := L5.out.below hb
      have B6 : Hid (Below w.heap.size w w6) := B5.out.trans (hb.mono B5.out.size)
      clear hb P5 Q5 L5 M5 B5 p0 p1 q0 q1 SM
      (have p0 := Blk.cellAt (i := 0) P6.out rfl; have p1 := Blk.cellAt (i := 1) P6.out rfl; simp only [List.getElem_toArray, List.getElem_cons_zero, List.getElem_cons_succ] at p0 p1)
      go_wp2_with fail
      refine (LM.call _ L6.out).mono ?_
      rintro e w7 ⟨⟨g7, c7, rfl, hg7, hS⟩, hb⟩
      have P7 : Hid (Blk w7 pp #[.int .i64 n, .slice (some ⟨g0, 0, Option.none⟩) l.length cp] 26) := P6.out.below hb
      have B7 : Hid (Below w.heap.size w w7) := B6.out.trans (hb.mono B6.out.size)
      have s0 := hS.2 0 (by omega)
      have hsz := LM.size 0
      generalize f 0 = s at s0 hsz
      have HD : Hid ((((4 * n - 1 : Nat) : Int) == 4 * (n : Int) - 1) = true) := by show (_ == _) = true; rw [beq_iff_eq]; omega
      clear hb P6 L6 B6 p0 p1 LM e0 x0 xx hS
      (have p0 := Blk.cellAt (i := 0) P7.out rfl; have p1 := Blk.cellAt (i := 1) P7.out rfl; simp only [List.getElem_toArray, List.getElem_cons_zero, List.getElem_cons_succ] at p0 p1)
      go_wp2_with fail
      go_quiet (fail)
      go_wp2
      go_ret
      refine ⟨?_, B7.out.trans (below_draws _ _ _)⟩
      show Ending.returned (.bool (((4 * n - 1 : Nat) : Int) == 4 * (n : Int) - 1)) = Ending.returned (.bool true)
      rw [HD.out]
  · go_enter Try.func3, Try.ntmps3
    go_wp2_with fail
    refine (big_yes _ _ _ _ hl).mono ?_
    rintro e w0 ⟨rfl, rfl⟩
    go_wp2
    all_goals (go_returns; exact ⟨rfl, by (repeat' (first | (with_reducible exact Below.refl _ _) | (with_reducible assumption) | (with_reducible refine Below.alloc ?_ ?_ _) | (with_reducible refine Below.drew ?_) | (with_reducible refine Below.setCell ?_ ?_ _) | (with_reducible refine Below.trans ?_ (Below.mono (by assumption) ?_)) | (with_reducible exact Nat.le_refl _) | omega | (simp only [World.size_alloc, World.size_setCell, World.size_drew]; omega) | (simp; omega) | (simp; done)))⟩)
end Go.Proofs.Ytfdgijmmgllmgaa.wFnDiffer
namespace Go.Proofs.Ytfdgijmmgllmgaa
open Go.ChangeShapes Go.WideShapes Go.ChangeAt Go.RowKit
theorem joined_mk {P : Program} {f : FuncId} {fn : Func} {s : ChangeSpec} {c : OpenClaim}
    (k1 : c.wf (OpenSpec.ofChange s) = true) (k2 : laidOutB P = true) (k3 : mapsRowed P = true)
    (k4 : fn.params.all (P.readableRec ·) = true) (k5 : namedTie P c.named s.vars = true)
    (k6 : (c.stops == []) = true) (k7 : (P.stops == []) = true) (k8 : (c.knobs == []) = true) (k9 : (P.stopKnobs == []) = true)
    (k10 : (c.inPlace == P.inPlace f) = true) (k11 : (c.unfollowed == P.unfollowed f) = true) (k12 : (c.recurses == P.recurses f) = true) (k13 : (c.named == P.varsNamed f) = true)
    (k14 : (c.maps == (fn.params.toList ++ s.plain.varTypes P).any (P.mapsRec ·)) = true) (k15 : (c.ifaces == (fn.params.toList ++ s.plain.varTypes P).any (P.ifacesRec ·)) = true) (k16 : (c.mapsOut == P.mapsAmong fn.resultTypes.toList) = true)
    (k17 : (c.loops == (fn.params.toList ++ s.plain.varTypes P).any (P.loopsFrom ·)) = true) (k17b : (c.wideKeys == (fn.params.toList ++ s.plain.varTypes P ++ fn.resultTypes.toList).any (P.wideKeysFrom ·)) = true)
    (k18 : s.vars.all (P.varReadable ·) = true) (k19 : fn.resultTypes.all (fun t => P.readableRec t && decide (t < P.types.size)) = true) (k20 : (c.ifacesOut == fn.resultTypes.toList.any (P.ifacesRec ·)) = true) (k21 : (c.loopsOut == fn.resultTypes.toList.any (P.loopsFrom ·)) = true) (k22 : (c.plainKeys == P.plainKeys) = true) (k23 : c.shortTexts.isNone = true) (k23b : P.stopsHeard = true) (k24 : P.mayEnter = true) (k24b : (c.lifted == P.liftsFinal) = true) (k24c : (P.make == some c.make) = true)
    (k25 : (c.kinds == (if c.domain.isEmpty then [] else fn.params.toList.map fun t => match P.underlying t with | some (.int k) => some k | _ => none)) = true) (k26 : (c.pinned == c.pinnedBy) = true)
    (k27 : (c.veiled == (fn.params.toList ++ s.plain.varTypes P ++ fn.resultTypes.toList).any (P.veiledRec ·)) = true) (k28 : c.veiledFits P fn.params.toList (fn.params.toList ++ s.plain.varTypes P ++ fn.resultTypes.toList) = true) :
    joinedFacts P f fn s c = true := by
  unfold joinedFacts
  simp only [Bool.and_eq_true]
  exact ⟨⟨⟨⟨⟨⟨⟨⟨⟨⟨⟨⟨⟨⟨⟨⟨⟨⟨⟨⟨⟨⟨⟨⟨⟨⟨⟨⟨⟨⟨⟨k1, k2⟩, k3⟩, k4⟩, k5⟩, k6⟩, k7⟩, k8⟩, k9⟩, k10⟩, k11⟩, k12⟩, k13⟩, k14⟩, k15⟩, k16⟩, k17⟩, k17b⟩, k18⟩, k19⟩, k20⟩, k21⟩, k22⟩, k23⟩, k23b⟩, k24⟩, k24b⟩, k24c⟩, k25⟩, k26⟩, k27⟩, k28⟩
theorem rowed : mapsRowed Try.prog = true := by kernel_rfl
theorem heard : Try.prog.stopsHeard = true := by kernel_rfl
theorem enters : Try.prog.mayEnter = true := by kernel_rfl
theorem lifts_no : (false == Try.prog.liftsFinal) = true := by kernel_rfl
end Go.Proofs.Ytfdgijmmgllmgaa
namespace Go.Proofs.Ytfdgijmmgllmgaa
theorem plain_yes : (true == Try.prog.plainKeys) = true := by kernel_rfl
end Go.Proofs.Ytfdgijmmgllmgaa
