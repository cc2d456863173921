/-
  Texts Ec Ed Ef Opic FnExactFormatPictureWalk Join PlainYes, joined.
-/
import Derived.Test.YtfdgijmmgllmgaaV07
import Derived.Test.YtfdgijmmgllmgaaV04
import Derived.Test.YtfdgijmmgllmgaaV06
import Derived.Deep.Slices
import Derived.Deep.Fields
import Derived.ChangeSame
import Derived.Deep.RegionHeld3
import Derived.Test.YtfdgijmmgllmgaaV01
namespace Go.Proofs.Ytfdgijmmgllmgaa
open Go.ChangeShapes Go.WideShapes Go.ChangeAt Go.RowKit Go.Joins
set_option linter.unusedSimpArgs false
set_option linter.unusedVariables false
set_option maxRecDepth 100000
attribute [local go_sem] store_f
open Ieee
def MarksAt (W : World) (g n : Nat) (m : Int) : Prop := ∀ j : Nat, j < n → W.cell? ⟨g, j * 3, Option.none⟩ = some (.float .f32 (mkF (m + 3 * j))) ∧ W.cell? ⟨g, j * 3 + 1, Option.none⟩ = some (.float .f32 (mkF (m + 3 * j + 1))) ∧ W.cell? ⟨g, j * 3 + 2, Option.none⟩ = some (.float .f32 (mkF (m + 3 * j + 1 + 1)))
theorem MarksAt.below {W w1 : World} {g n : Nat} {m : Int} (h : MarksAt W g n m) (hb : Below W.heap.size W w1) : MarksAt w1 g n m := fun j hj => by
  obtain ⟨h0, h1, h2⟩ := h j hj
  exact ⟨cBelow hb h0, cBelow hb h1, cBelow hb h2⟩
theorem MarkPart.at_ {W : World} {g n : Nat} {m : Int} (h : MarkPart W g n n m) : MarksAt W g n m := fun j hj => by
  obtain ⟨cur, hb, _, hm⟩ := h
  obtain ⟨h0, h1, h2⟩ := hm j hj
  exact ⟨(hb.cell _).trans h0, (hb.cell _).trans h1, (hb.cell _).trans h2⟩
structure MarkP (n : Int) (g len c : Nat) (m : Int) : Prop where
  call : ∀ w : World, MarkPart w g len 0 m → Calls Try.prog 17 #[.agg #[.int .i64 n, .slice (some ⟨g, 0, Option.none⟩) len c], .int .i64 m] w fun e w' => e = .returned (.int .i64 (m + 3 * len)) ∧ MarkPart w' g len len m ∧ w.grownBy w' (some g)
theorem MarkPart.alloc {W : World} {g n k : Nat} {m : Int} {o : Obj} (h : MarkPart W g n k m) : MarkPart (W.alloc o) g n k m := by
  obtain ⟨cur, h1, h2⟩ := h
  exact ⟨cur, h1.alloc, h2⟩
set_option maxHeartbeats 4000000 in
theorem markP {n : Int} {g len c : Nat} {m : Int} (hn : len ≤ 1048576) (hm0 : 0 ≤ m) (hm1 : m ≤ 1000000) : MarkP n g len c m := ⟨fun w hp => by
  have M := markM (c := c) (g := g) hn hm0 hm1
  have HP : Hid (MarkPart w g len 0 m) := hp
  clear hp
  go_enter Try.func17, Try.ntmps17
  go_wp2_with fail
  refine (M.call _ HP.out.alloc).mono ?_
  rintro e w1 ⟨rfl, hp, hg⟩
  have HP1 : Hid (MarkPart w1 g len len m) := hp
  have HG1 : Hid (w.grownBy w1 (some g)) := grownBy_trans (grown_alloc (grownBy_refl _ _) _) hg
  clear hp hg
  go_wp2
  go_ret
  exact ⟨rfl, HP1.out, HG1.out⟩⟩
theorem mark_nil (n : Int) (a : Option Addr) (c : Nat) (m : Int) (hm0 : 0 ≤ m) (w : World) : Calls Try.prog 17 #[.agg #[.int .i64 n, .slice a 0 c], .int .i64 m] w fun e w' => e = .returned (.int .i64 m) ∧ Below w.heap.size w w' := by
  have M : ∀ w, Calls Try.prog 42 #[.slice a 0 c, .int .i64 m] w fun e w' => e = .returned (.int .i64 m) ∧ w' = w := fun w => by
    go_enter Try.func42, Try.ntmps42
    go_wp2
    go_rounds 1
    go_ret
    exact ⟨rfl, rfl⟩
  go_enter Try.func17, Try.ntmps17
  go_wp2_with (go_at_call 42; (with_reducible refine (M _).mono ?_); rintro e w1 ⟨rfl, rfl⟩)
  go_ret
  exact ⟨rfl, by (repeat' (first | (with_reducible exact Below.refl _ _) | (with_reducible assumption) | (with_reducible refine Below.alloc ?_ ?_ _) | (with_reducible refine Below.drew ?_) | (with_reducible refine Below.setCell ?_ ?_ _) | (with_reducible refine Below.trans ?_ (Below.mono (by assumption) ?_)) | (with_reducible exact Nat.le_refl _) | omega | (simp only [World.size_alloc, World.size_setCell, World.size_drew]; omega) | (simp; omega) | (simp; done)))⟩
end Go.Proofs.Ytfdgijmmgllmgaa
namespace Go.Proofs.Ytfdgijmmgllmgaa
open Go.ChangeShapes Go.WideShapes Go.ChangeAt Go.RowKit Go.Joins
set_option linter.unusedSimpArgs false
set_option linter.unusedVariables false
set_option maxRecDepth 100000
attribute [local go_sem] store_f
open Ieee
def OwnIn (W : World) (B C : Nat) (a : Option Addr) (l : List Lit) : Prop := l = [] ∨ ∃ g, a = some ⟨g, 0, Option.none⟩ ∧ B ≤ g ∧ g < C ∧ LitBlk W g l
def MarkedIn (W : World) (B C : Nat) (a : Option Addr) (len : Nat) : Prop := len = 0 ∨ ∃ g, a = some ⟨g, 0, Option.none⟩ ∧ B ≤ g ∧ g < C ∧ MarksAt W g len 1
theorem OwnIn.lits {W : World} {B C : Nat} {a : Option Addr} {l : List Lit} (h : OwnIn W B C a l) : LitsAt W a l := by
  rcases h with h | ⟨g, e, _, _, h⟩
  · exact .inl h
  · exact .inr ⟨g, 0, e, h.row⟩
theorem OwnIn.below {W w1 : World} {B C : Nat} {a : Option Addr} {l : List Lit} (h : OwnIn W B C a l) (hb : Below W.heap.size W w1) : OwnIn w1 B C a l := by
  rcases h with h | ⟨g, e, h1, h2, h⟩
  · exact .inl h
  · exact .inr ⟨g, e, h1, h2, h.below hb⟩
theorem OwnIn.alloc {W : World} {B C : Nat} {a : Option Addr} {l : List Lit} {o : Obj} (h : OwnIn W B C a l) : OwnIn (W.alloc o) B C a l := by
  rcases h with h | ⟨g, e, h1, h2, h⟩
  · exact .inl h
  · exact .inr ⟨g, e, h1, h2, h.alloc⟩
theorem MarkedIn.below {W w1 : World} {B C len : Nat} {a : Option Addr} (h : MarkedIn W B C a len) (hb : Below W.heap.size W w1) : MarkedIn w1 B C a len := by
  rcases h with h | ⟨g, e, h1, h2, h⟩
  · exact .inl h
  · exact .inr ⟨g, e, h1, h2, h.below hb⟩
theorem MarksAt.alloc {W : World} {g n : Nat} {m : Int} {o : Obj} (h : MarksAt W g n m) : MarksAt (W.alloc o) g n m := fun j hj => by
  obtain ⟨h0, h1, h2⟩ := h j hj
  exact ⟨cAlloc h0, cAlloc h1, cAlloc h2⟩
theorem MarkedIn.alloc {W : World} {B C len : Nat} {a : Option Addr} {o : Obj} (h : MarkedIn W B C a len) : MarkedIn (W.alloc o) B C a len := by
  rcases h with h | ⟨g, e, h1, h2, h⟩
  · exact .inl h
  · exact .inr ⟨g, e, h1, h2, h.alloc⟩
theorem OwnIn.of {W : World} {B g c : Nat} {l : List Lit} (h : W.ownsRow B 47 3 (.slice (some ⟨g, 0, Option.none⟩) l.length c) l.length (litCells l)) : OwnIn W B W.heap.size (some ⟨g, 0, Option.none⟩) l := by
  obtain ⟨h1, h2⟩ := LitBlk.own h
  exact .inr ⟨g, rfl, h2, h1.lt, h1⟩
structure Wrote (N M : Nat) (w w' : World) : Prop where
  os : w'.os = w.os
  tape : w'.tape = w.tape
  output : w'.output = w.output
  size : w.heap.size ≤ w'.heap.size
  block : ∀ i, i < w.heap.size → (i < N ∨ M ≤ i) → w'.heap[i]? = w.heap[i]?
theorem Wrote.below {N M : Nat} {w w' : World} (h : Wrote N M w w') {B : Nat} (hB : B ≤ N) (hw : B ≤ w.heap.size) : Below B w w' := ⟨h.os, h.tape, h.output, h.size, fun i hi => h.block i (Nat.lt_of_lt_of_le hi hw) (.inl (Nat.lt_of_lt_of_le hi hB))⟩
theorem OwnIn.wrote {W w1 : World} {B C N M : Nat} {a : Option Addr} {l : List Lit} (h : OwnIn W B C a l) (hw : Wrote N M W w1) (hd : C ≤ N ∨ M ≤ B) : OwnIn w1 B C a l := by
  rcases h with h | ⟨g, e, h1, h2, cur, hb, h3⟩
  · exact .inl h
  · exact .inr ⟨g, e, h1, h2, cur, (hw.block g hb.lt (by omega)).trans hb, h3⟩
theorem LitsAt.wrote {W w1 : World} {N M B : Nat} {a : Option Addr} {l : List Lit} {w : World} (h : LitsAt w a l) (hb : Below w.heap.size w W) (hw : Wrote N M W w1) (hN : w.heap.size ≤ N) : LitsAt w1 a l :=
  h.below (hb.trans (hw.below hN hb.size))
theorem blk_wrote {W w1 : World} {N M b : Nat} {cs : Array Value} {t : TypeId} (h : Blk W b cs t) (hw : Wrote N M W w1) (hd : b < N ∨ M ≤ b) : Blk w1 b cs t := (hw.block b h.lt hd).trans h
structure MarkA (n : Int) (a : Option Addr) (c : Nat) (l : List Lit) (B C : Nat) : Prop where
  call : ∀ w : World, OwnIn w B C a l → C ≤ w.heap.size → B ≤ C → Calls Try.prog 17 #[.agg #[.int .i64 n, .slice a l.length c], .int .i64 1] w fun e w' => e = .returned (.int .i64 (1 + 3 * l.length)) ∧ MarkedIn w' B C a l.length ∧ Wrote B C w w'
theorem wrote_of_below {N M : Nat} {w w' : World} (h : Below w.heap.size w w') : Wrote N M w w' := ⟨h.os, h.tape, h.output, h.size, fun i hi _ => h.block i hi⟩
theorem wrote_of_grown {N M g : Nat} {w w' : World} (h : w.grownBy w' (some g)) (h1 : N ≤ g) (h2 : g < M) : Wrote N M w w' := ⟨h.os, h.tape, h.output, h.size, fun i hi hd => h.block i hi (fun e => by cases e; omega)⟩
theorem markA {n : Int} {a : Option Addr} {c : Nat} {l : List Lit} {B C : Nat} (hn : l.length ≤ 1048576) : MarkA n a c l B C := ⟨fun w h _ _ => by
  rcases h with h | ⟨g, rfl, h1, h2, h⟩
  · subst h
    refine (mark_nil n a c 1 (by omega) w).mono ?_
    rintro e w1 ⟨rfl, hb⟩
    exact ⟨by simp, .inl rfl, wrote_of_below hb⟩
  · refine ((markP (n := n) (c := c) (m := 1) hn (by omega) (by omega)).call w (MarkPart.of h 1)).mono ?_
    rintro e w1 ⟨rfl, hp, hg⟩
    exact ⟨rfl, .inr ⟨g, rfl, h1, h2, hp.at_⟩, wrote_of_grown hg h1 h2⟩⟩
end Go.Proofs.Ytfdgijmmgllmgaa
namespace Go.Proofs.Ytfdgijmmgllmgaa
open Go.ChangeShapes Go.WideShapes Go.ChangeAt Go.RowKit Go.Joins
set_option linter.unusedSimpArgs false
set_option linter.unusedVariables false
set_option maxRecDepth 100000
attribute [local go_sem] store_f
open Ieee
structure Ctx (w W : World) (b : Nat) (n : Int) (a : Option Addr) (cap : Nat) (l : List Lit) : Prop where
  blk : Blk W b #[.int .i64 n, .slice a l.length cap] 38
  row : LitsAt W a l
  bel : Below w.heap.size w W
  lo : w.heap.size ≤ b
theorem Ctx.below {w W w1 : World} {b : Nat} {n : Int} {a : Option Addr} {cap : Nat} {l : List Lit} (h : Ctx w W b n a cap l) (hb : Below W.heap.size W w1) : Ctx w w1 b n a cap l :=
  ⟨h.blk.below hb, h.row.below hb, h.bel.trans (hb.mono h.bel.size), h.lo⟩
theorem Ctx.alloc {w W : World} {b : Nat} {n : Int} {a : Option Addr} {cap : Nat} {l : List Lit} {o : Obj} (h : Ctx w W b n a cap l) : Ctx w (W.alloc o) b n a cap l :=
  ⟨h.blk.alloc, h.row.alloc, h.bel.alloc h.bel.size _, h.lo⟩
theorem Ctx.drew {w W : World} {b : Nat} {n : Int} {a : Option Addr} {cap : Nat} {l : List Lit} (h : Ctx w W b n a cap l) : Ctx w W.drew b n a cap l :=
  ⟨h.blk.drew, h.row.drew, h.bel.drew, h.lo⟩
theorem Ctx.wrote {w W w1 : World} {b N M : Nat} {n : Int} {a : Option Addr} {cap : Nat} {l : List Lit} (h : Ctx w W b n a cap l) (ho : LitsAt w a l) (hw : Wrote N M W w1) (hd : b < N) : Ctx w w1 b n a cap l :=
  ⟨blk_wrote h.blk hw (.inl hd), LitsAt.wrote (B := 0) ho h.bel hw (by have := h.lo; omega), h.bel.trans (hw.below (by have := h.lo; omega) h.bel.size), h.lo⟩
theorem Ctx.lt {w W : World} {b : Nat} {n : Int} {a : Option Addr} {cap : Nat} {l : List Lit} (h : Ctx w W b n a cap l) : b < W.heap.size := h.blk.lt
structure PVar (W : World) (p B C : Nat) (n : Int) (a : Option Addr) (cap : Nat) (l : List Lit) : Prop where
  blk : Blk W p #[.int .i64 n, .slice a l.length cap] 26
  own : OwnIn W B C a l
  le : B ≤ C
  hi : C ≤ p
theorem PVar.below {W w1 : World} {p B C : Nat} {n : Int} {a : Option Addr} {cap : Nat} {l : List Lit} (h : PVar W p B C n a cap l) (hb : Below W.heap.size W w1) : PVar w1 p B C n a cap l := ⟨h.blk.below hb, h.own.below hb, h.le, h.hi⟩
theorem PVar.alloc {W : World} {p B C : Nat} {n : Int} {a : Option Addr} {cap : Nat} {l : List Lit} {o : Obj} (h : PVar W p B C n a cap l) : PVar (W.alloc o) p B C n a cap l := ⟨h.blk.alloc, h.own.alloc, h.le, h.hi⟩
theorem PVar.wrote {W w1 : World} {p B C N M : Nat} {n : Int} {a : Option Addr} {cap : Nat} {l : List Lit} (h : PVar W p B C n a cap l) (hw : Wrote N M W w1) (hd : p < N ∨ M ≤ B) : PVar w1 p B C n a cap l :=
  ⟨blk_wrote h.blk hw (by have := h.hi; have := h.le; omega), h.own.wrote hw (by have := h.hi; omega), h.le, h.hi⟩
theorem PVar.lt {W : World} {p B C : Nat} {n : Int} {a : Option Addr} {cap : Nat} {l : List Lit} (h : PVar W p B C n a cap l) : p < W.heap.size := h.blk.lt
theorem PVar.lits {W : World} {p B C : Nat} {n : Int} {a : Option Addr} {cap : Nat} {l : List Lit} (h : PVar W p B C n a cap l) : LitsAt W a l := h.own.lits
theorem PVar.new {W : World} {B : Nat} {n : Int} {a : Option Addr} {cap : Nat} {l : List Lit} (h : OwnIn W B W.heap.size a l) (hB : B ≤ W.heap.size) : PVar (W.alloc (.cells #[.int .i64 n, .slice a l.length cap] 26)) W.heap.size B W.heap.size n a cap l :=
  ⟨Blk.new _ _ _, h.alloc, hB, Nat.le_refl _⟩
structure ToPicA (n : Int) (a : Option Addr) (cap : Nat) (l : List Lit) : Prop where
  call : ∀ w : World, LitsAt w a l → Calls Try.prog 14 #[.agg #[.int .i64 n, .slice a l.length cap]] w fun e w' => (∃ b, e = .returned (.agg #[.int .i64 n, .slice b l.length l.length]) ∧ OwnIn w' w.heap.size w'.heap.size b l) ∧ Below w.heap.size w w'
theorem toPicA {n : Int} {a : Option Addr} {cap : Nat} {l : List Lit} (hn : l.length ≤ 1048576) : ToPicA n a cap l := ⟨fun w hr => by
  refine ((toPic hn).call w hr).mono ?_
  rintro e w1 ⟨⟨g, rfl, hg, hk⟩, hb⟩
  exact ⟨⟨_, rfl, .inr ⟨g, rfl, hg, hk.lt, hk⟩⟩, hb⟩⟩
end Go.Proofs.Ytfdgijmmgllmgaa
namespace Go.Proofs.Ytfdgijmmgllmgaa
open Go.ChangeShapes Go.WideShapes Go.ChangeAt Go.RowKit Go.Joins
set_option linter.unusedSimpArgs false
set_option linter.unusedVariables false
set_option maxRecDepth 100000
attribute [local go_sem] store_f
open Go.Deep
section
variable {H : Type} {enc : TypeId × Value → H} {W : World} {base : Nat} {spare : Nat → Bool} {held : Bool} {v : Value} {d : DataW H} {p : List MemPlace}
theorem word32 {b : Nat} (h : (Lit.float .f32 b).wf = true) : b < 4294967296 := by
  simp [Go.Lit.wf] at h; exact h
set_option maxRecDepth 100000 in
theorem one_float {n : Nat} {v : Value} {x : DataW H × List MemPlace} (h : DataW.trod enc Try.prog W base spare held n 30 [v] = some x) : ∃ b : Nat, v = .float .f32 b ∧ b < 4294967296 := by
  cases n with
  | zero => simp [DataW.trod] at h
  | succ n =>
    unfold DataW.trod at h
    rw [Try.underlying30] at h
    split at h <;> simp_all
    rename_i hv
    obtain ⟨⟨rfl, hw⟩, _⟩ := h
    subst hv
    exact word32 hw
set_option maxRecDepth 100000 in
theorem three_cells {n : Nat} {c0 c1 c2 : Value} {x : DataW H × List MemPlace} (h : DataW.trod enc Try.prog W 0 spare held n 46 [c0, c1, c2] = some x) :
    ∃ c : Lit, c0 = .float .f32 c.r ∧ c1 = .float .f32 c.g ∧ c2 = .float .f32 c.b ∧ c.W := by
  have hone : oneCellFields Try.prog (Try.prog.fieldsOf 46) = true := by kernel_rfl
  have hu : Try.prog.underlying 46 = some (.struct (Try.prog.fieldsOf 46)) := by kernel_rfl
  obtain ⟨ys, n', _, _, _, hyl, hf⟩ := DataW.trod_struct hu h
  have g0 := hf 0 _ rfl
  have g1 := hf 1 _ rfl
  have g2 := hf 2 _ rfl
  obtain ⟨o0, k0⟩ := hone_of hone 0 _ rfl
  obtain ⟨o1, k1⟩ := hone_of hone 1 _ rfl
  obtain ⟨o2, k2⟩ := hone_of hone 2 _ rfl
  rw [o0, k0] at g0
  rw [o1, k1] at g1
  rw [o2, k2] at g2
  have hl3 : ys.length = 3 := hyl
  simp only [List.drop_zero, List.drop_succ_cons, List.take_succ_cons, List.take_zero] at g0 g1 g2
  rw [List.getElem?_eq_getElem (by omega)] at g0 g1 g2
  obtain ⟨r, rfl, w0⟩ := one_float g0
  obtain ⟨g, rfl, w1⟩ := one_float g1
  obtain ⟨b, rfl, w2⟩ := one_float g2
  exact ⟨⟨r, g, b⟩, rfl, rfl, rfl, w0, w1, w2⟩
theorem len3 {cs : List Value} (h : cs.length = 3) : ∃ c0 c1 c2, cs = [c0, c1, c2] := by
  match cs, h with
  | [c0, c1, c2], _ => exact ⟨c0, c1, c2, rfl⟩
theorem list_of {P : Nat → Lit → Prop} : ∀ (n : Nat), (∀ i, i < n → ∃ c, P i c) → ∃ l : List Lit, l.length = n ∧ ∀ i, i < n → P i (l.getD i default)
  | 0, _ => ⟨[], rfl, fun i hi => absurd hi (by omega)⟩
  | n + 1, h => by
    obtain ⟨l, hl, hi⟩ := list_of n (fun i hi => h i (by omega))
    obtain ⟨c, hc⟩ := h n (by omega)
    refine ⟨l ++ [c], by simp [hl], fun i hin => ?_⟩
    rcases (by omega : i < n ∨ i = n) with h1 | rfl
    · have e : (l ++ [c]).getD i default = l.getD i default := by simp [List.getD, show i < l.length by omega, show i < l.length + 1 by omega, List.getElem_append_left]
      rw [e]; exact hi i h1
    · have e : (l ++ [c]).getD i default = c := by subst hl; simp [List.getD]
      rw [e]; exact hc
set_option maxRecDepth 100000 in
theorem open_lpic (hok : Value.okWide Try.prog W .any base 38 v) (h : DataW.Trod enc Try.prog W 0 spare held 38 v d p) :
    ∃ (n : Int) (a : Option Addr) (cap : Nat) (l : List Lit), v = .agg #[.int .i64 n, .slice a l.length cap] ∧ -9223372036854775808 ≤ n ∧ n ≤ 9223372036854775807 ∧ LitsAt W a l ∧ (∀ c ∈ l, c.W) ∧ l.length ≤ cap ∧ cap ≤ 9223372036854775807 := by
  obtain ⟨c0, c1, y0, y1, m, rfl, rfl, rfl, hy0, hy1⟩ := Go.Joins.open_agg2 Try.underlying38 (by kernel_rfl) (by kernel_rfl) hok h
  obtain ⟨n, e0, rfl, wn⟩ := DataW.trod_int Try.underlying3 hy0
  simp at e0
  subst e0
  have wn' := wf_i64 wn
  rcases open_slice Try.underlying36 hy1 with ⟨e, _⟩ | ⟨a, len, cap, mm, k, D, Pl, e, _, hlc, hcm, hmm, _, hi⟩
  · simp at e
    subst e
    exact ⟨n, Option.none, 0, [], rfl, wn'.1, wn'.2, .inl rfl, by simp, by simp, by omega⟩
  · simp at e
    subst e
    have hC : Try.prog.cellsOf 46 = 3 := by kernel_rfl
    have hlm : len ≤ mm := by rw [hmm]; split <;> omega
    have key : ∀ i, i < len → ∃ c : Lit, (W.cell? (a.add (i * 3)) = some (.float .f32 c.r) ∧ W.cell? (a.add (i * 3 + 1)) = some (.float .f32 c.g) ∧ W.cell? (a.add (i * 3 + 2)) = some (.float .f32 c.b)) ∧ c.W := by
      intro i hil
      obtain ⟨cs, hc, ht⟩ := hi i (by omega)
      rw [hC] at hc
      obtain ⟨_, hl3, hat⟩ := World.cells?_some hc
      obtain ⟨u0, u1, u2, rfl⟩ := len3 hl3
      obtain ⟨c, rfl, rfl, rfl, hw⟩ := three_cells ht
      have a0 := hat 0 (by omega)
      have a1 := hat 1 (by omega)
      have a2 := hat 2 (by omega)
      rw [add_add] at a0 a1 a2
      exact ⟨c, ⟨a0, a1, a2⟩, hw⟩
    obtain ⟨l, hl, hP⟩ := list_of len key
    unfold maxLen at hcm
    have hW : ∀ c ∈ l, c.W := fun c hc => by
      obtain ⟨i, hi', rfl⟩ := List.mem_iff_getElem.1 hc
      have := (hP i (by omega)).2
      simpa [List.getD, hi'] using this
    refine ⟨n, some a, cap, l, by rw [hl], wn'.1, wn'.2, ?_, hW, by omega, by omega⟩
    by_cases h0 : len = 0
    · left
      exact List.eq_nil_of_length_eq_zero (by omega)
    · obtain ⟨b, off, spot⟩ := a
      have hspot : spot = Option.none := by
        have := World.cell?_spot (hP 0 (by omega)).1.1
        simpa [Addr.add] using this
      subst hspot
      refine .inr ⟨b, off, rfl, fun i hil => ?_⟩
      have := (hP i (by omega)).1
      simp only [Go.WideShapes.add_plain] at this
      rw [show off + i * 3 + 1 = off + (i * 3 + 1) by omega, show off + i * 3 + 2 = off + (i * 3 + 2) by omega]
      exact this
end
end Go.Proofs.Ytfdgijmmgllmgaa
namespace Go.Proofs.Ytfdgijmmgllmgaa.wFnExactFormatPicture
open Go.ChangeShapes Go.WideShapes Go.ChangeAt Go.RowKit Go.Joins
set_option linter.unusedSimpArgs false
set_option linter.unusedVariables false
set_option maxRecDepth 100000
attribute [local go_sem] store_f
open Ieee
theorem strs_wrote {W W' : World} {g n N M : Nat} {f : Nat → ByteArray} (h : StrsAt W g n f) (hw : Wrote N M W W') (hd : g < N ∨ M ≤ g) : StrsAt W' g n f :=
  ⟨Nat.lt_of_lt_of_le h.1 hw.size, fun k hk => (World.cell?_of_block (hw.block g h.1 hd)).trans (h.2 k hk)⟩
theorem mk_wrote {W W' : World} {g n k N M : Nat} (h : StrMk W g n k) (hw : Wrote N M W W') (hd : g < N ∨ M ≤ g) : StrMk W' g n k := by
  obtain ⟨cur, h1, h2, h3⟩ := h
  exact ⟨cur, (hw.block _ h1.lt hd).trans h1, h2, h3⟩
theorem ctx_belowB {w W w1 : World} {b B : Nat} {n : Int} {a : Option Addr} {cap : Nat} {l : List Lit} (h : Ctx w W b n a cap l) (hR : LitsAt w a l) (hb : Below B W w1) (hB : b < B) (hw : w.heap.size ≤ B) : Ctx w w1 b n a cap l :=
  ⟨(hb.block _ hB).trans h.blk, LitsAt.below hR (h.bel.trans (hb.mono hw)), h.bel.trans (hb.mono hw), h.lo⟩
set_option maxHeartbeats 16000000 in
theorem walk (n : Int) (a : Option Addr) (cap : Nat) (l : List Lit) (w : World) (_ : -9223372036854775808 ≤ n) (_ : n ≤ 9223372036854775807) (hrow : LitsAt w a l) (hw : ∀ c ∈ l, c.W) (hlc : l.length ≤ cap) (hcm : cap ≤ 9223372036854775807) :
    Calls Try.prog 4 #[.agg #[.int .i64 n, .slice a l.length cap]] w fun e w' => e = .returned (.bool true) ∧ Below w.heap.size w w' := by
  by_cases hlen : l.length ≤ 1048576
  · have Z := szPic_yes (n := n) (a := a) (cap := cap) (len := l.length) (left := 1048576) (by omega) (by omega)
    have T := toPicA (n := n) (a := a) (cap := cap) hlen
    obtain ⟨N, f, hN, FI, FS⟩ := fmts n l hw
    have HI := Lib.hid FI
    have HZ := Lib.hid FS
    have EP : Hid (∀ a c b d, EqPic n a c b d l) := fun a c b d => eqPic hw hlen
    have EQ := Lib.hid (eqR (f := f) hN)
    have HR : Hid (LitsAt w a l) := hrow
    have hle : ¬ (1048576 - (l.length : Int)) < 0 := by omega
    have hld : decide ((1048576 - (l.length : Int)) < 0) = false := by simpa using hle
    clear hrow hw FI FS
    go_enter Try.func4, Try.ntmps4
    go_wp2_with fail
    generalize hV : w.alloc (.cells #[.int .i64 n, .slice a l.length cap] 38) = V
    have C0 : Hid (Ctx w V w.heap.size n a cap l) := by rw [← hV]; exact ⟨Blk.new _ _ _, HR.out.alloc, (Below.refl _ _).alloc (Nat.le_refl _) _, Nat.le_refl _⟩
    clear hV
    refine (Z.call _).mono ?_
    rintro e w1 ⟨rfl, hb⟩
    have C1 : Hid (Ctx w w1 w.heap.size n a cap l) := C0.out.below hb
    clear hb C0
    (have p0 := Blk.cellAt (i := 0) C1.out.blk rfl; have p1 := Blk.cellAt (i := 1) C1.out.blk rfl; simp only [List.getElem_toArray, List.getElem_cons_zero, List.getElem_cons_succ] at p0 p1)
    go_wp2_with fail
    refine (T.call _ C1.out.row).mono ?_
    rintro e w2 ⟨⟨b2, rfl, ho⟩, hb⟩
    have C2 : Hid (Ctx w w2 w.heap.size n a cap l) := C1.out.below hb
    have K2 : Hid (LitsAt w2 b2 l) := ho.lits
    clear hb ho C1 p0 p1
    go_wp2_with fail
    refine ((HZ.out _ _).call _ K2.out).mono ?_
    rintro e w3 ⟨g4, c4, rfl, hS4, _, _, hb⟩
    have C3 : Hid (Ctx w w3 w.heap.size n a cap l) := C2.out.below hb
    have R3 : Hid (StrsAt w3 g4 N f) := hS4
    have l4 := hS4.1
    clear hb hS4 C2 K2
    (have p0 := Blk.cellAt (i := 0) C3.out.blk rfl; have p1 := Blk.cellAt (i := 1) C3.out.blk rfl; simp only [List.getElem_toArray, List.getElem_cons_zero, List.getElem_cons_succ] at p0 p1)
    have l3 := C3.out.lt
    go_wp2_with fail
    refine (T.call _ C3.out.row).mono ?_
    rintro e w4 ⟨⟨b4, rfl, ho⟩, hb⟩
    have C4 : Hid (Ctx w w4 w.heap.size n a cap l) := C3.out.below hb
    have R4 : Hid (StrsAt w4 g4 N f) := R3.out.below hb R3.out.1
    have O4 : Hid (OwnIn w4 w3.heap.size w4.heap.size b4 l) := ho
    have s4 := hb.size
    clear hb ho C3 R3 p0 p1
    go_wp2_with fail
    generalize hU : w4.alloc (.cells #[.int .i64 n, .slice b4 l.length l.length] 26) = U
    have CU : Hid (Ctx w U w.heap.size n a cap l) := by rw [← hU]; exact C4.out.alloc
    have XU : Hid (PVar U w4.heap.size w3.heap.size w4.heap.size n b4 l.length l) := by rw [← hU]; exact PVar.new O4.out s4
    have RU : Hid (StrsAt U g4 N f) := by rw [← hU]; exact R4.out.below ((Below.refl _ _).alloc (Nat.le_refl _) _) R4.out.1
    have sU : w4.heap.size + 1 ≤ U.heap.size := by rw [← hU]; simp
    clear hU C4 O4 R4
    generalize w4.heap.size = x at *
    generalize w3.heap.size = y at *
    refine ((HI.out _ _ (Nat.le_refl _)).call _ XU.out.lits).mono ?_
    rintro e w5 ⟨g6, c6, rfl, hS6, hM6, hg6, hb⟩
    have C5 : Hid (Ctx w w5 w.heap.size n a cap l) := CU.out.below hb
    have X5 : Hid (PVar w5 x y x n b4 l.length l) := XU.out.below hb
    have R5 : Hid (StrsAt w5 g4 N f) := RU.out.below hb RU.out.1
    have Q5 : Hid (StrsAt w5 g6 N f) := hS6
    have M5 : Hid (N = 0 ∨ StrMk w5 g6 N 0) := hM6
    have hx6 : x < g6 := by omega
    clear hb hS6 hM6 CU XU RU hg6 sU
    go_wp2_with fail
    refine (EQ.out.call _ _ _ _ _ Q5.out R5.out).mono ?_
    rintro e w6 ⟨rfl, hb⟩
    have C6 : Hid (Ctx w w6 w.heap.size n a cap l) := C5.out.below hb
    have X6 : Hid (PVar w6 x y x n b4 l.length l) := X5.out.below hb
    have R6 : Hid (StrsAt w6 g4 N f) := R5.out.below hb R5.out.1
    have Q6 : Hid (StrsAt w6 g6 N f) := Q5.out.below hb Q5.out.1
    have M6 : Hid (N = 0 ∨ StrMk w6 g6 N 0) := M5.out.imp id (fun h => h.below hb)
    clear hb C5 X5 R5 Q5 M5
    (have p0 := Blk.cellAt (i := 0) C6.out.blk rfl; have p1 := Blk.cellAt (i := 1) C6.out.blk rfl; simp only [List.getElem_toArray, List.getElem_cons_zero, List.getElem_cons_succ] at p0 p1)
    (have x0 := Blk.cellAt (i := 0) X6.out.blk rfl; have x1 := Blk.cellAt (i := 1) X6.out.blk rfl; simp only [List.getElem_toArray, List.getElem_cons_zero, List.getElem_cons_succ] at x0 x1)
    have hL6 := C6.out.row
    have hK6 := X6.out.lits
    have hB6 : Below w6.heap.size w6 w6 := Below.refl _ _
    have hz6 := Nat.le_refl w6.heap.size
    have l6 := C6.out.lt
    have m6 := X6.out.lt
    go_wp2_with fail
    go_cut [31] (fun v wx => v = .bool false ∧ Below w6.heap.size w6 wx)
    case first =>
      go_region_held3 (fun wx => LitsAt wx a l ∧ LitsAt wx b4 l ∧ Below w6.heap.size w6 wx ∧ w6.heap.size ≤ wx.heap.size ∧ x < wx.heap.size ∧ w.heap.size < wx.heap.size ∧ wx.cell? ⟨w.heap.size, 0, Option.none⟩ = some (.int .i64 n) ∧ wx.cell? ⟨w.heap.size, 1, Option.none⟩ = some (.slice a l.length cap) ∧ wx.cell? ⟨x, 0, Option.none⟩ = some (.int .i64 n) ∧ wx.cell? ⟨x, 1, Option.none⟩ = some (.slice b4 l.length l.length))
        (((repeat' apply And.intro) <;> first | (with_reducible assumption) | ((repeat (first | (with_reducible assumption) | (with_reducible exact And.left (by assumption)) | (with_reducible exact And.left (And.right (by assumption))) | (with_reducible exact And.left (And.right (And.right (by assumption)))) | (with_reducible refine LitsAt.drew ?_) | (with_reducible refine LitsAt.below ?_ hb) | (with_reducible refine LitsAt.alloc ?_))); done) | (((repeat (first | (with_reducible assumption) | (with_reducible exact cNewAt (by first | rfl | (simp only [World.size_alloc, World.size_setCell, World.size_drew]; done) | omega) rfl) | (with_reducible exact sNewAt (by first | rfl | (simp only [World.size_alloc, World.size_setCell, World.size_drew]; done) | omega) rfl) | (simp; done) | (with_reducible apply cAlloc) | (with_reducible apply cDrew) | (with_reducible refine cSet (by dsimp only; omega) ?_) | (with_reducible refine cSetOff (by dsimp only; omega) ?_) | (with_reducible apply cSame) | (with_reducible refine cBelow (by assumption) ?_) | (with_reducible apply sAlloc) | (with_reducible apply sDrew) | (with_reducible refine sBelow (by assumption) ?_) | (with_reducible refine sSet (by dsimp only; omega) ?_))); first | done | (simp [*]; done)); done) | (simp only [World.size_alloc, World.size_setCell, World.size_drew]; omega) | omega | (go_keep; done) | ((repeat' (first | (with_reducible exact Below.refl _ _) | (with_reducible assumption) | (with_reducible refine Below.alloc ?_ ?_ _) | (with_reducible refine Below.drew ?_) | (with_reducible refine Below.setCell ?_ ?_ _) | (with_reducible refine Below.trans ?_ (Below.mono (by assumption) ?_)) | (with_reducible exact Nat.le_refl _) | omega | (simp only [World.size_alloc, World.size_setCell, World.size_drew]; omega) | (simp; omega) | (simp; done))); done)))
        (first | (go_at_call 14; (with_reducible refine (T.call _ ?_).mono ?_); (next => exact And.left (by assumption)); rintro e w7 ⟨⟨b7, rfl, ho⟩, hb⟩; have K7 : Hid (LitsAt w7 b7 l) := ho.lits; have hbs := hb.size; clear ho; (try simp only [World.size_alloc, World.size_setCell, World.size_drew] at hbs)) | (go_at_call 16; (with_reducible refine ((EP.out _ _ _ _).call _ ?_ ?_).mono ?_); (next => exact And.left (And.right (by assumption))); (next => exact K7.out); rintro e w8 ⟨rfl, hb⟩; have hbs := hb.size; (try simp only [World.size_alloc, World.size_setCell, World.size_drew] at hbs)))
      all_goals
        rename_i hHeld
        have hb8 := hHeld.2.2.1
        clear hHeld
        go_wp2_with fail
        go_meet
        exact ⟨rfl, hb8⟩
    case rest =>
      obtain ⟨rfl, hb⟩ := hcut
      skip
      have C7 : Hid (Ctx w wc w.heap.size n a cap l) := C6.out.below hb
      have X7 : Hid (PVar wc x y x n b4 l.length l) := X6.out.below hb
      have R7 : Hid (StrsAt wc g4 N f) := R6.out.below hb R6.out.1
      have Q7 : Hid (StrsAt wc g6 N f) := Q6.out.below hb Q6.out.1
      have M7 : Hid (N = 0 ∨ StrMk wc g6 N 0) := M6.out.imp id (fun h => h.below hb)
      clear hb C6 X6 R6 Q6 M6 p0 p1 x0 x1 hL6 hK6 hB6 hz6 l6 m6
      (have x0 := Blk.cellAt (i := 0) X7.out.blk rfl; have x1 := Blk.cellAt (i := 1) X7.out.blk rfl; simp only [List.getElem_toArray, List.getElem_cons_zero, List.getElem_cons_succ] at x0 x1)
      go_wp2_with fail
      refine ((markA (l := l) hlen).call _ X7.out.own (Nat.le_trans X7.out.hi (Nat.le_of_lt X7.out.lt)) X7.out.le).mono ?_
      rintro e w8 ⟨rfl, hm, hwr⟩
      have C8 : Hid (Ctx w w8 w.heap.size n a cap l) := C7.out.wrote HR.out hwr (by omega)
      have R8 : Hid (StrsAt w8 g4 N f) := strs_wrote R7.out hwr (.inl l4)
      have Q8 : Hid (StrsAt w8 g6 N f) := strs_wrote Q7.out hwr (.inr (by omega))
      have M8 : Hid (N = 0 ∨ StrMk w8 g6 N 0) := M7.out.imp id (fun h => mk_wrote h hwr (.inr (by omega)))
      clear hm hwr C7 X7 R7 Q7 M7 x0 x1
      have hn1 : ¬ (1 + 3 * (l.length : Int)) < 0 := by omega
      have hn2 : decide ((1 + 3 * (l.length : Int)) < 0) = false := by simpa using hn1
      go_wp2_with fail
      refine (EQ.out.call _ _ _ _ _ Q8.out R8.out).mono ?_
      rintro e w9 ⟨rfl, hb⟩
      have C9 : Hid (Ctx w w9 w.heap.size n a cap l) := C8.out.below hb
      have R9 : Hid (StrsAt w9 g4 N f) := R8.out.below hb R8.out.1
      have Q9 : Hid (StrsAt w9 g6 N f) := Q8.out.below hb Q8.out.1
      have M9 : Hid (N = 0 ∨ StrMk w9 g6 N 0) := M8.out.imp id (fun h => h.below hb)
      clear hb C8 R8 Q8 M8
      have q9 := Q9.out.1
      go_wp2_with fail
      refine ((markR hN).call _ _ _ g6 M9.out q9 (Nat.le_refl _)).mono ?_
      rintro e w10 ⟨rfl, hm, hb⟩
      have C10 : Hid (Ctx w w10 w.heap.size n a cap l) := ctx_belowB C9.out HR.out hb (by omega) (by omega)
      have R10 : Hid (StrsAt w10 g4 N f) := R9.out.below hb (by omega)
      have H10 : Hid (StrsAt w10 g6 N (fun k => markS (1 + k))) := hm
      clear hb hm C9 R9 Q9 M9
      go_wp2_with fail
      refine ((heldR hN).call _ _ _ H10.out).mono ?_
      rintro e w11 ⟨rfl, hb⟩
      have C11 : Hid (Ctx w w11 w.heap.size n a cap l) := C10.out.below hb
      have R11 : Hid (StrsAt w11 g4 N f) := R10.out.below hb R10.out.1
      have H11 : Hid (StrsAt w11 g6 N (fun k => markS (1 + k))) := H10.out.below hb H10.out.1
      clear hb C10 R10 H10
      have ho1 : ¬ (1 + (N : Int)) < 0 := by omega
      have ho2 : decide ((1 + (N : Int)) < 0) = false := by simpa using ho1
      (have p0 := Blk.cellAt (i := 0) C11.out.blk rfl; have p1 := Blk.cellAt (i := 1) C11.out.blk rfl; simp only [List.getElem_toArray, List.getElem_cons_zero, List.getElem_cons_succ] at p0 p1)
      go_wp2_with fail
      refine (T.call _ C11.out.row).mono ?_
      rintro e w12 ⟨⟨b12, rfl, ho⟩, hb⟩
      have C12 : Hid (Ctx w w12 w.heap.size n a cap l) := C11.out.below hb
      have K12 : Hid (LitsAt w12 b12 l) := ho.lits
      have R12 : Hid (StrsAt w12 g4 N f) := R11.out.below hb R11.out.1
      have H12 : Hid (StrsAt w12 g6 N (fun k => markS (1 + k))) := H11.out.below hb H11.out.1
      clear hb ho C11 R11 H11 p0 p1
      go_wp2_with fail
      refine ((HI.out _ _ (Nat.le_refl _)).call _ K12.out).mono ?_
      rintro e w13 ⟨g13, c13, rfl, hS, _, _, hb⟩
      have C13 : Hid (Ctx w w13 w.heap.size n a cap l) := C12.out.below hb
      have R13 : Hid (StrsAt w13 g4 N f) := R12.out.below hb R12.out.1
      have H13 : Hid (StrsAt w13 g6 N (fun k => markS (1 + k))) := H12.out.below hb H12.out.1
      have S13 : Hid (StrsAt w13 g13 N f) := hS
      clear hb hS C12 K12 R12 H12
      go_wp2_with fail
      refine (EQ.out.call _ _ _ _ _ S13.out R13.out).mono ?_
      rintro e w14 ⟨rfl, hb⟩
      have C14 : Hid (Ctx w w14 w.heap.size n a cap l) := C13.out.below hb
      have H14 : Hid (StrsAt w14 g6 N (fun k => markS (1 + k))) := H13.out.below hb H13.out.1
      clear hb C13 R13 H13 S13
      go_wp2_with fail
      refine ((heldR hN).call _ _ _ H14.out).mono ?_
      rintro e w15 ⟨rfl, hb⟩
      have C15 : Hid (Ctx w w15 w.heap.size n a cap l) := C14.out.below hb
      clear hb C14 H14
      go_wp2
      go_ret
      exact ⟨rfl, C15.out.bel⟩
  · have Z := szPic_no (n := n) (a := a) (cap := cap) (len := l.length) (left := 1048576) (by omega) (by omega) (by omega)
    clear hrow hw
    go_enter Try.func4, Try.ntmps4
    go_wp2_with fail
    refine (Z.call _).mono ?_
    rintro e w1 ⟨rfl, hb⟩
    have HB : Hid (Below w.heap.size w w1) := by
      show Below w.heap.size w w1
      exact Below.trans (by (repeat' (first | (with_reducible exact Below.refl _ _) | (with_reducible assumption) | (with_reducible refine Below.alloc ?_ ?_ _) | (with_reducible refine Below.drew ?_) | (with_reducible refine Below.setCell ?_ ?_ _) | (with_reducible refine Below.trans ?_ (Below.mono (by assumption) ?_)) | (with_reducible exact Nat.le_refl _) | omega | (simp only [World.size_alloc, World.size_setCell, World.size_drew]; omega) | (simp; omega) | (simp; done)))) (hb.mono (by simp))
    clear hb
    go_wp2
    all_goals (go_ret; exact ⟨rfl, HB.out⟩)
end Go.Proofs.Ytfdgijmmgllmgaa.wFnExactFormatPicture
namespace Go.Proofs.Ytfdgijmmgllmgaa
open Go.ChangeShapes Go.WideShapes Go.ChangeAt Go.RowKit
theorem joined_mk {P : Program} {f : FuncId} {fn : Func} {s : ChangeSpec} {c : OpenClaim}
    (k1 : c.wf (OpenSpec.ofChange s) = true) (k2 : laidOutB P = true) (k3 : mapsRowed P = true)
    (k4 : fn.params.all (P.readableRec ·) = true) (k5 : namedTie P c.named s.vars = true)
    (k6 : (c.stops == []) = true) (k7 : (P.stops == []) = true) (k8 : (c.knobs == []) = true) (k9 : (P.stopKnobs == []) = true)
    (k10 : (c.inPlace == P.inPlace f) = true) (k11 : (c.unfollowed == P.unfollowed f) = true) (k12 : (c.recurses == P.recurses f) = true) (k13 : (c.named == P.varsNamed f) = true)
    (k14 : (c.maps == (fn.params.toList ++ s.plain.varTypes P).any (P.mapsRec ·)) = true) (k15 : (c.ifaces == (fn.params.toList ++ s.plain.varTypes P).any (P.ifacesRec ·)) = true) (k16 : (c.mapsOut == P.mapsAmong fn.resultTypes.toList) = true)
    (k17 : (c.loops == (fn.params.toList ++ s.plain.varTypes P).any (P.loopsFrom ·)) = true) (k17b : (c.wideKeys == (fn.params.toList ++ s.plain.varTypes P ++ fn.resultTypes.toList).any (P.wideKeysFrom ·)) = true)
    (k18 : s.vars.all (P.varReadable ·) = true) (k19 : fn.resultTypes.all (fun t => P.readableRec t && decide (t < P.types.size)) = true) (k20 : (c.ifacesOut == fn.resultTypes.toList.any (P.ifacesRec ·)) = true) (k21 : (c.loopsOut == fn.resultTypes.toList.any (P.loopsFrom ·)) = true) (k22 : (c.plainKeys == P.plainKeys) = true) (k23 : c.shortTexts.isNone = true) (k23b : P.stopsHeard = true) (k24 : P.mayEnter = true) (k24b : (c.lifted == P.liftsFinal) = true) (k24c : (P.make == some c.make) = true)
    (k25 : (c.kinds == (if c.domain.isEmpty then [] else fn.params.toList.map fun t => match P.underlying t with | some (.int k) => some k | _ => none)) = true) (k26 : (c.pinned == c.pinnedBy) = true)
    (k27 : (c.veiled == (fn.params.toList ++ s.plain.varTypes P ++ fn.resultTypes.toList).any (P.veiledRec ·)) = true) (k28 : c.veiledFits P fn.params.toList (fn.params.toList ++ s.plain.varTypes P ++ fn.resultTypes.toList) = true) :
    joinedFacts P f fn s c = true := by
  unfold joinedFacts
  simp only [Bool.and_eq_true]
  exact ⟨⟨⟨⟨⟨⟨⟨⟨⟨⟨⟨⟨⟨⟨⟨⟨⟨⟨⟨⟨⟨⟨⟨⟨⟨⟨⟨⟨⟨⟨⟨k1, k2⟩, k3⟩, k4⟩, k5⟩, k6⟩, k7⟩, k8⟩, k9⟩, k10⟩, k11⟩, k12⟩, k13⟩, k14⟩, k15⟩, k16⟩, k17⟩, k17b⟩, k18⟩, k19⟩, k20⟩, k21⟩, k22⟩, k23⟩, k23b⟩, k24⟩, k24b⟩, k24c⟩, k25⟩, k26⟩, k27⟩, k28⟩
theorem rowed : mapsRowed Try.prog = true := by kernel_rfl
theorem heard : Try.prog.stopsHeard = true := by kernel_rfl
theorem enters : Try.prog.mayEnter = true := by kernel_rfl
theorem lifts_no : (false == Try.prog.liftsFinal) = true := by kernel_rfl
end Go.Proofs.Ytfdgijmmgllmgaa
namespace Go.Proofs.Ytfdgijmmgllmgaa
theorem plain_yes : (true == Try.prog.plainKeys) = true := by kernel_rfl
end Go.Proofs.Ytfdgijmmgllmgaa
