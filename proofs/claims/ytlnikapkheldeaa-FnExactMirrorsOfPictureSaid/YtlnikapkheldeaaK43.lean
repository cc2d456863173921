/-
  Texts of this proof, joined: Ef, Ei, Eg, Eh, Ej.
-/
import Derived.Test.YtlnikapkheldeaaK42
import Derived.Test.YtlnikapkheldeaaK23
import Derived.Deep.RegionHeld3
import Derived.Deep.DeepCutAuto
import Derived.Test.YtlnikapkheldeaaK15
import Derived.Test.YtlnikapkheldeaaK19
import Derived.Deep.QuietTactic
import Derived.BigQuiet
/-
  The variables of an exact law over pictures, carried from call to call.
-/
namespace Go.Proofs.Ytlnikapkheldeaa
open Go.ChangeShapes Go.WideShapes Go.ChangeAt Go.RowKit Go.Joins
set_option linter.unusedSimpArgs false
set_option linter.unusedVariables false
set_option maxRecDepth 100000
attribute [local go_sem] store_f
open Ieee

/-- The law's own picture: its box, its cells, what has been left as it was. -/
structure Ctx (w W : World) (b : Nat) (n : Int) (a : Option Addr) (cap : Nat) (l : List Lit) : Prop where
  blk : Blk W b #[.int .i64 n, .slice a l.length cap] 69
  row : LitsAt W a l
  bel : Below w.heap.size w W
  lo : w.heap.size ≤ b
theorem Ctx.below {w W w1 : World} {b : Nat} {n : Int} {a : Option Addr} {cap : Nat} {l : List Lit} (h : Ctx w W b n a cap l) (hb : Below W.heap.size W w1) : Ctx w w1 b n a cap l :=
  ⟨h.blk.below hb, h.row.below hb, h.bel.trans (hb.mono h.bel.size), h.lo⟩
theorem Ctx.alloc {w W : World} {b : Nat} {n : Int} {a : Option Addr} {cap : Nat} {l : List Lit} {o : Obj} (h : Ctx w W b n a cap l) : Ctx w (W.alloc o) b n a cap l :=
  ⟨h.blk.alloc, h.row.alloc, h.bel.alloc h.bel.size _, h.lo⟩
theorem Ctx.drew {w W : World} {b : Nat} {n : Int} {a : Option Addr} {cap : Nat} {l : List Lit} (h : Ctx w W b n a cap l) : Ctx w W.drew b n a cap l :=
  ⟨h.blk.drew, h.row.drew, h.bel.drew, h.lo⟩
theorem Ctx.wrote {w W w1 : World} {b N M : Nat} {n : Int} {a : Option Addr} {cap : Nat} {l : List Lit} (h : Ctx w W b n a cap l) (ho : LitsAt w a l) (hw : Wrote N M W w1) (hd : b < N) : Ctx w w1 b n a cap l :=
  ⟨blk_wrote h.blk hw (.inl hd), LitsAt.wrote (B := 0) ho h.bel hw (by have := h.lo; omega), h.bel.trans (hw.below (by have := h.lo; omega) h.bel.size), h.lo⟩
theorem Ctx.lt {w W : World} {b : Nat} {n : Int} {a : Option Addr} {cap : Nat} {l : List Lit} (h : Ctx w W b n a cap l) : b < W.heap.size := h.blk.lt

/-- A variable p that holds a picture, whose cells were made between B and C. -/
structure PVar (W : World) (p B C : Nat) (n : Int) (a : Option Addr) (cap : Nat) (l : List Lit) : Prop where
  blk : Blk W p #[.int .i64 n, .slice a l.length cap] 37
  own : OwnIn W B C a l
  le : B ≤ C
  hi : C ≤ p
theorem PVar.below {W w1 : World} {p B C : Nat} {n : Int} {a : Option Addr} {cap : Nat} {l : List Lit} (h : PVar W p B C n a cap l) (hb : Below W.heap.size W w1) : PVar w1 p B C n a cap l := ⟨h.blk.below hb, h.own.below hb, h.le, h.hi⟩
theorem PVar.alloc {W : World} {p B C : Nat} {n : Int} {a : Option Addr} {cap : Nat} {l : List Lit} {o : Obj} (h : PVar W p B C n a cap l) : PVar (W.alloc o) p B C n a cap l := ⟨h.blk.alloc, h.own.alloc, h.le, h.hi⟩
theorem PVar.wrote {W w1 : World} {p B C N M : Nat} {n : Int} {a : Option Addr} {cap : Nat} {l : List Lit} (h : PVar W p B C n a cap l) (hw : Wrote N M W w1) (hd : p < N ∨ M ≤ B) : PVar w1 p B C n a cap l :=
  ⟨blk_wrote h.blk hw (by have := h.hi; have := h.le; omega), h.own.wrote hw (by have := h.hi; omega), h.le, h.hi⟩
theorem PVar.lt {W : World} {p B C : Nat} {n : Int} {a : Option Addr} {cap : Nat} {l : List Lit} (h : PVar W p B C n a cap l) : p < W.heap.size := h.blk.lt
theorem PVar.lits {W : World} {p B C : Nat} {n : Int} {a : Option Addr} {cap : Nat} {l : List Lit} (h : PVar W p B C n a cap l) : LitsAt W a l := h.own.lits
/-- A new variable. -/
theorem PVar.new {W : World} {B : Nat} {n : Int} {a : Option Addr} {cap : Nat} {l : List Lit} (h : OwnIn W B W.heap.size a l) (hB : B ≤ W.heap.size) : PVar (W.alloc (.cells #[.int .i64 n, .slice a l.length cap] 37)) W.heap.size B W.heap.size n a cap l :=
  ⟨Blk.new _ _ _, h.alloc, hB, Nat.le_refl _⟩
/-- A variable that holds a marked picture. -/
structure MVar (W : World) (p B C : Nat) (n : Int) (a : Option Addr) (cap len : Nat) : Prop where
  blk : Blk W p #[.int .i64 n, .slice a len cap] 37
  own : MarkedIn W B C a len
  le : B ≤ C
  hi : C ≤ p
theorem MVar.below {W w1 : World} {p B C : Nat} {n : Int} {a : Option Addr} {cap len : Nat} (h : MVar W p B C n a cap len) (hb : Below W.heap.size W w1) : MVar w1 p B C n a cap len := ⟨h.blk.below hb, h.own.below hb, h.le, h.hi⟩
theorem MVar.alloc {W : World} {p B C : Nat} {n : Int} {a : Option Addr} {cap len : Nat} {o : Obj} (h : MVar W p B C n a cap len) : MVar (W.alloc o) p B C n a cap len := ⟨h.blk.alloc, h.own.alloc, h.le, h.hi⟩
theorem MVar.lt {W : World} {p B C : Nat} {n : Int} {a : Option Addr} {cap len : Nat} (h : MVar W p B C n a cap len) : p < W.heap.size := h.blk.lt
theorem PVar.mark {W w1 : World} {p B C : Nat} {n : Int} {a : Option Addr} {cap : Nat} {l : List Lit} (h : PVar W p B C n a cap l) (hw : Wrote B C W w1) (hm : MarkedIn w1 B C a l.length) : MVar w1 p B C n a cap l.length :=
  ⟨blk_wrote h.blk hw (.inr h.hi), hm, h.le, h.hi⟩
/-- What a copy gives, in these words. -/
structure ToPicA (n : Int) (a : Option Addr) (cap : Nat) (l : List Lit) : Prop where
  call : ∀ w : World, LitsAt w a l → Calls Try.prog 45 #[.agg #[.int .i64 n, .slice a l.length cap]] w fun e w' => (∃ b, e = .returned (.agg #[.int .i64 n, .slice b l.length l.length]) ∧ OwnIn w' w.heap.size w'.heap.size b l) ∧ Below w.heap.size w w'
theorem toPicA {n : Int} {a : Option Addr} {cap : Nat} {l : List Lit} (hn : l.length ≤ 1048576) : ToPicA n a cap l := ⟨fun w hr => by
  refine ((toPic hn).call w hr).mono ?_
  rintro e w1 ⟨⟨g, rfl, hg, hk⟩, hb⟩
  exact ⟨⟨_, rfl, .inr ⟨g, rfl, hg, hk.lt, hk⟩⟩, hb⟩⟩
theorem eqPicA {n : Int} {a : Option Addr} {ca : Nat} {b : Option Addr} {cb : Nat} {l : List Lit} (hw : ∀ c ∈ l, c.W) (hn : l.length ≤ 1048576) : EqPic n a ca b cb l := eqPic hw hn
end Go.Proofs.Ytlnikapkheldeaa

/-
  Variables of an exact law over a symmetry and a picture, wherever they were made.
-/
namespace Go.Proofs.Ytlnikapkheldeaa
open Go.ChangeShapes Go.WideShapes Go.ChangeAt Go.RowKit Go.Joins
set_option linter.unusedSimpArgs false
set_option linter.unusedVariables false
set_option maxRecDepth 100000
attribute [local go_sem] store_f
open Ieee

/-- The law's own symmetry and picture. -/
structure CtxS (w W : World) (bs : Nat) (t : Int) (f : Bool) (b : Nat) (n : Int) (a : Option Addr) (cap : Nat) (l : List Lit) : Prop where
  sym : Blk W bs #[.int .i64 t, .bool f] 76
  ctx : Ctx w W b n a cap l
  lt : bs < b
  lo : w.heap.size ≤ bs
section
variable {w W w1 : World} {bs b : Nat} {t n : Int} {f : Bool} {a : Option Addr} {cap : Nat} {l : List Lit}
theorem CtxS.below (h : CtxS w W bs t f b n a cap l) (hb : Below W.heap.size W w1) : CtxS w w1 bs t f b n a cap l := ⟨h.sym.below hb, h.ctx.below hb, h.lt, h.lo⟩
theorem CtxS.alloc {o : Obj} (h : CtxS w W bs t f b n a cap l) : CtxS w (W.alloc o) bs t f b n a cap l := ⟨h.sym.alloc, h.ctx.alloc, h.lt, h.lo⟩
theorem CtxS.wrote {N M : Nat} (h : CtxS w W bs t f b n a cap l) (ho : LitsAt w a l) (hw : Wrote N M W w1) (hd : b < N) : CtxS w w1 bs t f b n a cap l := ⟨blk_wrote h.sym hw (.inl (by have := h.lt; omega)), h.ctx.wrote ho hw hd, h.lt, h.lo⟩
end

theorem OwnIn.set {W : World} {B C : Nat} {a : Option Addr} {l : List Lit} {ad : Addr} {v : Value} (h : OwnIn W B C a l) (hp : ad.block < B ∨ C ≤ ad.block) : OwnIn (W.setCell ad v) B C a l := by
  rcases h with h | ⟨g, e, h1, h2, cur, hb, h3⟩
  · exact .inl h
  · exact .inr ⟨g, e, h1, h2, cur, hb.other (by omega), h3⟩
/-- A variable p that holds a picture; all of it was made from L to H. -/
structure PV (W : World) (p L H : Nat) (n : Int) (a : Option Addr) (cap : Nat) (l : List Lit) (B C : Nat) : Prop where
  blk : Blk W p #[.int .i64 n, .slice a l.length cap] 37
  own : OwnIn W B C a l
  le : B ≤ C
  out : p < B ∨ C ≤ p
  lo : L ≤ B
  lop : L ≤ p
  hi : C ≤ H
  hip : p < H
  hw : H ≤ W.heap.size
structure MV (W : World) (p L H : Nat) (n : Int) (a : Option Addr) (cap len : Nat) (B C : Nat) : Prop where
  blk : Blk W p #[.int .i64 n, .slice a len cap] 37
  own : MarkedIn W B C a len
section
variable {W w1 : World} {p L H : Nat} {n : Int} {a : Option Addr} {cap : Nat} {l : List Lit} {B C : Nat}
theorem PV.below (h : PV W p L H n a cap l B C) (hb : Below W.heap.size W w1) : PV w1 p L H n a cap l B C := ⟨h.blk.below hb, h.own.below hb, h.le, h.out, h.lo, h.lop, h.hi, h.hip, Nat.le_trans h.hw hb.size⟩
theorem PV.alloc {o : Obj} (h : PV W p L H n a cap l B C) : PV (W.alloc o) p L H n a cap l B C := ⟨h.blk.alloc, h.own.alloc, h.le, h.out, h.lo, h.lop, h.hi, h.hip, by have := h.hw; simp; omega⟩
theorem PV.wrote {N M : Nat} (h : PV W p L H n a cap l B C) (hw : Wrote N M W w1) (hd : H ≤ N ∨ M ≤ L) : PV w1 p L H n a cap l B C :=
  ⟨blk_wrote h.blk hw (by have := h.lop; have := h.hip; omega), h.own.wrote hw (by have := h.lo; have := h.hi; omega), h.le, h.out, h.lo, h.lop, h.hi, h.hip, Nat.le_trans h.hw hw.size⟩
theorem PV.lits (h : PV W p L H n a cap l B C) : LitsAt W a l := h.own.lits
theorem PV.lt (h : PV W p L H n a cap l B C) : p < W.heap.size := h.blk.lt
theorem PV.mark (h : PV W p L H n a cap l B C) (hw : Wrote B C W w1) (hm : MarkedIn w1 B C a l.length) : MV w1 p L H n a cap l.length B C := ⟨blk_wrote h.blk hw h.out, hm⟩
theorem PV.call (h : PV W p L H n a cap l B C) (hn : l.length ≤ 1048576) : Calls Try.prog 52 #[.agg #[.int .i64 n, .slice a l.length cap], .int .i64 1] W fun e w' => e = .returned (.int .i64 (1 + 3 * l.length)) ∧ MarkedIn w' B C a l.length ∧ Wrote B C W w' :=
  (markA hn).call W h.own (by have := h.hi; have := h.hw; omega) h.le
theorem PV.new {W : World} {B : Nat} {n : Int} {a : Option Addr} {cap : Nat} {l : List Lit} (h : OwnIn W B W.heap.size a l) (hB : B ≤ W.heap.size) : PV (W.alloc (.cells #[.int .i64 n, .slice a l.length cap] 37)) W.heap.size B (W.heap.size + 1) n a cap l B W.heap.size :=
  ⟨Blk.new _ _ _, h.alloc, hB, .inr (Nat.le_refl _), Nat.le_refl _, hB, by omega, by omega, by simp⟩
theorem PV.late {W : World} {B L : Nat} {n : Int} {a : Option Addr} {cap : Nat} {l : List Lit} (h : OwnIn W B W.heap.size a l) (hB : B ≤ W.heap.size) (hL : L ≤ B) : PV (W.alloc (.cells #[.int .i64 n, .slice a l.length cap] 37)) W.heap.size L (W.alloc (.cells #[.int .i64 n, .slice a l.length cap] 37)).heap.size n a cap l B W.heap.size :=
  ⟨Blk.new _ _ _, h.alloc, hB, .inr (Nat.le_refl _), hL, Nat.le_trans hL hB, by simp, by simp, Nat.le_refl _⟩
theorem PV.early {W : World} {B L p : Nat} {n : Int} {a : Option Addr} {cap : Nat} {l : List Lit} (h : OwnIn W B W.heap.size a l) (hB : B ≤ W.heap.size) (hN : Blk W p #[.int .i64 0, .slice Option.none 0 0] 37) (hp : p < B) (hL : L ≤ p) :
    PV ((W.setCell ⟨p, 0, Option.none⟩ (.int .i64 n)).setCell ⟨p, 1, Option.none⟩ (.slice a l.length cap)) p L ((W.setCell ⟨p, 0, Option.none⟩ (.int .i64 n)).setCell ⟨p, 1, Option.none⟩ (.slice a l.length cap)).heap.size n a cap l B W.heap.size :=
  ⟨Blk.setAt rfl (Blk.setAt rfl hN rfl) rfl, (h.set (.inl hp)).set (.inl hp), hB, .inl hp, by omega, hL, by simp, by simp; omega, Nat.le_refl _⟩
theorem MV.below {len : Nat} (h : MV W p L H n a cap len B C) (hb : Below W.heap.size W w1) : MV w1 p L H n a cap len B C := ⟨h.blk.below hb, h.own.below hb⟩
theorem MV.alloc {len : Nat} {o : Obj} (h : MV W p L H n a cap len B C) : MV (W.alloc o) p L H n a cap len B C := ⟨h.blk.alloc, h.own.alloc⟩
end
end Go.Proofs.Ytlnikapkheldeaa

/-
  The model's ActPicture.
-/
namespace Go.Proofs.Ytlnikapkheldeaa
open Go.ChangeShapes Go.WideShapes Go.ChangeAt Go.RowKit Go.Joins
set_option linter.unusedSimpArgs false
set_option linter.unusedVariables false
set_option maxRecDepth 100000
attribute [local go_sem] store_f
open Ieee

/-- A block with room for N colours, of which those at the places of the first j of l stand. -/
def ScPart (W : World) (g N j : Nat) (σ : Nat → Nat) (l : List Lit) : Prop := ∃ cur, Blk W g cur 49 ∧ N * 3 ≤ cur.size ∧ ∀ i, i < j → cur[σ i * 3]? = some (.float .f32 (l.getD i default).r) ∧ cur[σ i * 3 + 1]? = some (.float .f32 (l.getD i default).g) ∧ cur[σ i * 3 + 2]? = some (.float .f32 (l.getD i default).b)
theorem ScPart.below {W w1 : World} {g N j : Nat} {σ : Nat → Nat} {l : List Lit} (h : ScPart W g N j σ l) (hb : Below W.heap.size W w1) : ScPart w1 g N j σ l := by
  obtain ⟨cur, h1, h2⟩ := h
  exact ⟨cur, h1.below hb, h2⟩
theorem ScPart.drew {W : World} {g N j : Nat} {σ : Nat → Nat} {l : List Lit} (h : ScPart W g N j σ l) : ScPart W.drew g N j σ l := h
theorem ScPart.alloc {W : World} {g N j : Nat} {σ : Nat → Nat} {l : List Lit} {o : Obj} (h : ScPart W g N j σ l) : ScPart (W.alloc o) g N j σ l := by
  obtain ⟨cur, h1, h2⟩ := h
  exact ⟨cur, h1.alloc, h2⟩
theorem ScPart.lt {W : World} {g N j : Nat} {σ : Nat → Nat} {l : List Lit} (h : ScPart W g N j σ l) : g < W.heap.size := by
  obtain ⟨cur, h1, _⟩ := h
  exact h1.lt
theorem ScPart.step {W : World} {g N j : Nat} {σ : Nat → Nat} {l : List Lit} (h : ScPart W g N j σ l) (hj : j < N) (hσ : ∀ i, i < N → σ i < N) (hinj : ∀ i k, i < N → k < N → σ i = σ k → i = k) :
    ScPart (((W.setCell ⟨g, σ j * 3, Option.none⟩ (.float .f32 (l.getD j default).r)).setCell ⟨g, σ j * 3 + 1, Option.none⟩ (.float .f32 (l.getD j default).g)).setCell ⟨g, σ j * 3 + 2, Option.none⟩ (.float .f32 (l.getD j default).b)) g N (j + 1) σ l := by
  obtain ⟨cur, hb, hs, hm⟩ := h
  have hlt := hσ j hj
  refine ⟨_, Blk.set (Blk.set (Blk.set hb)), by simpa using hs, fun i hi => ?_⟩
  simp only [Array.getElem?_setIfInBounds, Array.size_setIfInBounds]
  by_cases e : i = j
  · subst e
    simp
    omega
  · obtain ⟨h0, h1, h2⟩ := hm i (by omega)
    have hne : σ i ≠ σ j := fun h => e (hinj i j (by omega) hj h)
    have e1 : ¬ σ j * 3 = σ i * 3 := by omega
    have e2 : ¬ σ j * 3 + 1 = σ i * 3 := by omega
    have e3 : ¬ σ j * 3 + 2 = σ i * 3 := by omega
    have e4 : ¬ σ j * 3 = σ i * 3 + 1 := by omega
    have e5 : ¬ σ j * 3 + 1 = σ i * 3 + 1 := by omega
    have e6 : ¬ σ j * 3 + 2 = σ i * 3 + 1 := by omega
    have e7 : ¬ σ j * 3 = σ i * 3 + 2 := by omega
    have e8 : ¬ σ j * 3 + 1 = σ i * 3 + 2 := by omega
    have e9 : ¬ σ j * 3 + 2 = σ i * 3 + 2 := by omega
    simp only [e1, e2, e3, e4, e5, e6, e7, e8, e9, if_false, ite_false]
    exact ⟨h0, h1, h2⟩
/-- All of them stand: the block holds the cells that acting makes. -/
theorem ScPart.all {W : World} {g n t : Nat} {f : Bool} {l : List Lit} (h8 : n ≤ 8) (ht : t < 4) (hl : l.length = n * n) (h : ScPart W g (n * n) (n * n) (cellN n t f) l) : LitBlk W g (actCols n t f l) := by
  obtain ⟨cur, hb, hs, hm⟩ := h
  have hJ := back_in ⟨t, ht⟩ f
  have hB := then_back ⟨t, ht⟩ f
  dsimp only at hJ hB
  refine ⟨cur, hb, by rw [act_len]; exact hs, fun p hp => ?_⟩
  rw [act_len] at hp
  have hq := cell_lt' (f := backF t f) h8 hp hJ.2
  have e : cellN n t f (cellN n (backT t f).toNat (backF t f) p) = p := by
    rw [cell_then h8 hp hJ.2 ht, ← hJ.1, hB.2.2.1, hB.2.2.2.1]
    exact cell_none h8 hp
  have := hm _ hq
  rw [e] at this
  rw [act_get hp]
  exact this
theorem cell_inj {n t : Nat} {f : Bool} (h8 : n ≤ 8) (ht : t < 4) : ∀ i k, i < n * n → k < n * n → cellN n t f i = cellN n t f k → i = k := fun i k hi hk h => by
  have h1 := cell_back (f := f) h8 hi ht
  have h2 := cell_back (f := f) h8 hk ht
  rw [h] at h1
  exact h1.symm.trans h2

structure ActZ (t : Int) (f : Bool) (n : Int) (a : Option Addr) (cap : Nat) (l : List Lit) (m : Int) (k : List Lit) : Prop where
  call : ∀ w : World, LitsAt w a l → Calls Try.prog 51 #[.agg #[.int .i64 t, .bool f], .agg #[.int .i64 n, .slice a l.length cap]] w fun e w' => (∃ g c, e = .returned (.agg #[.int .i64 m, .slice g k.length c]) ∧ (k = [] ∨ ∃ b, g = some ⟨b, 0, Option.none⟩ ∧ w.heap.size ≤ b ∧ LitBlk w' b k)) ∧ Below w.heap.size w w'
/-- What the walk of the model's ActPicture rests on. -/
structure Scat (n N : Nat) (t : Int) (f : Bool) (σ : Nat → Nat) (l m : List Lit) : Prop where
  y : IsSymS t f true
  c : ∀ k : Nat, k < N → CellS n k t f (σ k : Nat)
  all : ∀ W g, ScPart W g N N σ l → LitBlk W g m
  step : ∀ W g j, j < N → ScPart W g N j σ l → ScPart (((W.setCell ⟨g, σ j * 3, Option.none⟩ (.float .f32 (l.getD j default).r)).setCell ⟨g, σ j * 3 + 1, Option.none⟩ (.float .f32 (l.getD j default).g)).setCell ⟨g, σ j * 3 + 2, Option.none⟩ (.float .f32 (l.getD j default).b)) g N (j + 1) σ l
  lt : ∀ j, j < N → σ j < N
  pos : 0 < N
  few : N ≤ 64
theorem scat_of {n t : Nat} (f : Bool) {l : List Lit} (ht : t < 4) (h1 : 1 ≤ n) (h8 : n ≤ 8) (hl : l.length = n * n) : Scat n (n * n) t f (cellN n t f) l (actCols n t f l) where
  y := by
    have Y := isSymS t f
    rwa [isSymB_iff.2 (by omega)] at Y
  c := fun k hk => cellS_yes f h1 h8 hk ht
  all := fun W g h => h.all h8 ht hl
  step := fun W g j hj h => h.step hj (fun i hi => cell_lt' h8 hi ht) (cell_inj h8 ht)
  lt := fun j hj => cell_lt' h8 hj ht
  pos := Nat.mul_pos h1 h1
  few := Nat.le_trans (Nat.mul_le_mul h8 h8) (by omega)
set_option maxHeartbeats 16000000 in
theorem act_walk {n N : Nat} {t : Int} {f : Bool} {σ : Nat → Nat} {l m : List Lit} {b off cap : Nat} {w : World} (K : Scat n N t f σ l m) (hm : m.length = N) (hl : l.length = N) (HR : Hid (LitRow w b off l))
    (IPC : Hid (∀ W, LitRow W b off l → Calls Try.prog 44 #[.agg #[.int .i64 n, .slice (some ⟨b, off, Option.none⟩) N cap]] W fun e w' => e = .returned (.bool true) ∧ Below W.heap.size W w')) :
    Calls Try.prog 51 #[.agg #[.int .i64 t, .bool f], .agg #[.int .i64 n, .slice (some ⟨b, off, Option.none⟩) N cap]] w fun e w' => (∃ g c, e = .returned (.agg #[.int .i64 n, .slice g m.length c]) ∧ (m = [] ∨ ∃ b, g = some ⟨b, 0, Option.none⟩ ∧ w.heap.size ≤ b ∧ LitBlk w' b m)) ∧ Below w.heap.size w w' := by
  have Y := K.y
  have HC : Hid (∀ k : Nat, k < N → CellS n k t f (σ k : Nat)) := K.c
  have HA : Hid (∀ W g, ScPart W g N N σ l → LitBlk W g m) := K.all
  have HS : Hid (∀ W g j, j < N → ScPart W g N j σ l → ScPart (((W.setCell ⟨g, σ j * 3, Option.none⟩ (.float .f32 (l.getD j default).r)).setCell ⟨g, σ j * 3 + 1, Option.none⟩ (.float .f32 (l.getD j default).g)).setCell ⟨g, σ j * 3 + 2, Option.none⟩ (.float .f32 (l.getD j default).b)) g N (j + 1) σ l) := K.step
  have HLT : Hid (∀ j, j < N → σ j < N) := K.lt
  have h0 := K.pos
  have hN64 := K.few
  have HL : Hid (l.length = N) := hl
  have hblt : b < w.heap.size := cell_lt (HR.out 0 (by omega)).1
  have hmk := fun W => make3 N (by omega) W
  rw [hm]
  clear K hm hl
  go_enter Try.func51, Try.ntmps51
  go_wp2_with fail
  generalize hW : ((w.alloc (.cells #[.int .i64 t, .bool f] 25)).alloc (.cells #[.int .i64 n, .slice (some ⟨b, off, Option.none⟩) N cap] 37)).alloc (.cells #[.int .i64 0, .slice Option.none 0 0] 37) = X
  have S0 : Hid (Blk X w.heap.size #[.int .i64 t, .bool f] 25) := by rw [← hW]; exact ((Blk.new _ _ _).alloc).alloc
  have P0 : Hid (Blk X (w.heap.size + 1) #[.int .i64 n, .slice (some ⟨b, off, Option.none⟩) N cap] 37) := by rw [← hW]; exact (Blk.newAt (by simp)).alloc
  have R0 : Hid (Blk X (w.heap.size + 1 + 1) #[.int .i64 0, .slice Option.none 0 0] 37) := by rw [← hW]; exact Blk.newAt (by simp)
  have B0 : Hid (Below w.heap.size w X) := by rw [← hW]; show Below w.heap.size w _; (repeat' (first | (with_reducible exact Below.refl _ _) | (with_reducible assumption) | (with_reducible refine Below.alloc ?_ ?_ _) | (with_reducible refine Below.drew ?_) | (with_reducible refine Below.setCell ?_ ?_ _) | (with_reducible refine Below.trans ?_ (Below.mono (by assumption) ?_)) | (with_reducible exact Nat.le_refl _) | omega | (simp only [World.size_alloc, World.size_setCell, World.size_drew]; omega) | (simp; omega) | (simp; done)))
  have sX : X.heap.size = w.heap.size + 3 := by rw [← hW]; simp
  clear hW
  refine (Y.call _).mono ?_
  rintro e w1 ⟨rfl, hb⟩
  have S1 : Hid (Blk w1 w.heap.size #[.int .i64 t, .bool f] 25) := S0.out.below hb
  have P1 : Hid (Blk w1 (w.heap.size + 1) #[.int .i64 n, .slice (some ⟨b, off, Option.none⟩) N cap] 37) := P0.out.below hb
  have R1 : Hid (Blk w1 (w.heap.size + 1 + 1) #[.int .i64 0, .slice Option.none 0 0] 37) := R0.out.below hb
  have B1 : Hid (Below w.heap.size w w1) := B0.out.trans (hb.mono (by omega))
  have s1 : w.heap.size + 3 ≤ w1.heap.size := by have := hb.size; omega
  clear hb S0 P0 R0 B0 sX
  (have p0 := Blk.cellAt (i := 0) P1.out rfl; have p1 := Blk.cellAt (i := 1) P1.out rfl; simp only [List.getElem_toArray, List.getElem_cons_zero, List.getElem_cons_succ] at p0 p1)
  go_wp2_with fail
  refine (IPC.out _ (HR.out.below B1.out)).mono ?_
  rintro e w2 ⟨rfl, hb⟩
  have S2 : Hid (Blk w2 w.heap.size #[.int .i64 t, .bool f] 25) := S1.out.below hb
  have P2 : Hid (Blk w2 (w.heap.size + 1) #[.int .i64 n, .slice (some ⟨b, off, Option.none⟩) N cap] 37) := P1.out.below hb
  have R2 : Hid (Blk w2 (w.heap.size + 1 + 1) #[.int .i64 0, .slice Option.none 0 0] 37) := R1.out.below hb
  have B2 : Hid (Below w.heap.size w w2) := B1.out.trans (hb.mono (by omega))
  have s2 : w.heap.size + 3 ≤ w2.heap.size := by have := hb.size; omega
  clear hb S1 P1 R1 B1 s1 p0 p1 Y IPC
  (have p0 := Blk.cellAt (i := 0) P2.out rfl; have p1 := Blk.cellAt (i := 1) P2.out rfl; simp only [List.getElem_toArray, List.getElem_cons_zero, List.getElem_cons_succ] at p0 p1)
  go_wp2_with fail
  go_cut [5] (fun v wx => ∃ q g : Nat, v = .pointer (some ⟨q, 0, Option.none⟩) ∧ Blk wx q #[.int .i64 n, .slice (some ⟨g, 0, Option.none⟩) N N] 37 ∧ Blk wx g (madeCells #[.float .f32 0, .float .f32 0, .float .f32 0] (N * 3)) 49 ∧ q ≠ g ∧ w2.heap.size ≤ q ∧ w2.heap.size ≤ g ∧ Below w2.heap.size w2 wx)
  case first =>
    have hB2 : Below w2.heap.size w2 w2 := Below.refl _ _
    have hz2 := Nat.le_refl w2.heap.size
    have l2 := P2.out.lt
    go_region_held3 (fun wx => Below w2.heap.size w2 wx ∧ w2.heap.size ≤ wx.heap.size ∧ w.heap.size + 1 < wx.heap.size ∧ wx.cell? ⟨w.heap.size + 1, 0, Option.none⟩ = some (.int .i64 n) ∧ wx.cell? ⟨w.heap.size + 1, 1, Option.none⟩ = some (.slice (some ⟨b, off, Option.none⟩) N cap))
      (((repeat' apply And.intro) <;> first | (with_reducible assumption) | (((repeat (first | (with_reducible assumption) | (with_reducible exact cNewAt (by first | rfl | (simp only [World.size_alloc, World.size_setCell, World.size_drew]; done) | omega) rfl) | (with_reducible exact sNewAt (by first | rfl | (simp only [World.size_alloc, World.size_setCell, World.size_drew]; done) | omega) rfl) | (simp; done) | (with_reducible apply cAlloc) | (with_reducible apply cDrew) | (with_reducible refine cSet (by dsimp only; omega) ?_) | (with_reducible refine cSetOff (by dsimp only; omega) ?_) | (with_reducible apply cSame) | (with_reducible refine cBelow (by assumption) ?_) | (with_reducible apply sAlloc) | (with_reducible apply sDrew) | (with_reducible refine sBelow (by assumption) ?_) | (with_reducible refine sSet (by dsimp only; omega) ?_))); first | done | (simp [*]; done)); done) | (simp only [World.size_alloc, World.size_setCell, World.size_drew]; omega) | omega | (go_keep; done) | ((repeat' (first | (with_reducible exact Below.refl _ _) | (with_reducible assumption) | (with_reducible refine Below.alloc ?_ ?_ _) | (with_reducible refine Below.drew ?_) | (with_reducible refine Below.setCell ?_ ?_ _) | (with_reducible refine Below.trans ?_ (Below.mono (by assumption) ?_)) | (with_reducible exact Nat.le_refl _) | omega | (simp only [World.size_alloc, World.size_setCell, World.size_drew]; omega) | (simp; omega) | (simp; done))); done)))
      (fail)
    all_goals
      rename_i hHeld
      have hb := hHeld.1
      clear hHeld
      go_wp2_with fail
      go_meet
      first
        | exact ⟨w2.heap.size + 1, w2.heap.size, rfl, Blk.drew (Blk.newAt (by simp)), Blk.drew ((Blk.new _ _ _).alloc), by omega, by omega, Nat.le_refl _, hb⟩
        | exact ⟨w2.heap.size, w2.heap.size + 1, rfl, Blk.drew ((Blk.new _ _ _).alloc), Blk.drew (Blk.newAt (by simp)), by omega, Nat.le_refl _, by omega, hb⟩
  case rest =>
    obtain ⟨q, g, rfl, hQ, hG, hqg, hq2, hg2, hb⟩ := hcut
    have S3 : Hid (Blk wc w.heap.size #[.int .i64 t, .bool f] 25) := S2.out.below hb
    have P3 : Hid (Blk wc (w.heap.size + 1) #[.int .i64 n, .slice (some ⟨b, off, Option.none⟩) N cap] 37) := P2.out.below hb
    have R3 : Hid (Blk wc (w.heap.size + 1 + 1) #[.int .i64 0, .slice Option.none 0 0] 37) := R2.out.below hb
    have B3 : Hid (Below w.heap.size w wc) := B2.out.trans (hb.mono (by omega))
    have Q3 : Hid (Blk wc q #[.int .i64 n, .slice (some ⟨g, 0, Option.none⟩) N N] 37) := hQ
    have G3 : Hid (ScPart wc g N 0 σ l) := ⟨_, hG, by rw [size_madeCells]; omega, fun i hi => absurd hi (by omega)⟩
    clear hb hQ hG S2 P2 R2 B2 p0 p1 hmk
    (have p0 := Blk.cellAt (i := 0) P3.out rfl; have p1 := Blk.cellAt (i := 1) P3.out rfl; simp only [List.getElem_toArray, List.getElem_cons_zero, List.getElem_cons_succ] at p0 p1)
    have l3 := P3.out.lt
    go_wp2_with fail
    clear p0 p1 l3
    go_loopw [27] (fun i wr => ∃ j : Nat, j ≤ N ∧ i = .int .i64 j ∧ ScPart wr g N j σ l ∧ Blk wr q #[.int .i64 n, .slice (some ⟨g, 0, Option.none⟩) N N] 37 ∧ Blk wr w.heap.size #[.int .i64 t, .bool f] 25 ∧ Blk wr (w.heap.size + 1) #[.int .i64 n, .slice (some ⟨b, off, Option.none⟩) N cap] 37 ∧ Blk wr (w.heap.size + 1 + 1) #[.int .i64 0, .slice Option.none 0 0] 37 ∧ Below w.heap.size w wr)
      (fun i _ => N - (intOf i).toNat)
    case atStart => exact ⟨0, by omega, rfl, G3.out, Q3.out, S3.out, P3.out, R3.out, B3.out⟩
    case round =>
      obtain ⟨j, hj, rfl, hG, hQ, hS, hP, hR, hbel⟩ := hrel
      have G4 : Hid (ScPart wr g N j σ l) := hG
      have Q4 : Hid (Blk wr q #[.int .i64 n, .slice (some ⟨g, 0, Option.none⟩) N N] 37) := hQ
      have S4 : Hid (Blk wr w.heap.size #[.int .i64 t, .bool f] 25) := hS
      have P4 : Hid (Blk wr (w.heap.size + 1) #[.int .i64 n, .slice (some ⟨b, off, Option.none⟩) N cap] 37) := hP
      have R4 : Hid (Blk wr (w.heap.size + 1 + 1) #[.int .i64 0, .slice Option.none 0 0] 37) := hR
      have B4 : Hid (Below w.heap.size w wr) := hbel
      clear G3 Q3 S3 P3 R3 B3 hG hQ hS hP hR
      by_cases hlt : j < N
      · have F := HC.out j hlt
        have hcl := HLT.out j hlt
        have HSJ : Hid (∀ W, ScPart W g N j σ l → ScPart (((W.setCell ⟨g, σ j * 3, Option.none⟩ (.float .f32 (l.getD j default).r)).setCell ⟨g, σ j * 3 + 1, Option.none⟩ (.float .f32 (l.getD j default).g)).setCell ⟨g, σ j * 3 + 2, Option.none⟩ (.float .f32 (l.getD j default).b)) g N (j + 1) σ l) := fun W h => HS.out W g j hlt h
        obtain ⟨d0, d1, d2⟩ := (LitRow.below HR.out hbel) j (by have := HL.out; omega)
        generalize σ j = c at F hcl HSJ
        generalize l.getD j default = s at d0 d1 d2 HSJ
        have hj0 : (0 : Int) ≤ (j : Int) := by omega
        have hj1 : (j : Int) < (N : Int) := by omega
        clear hbel
        go_wp2_with fail
        generalize hV : wr.alloc (.cells #[.float .f32 s.r, .float .f32 s.g, .float .f32 s.b] 49) = V
        have GV : Hid (ScPart V g N j σ l) := by rw [← hV]; exact G4.out.alloc
        have QV : Hid (Blk V q #[.int .i64 n, .slice (some ⟨g, 0, Option.none⟩) N N] 37) := by rw [← hV]; exact Q4.out.alloc
        have SV : Hid (Blk V w.heap.size #[.int .i64 t, .bool f] 25) := by rw [← hV]; exact S4.out.alloc
        have PV : Hid (Blk V (w.heap.size + 1) #[.int .i64 n, .slice (some ⟨b, off, Option.none⟩) N cap] 37) := by rw [← hV]; exact P4.out.alloc
        have RV : Hid (Blk V (w.heap.size + 1 + 1) #[.int .i64 0, .slice Option.none 0 0] 37) := by rw [← hV]; exact R4.out.alloc
        have BV : Hid (Below w.heap.size w V) := by rw [← hV]; exact B4.out.alloc B4.out.size _
        have NV : Blk V wr.heap.size #[.float .f32 s.r, .float .f32 s.g, .float .f32 s.b] 49 := by rw [← hV]; exact Blk.new _ _ _
        have hgw : g < wr.heap.size := G4.out.lt
        have hqw : q < wr.heap.size := Q4.out.lt
        have hnV := NV.lt
        have n0 := Blk.cellAt (i := 0) NV rfl
        have n1 := Blk.cellAt (i := 1) NV rfl
        have n2 := Blk.cellAt (i := 2) NV rfl
        simp only [List.getElem_toArray, List.getElem_cons_zero, List.getElem_cons_succ] at n0 n1 n2
        clear hV NV G4 Q4 S4 P4 R4 B4 d0 d1 d2
        generalize wr.heap.size = ng at *
        (have q0 := Blk.cellAt (i := 0) QV.out rfl; have q1 := Blk.cellAt (i := 1) QV.out rfl; simp only [List.getElem_toArray, List.getElem_cons_zero, List.getElem_cons_succ] at q0 q1)
        (have p0 := Blk.cellAt (i := 0) PV.out rfl; have p1 := Blk.cellAt (i := 1) PV.out rfl; simp only [List.getElem_toArray, List.getElem_cons_zero, List.getElem_cons_succ] at p0 p1)
        (have s0 := Blk.cellAt (i := 0) SV.out rfl; have s1 := Blk.cellAt (i := 1) SV.out rfl; simp only [List.getElem_toArray, List.getElem_cons_zero, List.getElem_cons_succ] at s0 s1)
        have hBV : Below V.heap.size V V := Below.refl _ _
        have hzV := Nat.le_refl V.heap.size
        have hqV : q < V.heap.size := by omega
        have hpV : w.heap.size + 1 < V.heap.size := by omega
        have hsV : w.heap.size < V.heap.size := by omega
        have hgp : w.heap.size + 1 < g := by omega
        have hc0 : (0 : Int) ≤ (c : Int) := by omega
        have hc1 : (c : Int) < (N : Int) := by omega
        go_region_held3 (fun wx => q < wx.heap.size ∧ w.heap.size + 1 < wx.heap.size ∧ w.heap.size < wx.heap.size ∧ ng < wx.heap.size ∧ wx.cell? ⟨q, 0, Option.none⟩ = some (.int .i64 n) ∧ wx.cell? ⟨q, 1, Option.none⟩ = some (.slice (some ⟨g, 0, Option.none⟩) N N) ∧ wx.cell? ⟨w.heap.size + 1, 0, Option.none⟩ = some (.int .i64 n) ∧ wx.cell? ⟨w.heap.size + 1, 1, Option.none⟩ = some (.slice (some ⟨b, off, Option.none⟩) N cap) ∧ wx.cell? ⟨w.heap.size, 0, Option.none⟩ = some (.int .i64 (t)) ∧ wx.cell? ⟨w.heap.size, 1, Option.none⟩ = some (.bool (f)) ∧ wx.cell? ⟨ng, 0, Option.none⟩ = some (.float .f32 (s.r)) ∧ wx.cell? ⟨ng, 1, Option.none⟩ = some (.float .f32 (s.g)) ∧ wx.cell? ⟨ng, 2, Option.none⟩ = some (.float .f32 (s.b)))
          (((repeat' apply And.intro) <;> first | (with_reducible assumption) | (((repeat (first | (with_reducible assumption) | (with_reducible exact cNewAt (by first | rfl | (simp only [World.size_alloc, World.size_setCell, World.size_drew]; done) | omega) rfl) | (with_reducible exact sNewAt (by first | rfl | (simp only [World.size_alloc, World.size_setCell, World.size_drew]; done) | omega) rfl) | (simp; done) | (with_reducible apply cAlloc) | (with_reducible apply cDrew) | (with_reducible refine cSet (by dsimp only; omega) ?_) | (with_reducible refine cSetOff (by dsimp only; omega) ?_) | (with_reducible apply cSame) | (with_reducible refine cBelow (by assumption) ?_) | (with_reducible apply sAlloc) | (with_reducible apply sDrew) | (with_reducible refine sBelow (by assumption) ?_) | (with_reducible refine sSet (by dsimp only; omega) ?_))); first | done | (simp [*]; done)); done) | (simp only [World.size_alloc, World.size_setCell, World.size_drew]; omega) | omega | (go_keep; done) | ((repeat' (first | (with_reducible exact Below.refl _ _) | (with_reducible assumption) | (with_reducible refine Below.alloc ?_ ?_ _) | (with_reducible refine Below.drew ?_) | (with_reducible refine Below.setCell ?_ ?_ _) | (with_reducible refine Below.trans ?_ (Below.mono (by assumption) ?_)) | (with_reducible exact Nat.le_refl _) | omega | (simp only [World.size_alloc, World.size_setCell, World.size_drew]; omega) | (simp; omega) | (simp; done))); done)))
          (first | (go_at_call 49; (with_reducible refine (F.call _).mono ?_); rintro e w4 ⟨rfl, hb⟩; have GW : Hid (ScPart w4 g N j σ l) := ScPart.below (ScPart.drew GV.out) hb; have BW : Hid (Below V.heap.size V w4) := (Below.drew (Below.refl _ _)).trans hb; have hbs := hb.size; (try simp only [World.size_alloc, World.size_setCell, World.size_drew] at hbs); obtain ⟨cur, hblk, hsz, _⟩ := GW.out; obtain ⟨x0, e0⟩ : ∃ x, w4.cell? ⟨g, c * 3, Option.none⟩ = some x := (by rw [hblk.cell]; exact ⟨_, Array.getElem?_eq_getElem (by omega)⟩); obtain ⟨x1, e1⟩ : ∃ x, w4.cell? ⟨g, c * 3 + 1, Option.none⟩ = some x := (by rw [hblk.cell]; exact ⟨_, Array.getElem?_eq_getElem (by omega)⟩); obtain ⟨x2, e2⟩ : ∃ x, w4.cell? ⟨g, c * 3 + 2, Option.none⟩ = some x := (by rw [hblk.cell]; exact ⟨_, Array.getElem?_eq_getElem (by omega)⟩); have f0 := hblk.free (c * 3); have f1 := hblk.free (c * 3 + 1); have f2 := hblk.free (c * 3 + 2); clear hblk hsz))
        all_goals
          rename_i hHeld
          clear hHeld hBV q0 q1 p0 p1 s0 s1 n0 n1 n2 e0 e1 e2 f0 f1 f2
          have QW := QV.out.below BW.out
          have SW := SV.out.below BW.out
          have PW := PV.out.below BW.out
          have RW := RV.out.below BW.out
          have BW2 := BV.out.trans (BW.out.mono BV.out.size)
          have HG5 := HSJ.out _ GW.out
          generalize hY : ((w4.setCell ⟨g, c * 3, Option.none⟩ (.float .f32 s.r)).setCell ⟨g, c * 3 + 1, Option.none⟩ (.float .f32 s.g)).setCell ⟨g, c * 3 + 2, Option.none⟩ (.float .f32 s.b) = Y at HG5 ⊢
          have G5 : Hid (ScPart Y g N (j + 1) σ l) := HG5
          have Q5 : Hid (Blk Y q #[.int .i64 n, .slice (some ⟨g, 0, Option.none⟩) N N] 37) := by rw [← hY]; exact ((QW.other (by dsimp only; omega)).other (by dsimp only; omega)).other (by dsimp only; omega)
          have S5 : Hid (Blk Y w.heap.size #[.int .i64 t, .bool f] 25) := by rw [← hY]; exact ((SW.other (by dsimp only; omega)).other (by dsimp only; omega)).other (by dsimp only; omega)
          have P5 : Hid (Blk Y (w.heap.size + 1) #[.int .i64 n, .slice (some ⟨b, off, Option.none⟩) N cap] 37) := by rw [← hY]; exact ((PW.other (by dsimp only; omega)).other (by dsimp only; omega)).other (by dsimp only; omega)
          have R5 : Hid (Blk Y (w.heap.size + 1 + 1) #[.int .i64 0, .slice Option.none 0 0] 37) := by rw [← hY]; exact ((RW.other (by dsimp only; omega)).other (by dsimp only; omega)).other (by dsimp only; omega)
          have B5 : Hid (Below w.heap.size w Y) := by rw [← hY]; exact ((BW2.setCell (by dsimp only; omega) _).setCell (by dsimp only; omega) _).setCell (by dsimp only; omega) _
          clear hY HG5 QW SW PW RW BW2 GW BW GV QV SV PV RV BV
          go_wp2
          go_roundw
          case rel => exact ⟨j + 1, by omega, by go_num, G5.out, Q5.out, S5.out, P5.out, R5.out, B5.out⟩
          case measure => simp [intOf]; omega
      · have hjm : j = N := by omega
        subst hjm
        have HF : Hid (LitBlk wr g m) := HA.out _ _ G4.out
        have hgw : g < wr.heap.size := G4.out.lt
        (have q0 := Blk.cellAt (i := 0) Q4.out rfl; have q1 := Blk.cellAt (i := 1) Q4.out rfl; simp only [List.getElem_toArray, List.getElem_cons_zero, List.getElem_cons_succ] at q0 q1)
        (have r0 := Blk.cellAt (i := 0) R4.out rfl; have r1 := Blk.cellAt (i := 1) R4.out rfl; simp only [List.getElem_toArray, List.getElem_cons_zero, List.getElem_cons_succ] at r0 r1)
        have f0 := R4.out.free 0
        have f1 := R4.out.free 1
        have lr := R4.out.lt
        generalize hY : (wr.setCell ⟨w.heap.size + 1 + 1, 0, Option.none⟩ (.int .i64 n)).setCell ⟨w.heap.size + 1 + 1, 1, Option.none⟩ (.slice (some ⟨g, 0, Option.none⟩) j j) = Y
        have RY : Hid (Blk Y (w.heap.size + 1 + 1) #[.int .i64 n, .slice (some ⟨g, 0, Option.none⟩) j j] 37) := by
          rw [← hY]
          exact Blk.setAt rfl (Blk.setAt rfl R4.out rfl) rfl
        have LY : Hid (LitBlk Y g m) := by
          rw [← hY]
          obtain ⟨cur, h1, h2⟩ := HF.out
          exact ⟨cur, (Blk.other h1 (by dsimp only; omega)).other (by dsimp only; omega), h2⟩
        have BY : Hid (Below w.heap.size w Y) := by
          rw [← hY]
          exact (B4.out.setCell (by dsimp only; omega) _).setCell (by dsimp only; omega) _
        have HY : Hid ((wr.setCell ⟨w.heap.size + 1 + 1, 0, Option.none⟩ (.int .i64 n)).setCell ⟨w.heap.size + 1 + 1, 1, Option.none⟩ (.slice (some ⟨g, 0, Option.none⟩) j j) = Y) := hY
        have hgb : w.heap.size ≤ g := by omega
        clear hY hbel HF G4 Q4 S4 P4 R4 B4 HS HC HA HLT
        go_wp2
        rw [HY.out]
        (have y0 := Blk.cellAt (i := 0) RY.out rfl; have y1 := Blk.cellAt (i := 1) RY.out rfl; simp only [List.getElem_toArray, List.getElem_cons_zero, List.getElem_cons_succ] at y0 y1)
        exact bodyPost_ret (v := .agg #[.int .i64 n, .slice (some ⟨g, 0, Option.none⟩) j j]) (by simp [results, Try.results51, go_sem, y0, y1]) rfl ⟨⟨_, j, rfl, .inr ⟨g, rfl, hgb, LY.out⟩⟩, BY.out⟩
end Go.Proofs.Ytlnikapkheldeaa

/-
  ActPicture, of the program and of the model, whatever it is handed.
-/
namespace Go.Proofs.Ytlnikapkheldeaa
open Go.ChangeShapes Go.WideShapes Go.ChangeAt Go.RowKit Go.Joins
set_option linter.unusedSimpArgs false
set_option linter.unusedVariables false
set_option maxRecDepth 100000
attribute [local go_sem] store_f
open Ieee

/-- A picture that a call has handed back. -/
structure GivesP (w : World) (e : Ending) (w' : World) (m : Int) (k : List Lit) (a : Option Addr) (c : Nat) : Prop where
  ret : e = .returned (.agg #[.int .i64 m, .slice a k.length c])
  own : OwnIn w' w.heap.size w'.heap.size a k
  below : Below w.heap.size w w'
structure ActI (t : Int) (f : Bool) (n : Int) (a : Option Addr) (cap : Nat) (l : List Lit) (m : Int) (k : List Lit) : Prop where
  call : ∀ w : World, LitsAt w a l → Calls Try.prog 29 #[.agg #[.int .i64 t, .bool f], .agg #[.int .i64 n, .slice a l.length cap]] w fun e w' => ∃ b c, GivesP w e w' m k b c
structure ActX (t : Int) (f : Bool) (n : Int) (a : Option Addr) (cap : Nat) (l : List Lit) (m : Int) (k : List Lit) : Prop where
  call : ∀ w : World, LitsAt w a l → Calls Try.prog 51 #[.agg #[.int .i64 t, .bool f], .agg #[.int .i64 n, .slice a l.length cap]] w fun e w' => ∃ b c, GivesP w e w' m k b c
theorem actI_yes {t n : Nat} (f : Bool) {a : Option Addr} {cap : Nat} {l : List Lit} (ht : t < 4) (hp : picB n l = true) : ActI t f n a cap l n (actCols n t f l) := ⟨fun w hr => by
  refine ((actPic f ht hp).call w hr).mono ?_
  rintro e w1 ⟨⟨g, c, ⟨rfl, hown⟩⟩, hb⟩
  obtain ⟨h1, h2⟩ := LitBlk.own hown
  exact ⟨_, c, rfl, .inr ⟨g, rfl, h2, h1.lt, h1⟩, hb⟩⟩
theorem actX_yes {t n : Nat} (f : Bool) {a : Option Addr} {cap : Nat} {l : List Lit} (ht : t < 4) (hp : picB n l = true) (hw : ∀ c ∈ l, c.W) : ActX t f n a cap l n (actCols n t f l) := ⟨fun w hr => by
  have IP := picS n a cap hw
  rw [hp] at IP
  obtain ⟨m, hm, h1, h8, hl, _⟩ := pic_cases hp
  obtain rfl : n = m := by omega
  have h0 : 0 < n * n := Nat.mul_pos h1 h1
  rcases hr with hnil | ⟨b, off, rfl, hR⟩
  · exfalso; rw [hnil] at hl; simp at hl; omega
  have H := act_walk (w := w) (cap := cap) (scat_of f ht h1 h8 hl) (act_len n t f l) hl hR (fun W h => by
    have := IP.call W (.inr ⟨b, off, rfl, h⟩)
    rwa [hl] at this)
  rw [hl]
  refine H.mono ?_
  rintro e w1 ⟨⟨g, c, rfl, ho⟩, hb⟩
  refine ⟨g, c, rfl, ?_, hb⟩
  rcases ho with ho | ⟨b', rfl, h1, h2⟩
  · exact .inl ho
  · exact .inr ⟨b', rfl, h1, h2.lt, h2⟩⟩
theorem gives_p {w w' : World} (hb : Below w.heap.size w w') : ∃ b c, GivesP w (.returned (.agg #[.int .i64 0, .slice Option.none 0 0])) w' 0 [] b c := ⟨Option.none, 0, rfl, .inl rfl, hb⟩
set_option maxHeartbeats 4000000 in
theorem actI_sym {t n : Int} (f : Bool) {a : Option Addr} {cap : Nat} {l : List Lit} (ht : isSymB t = false) : ActI t f n a cap l 0 [] := ⟨fun w _ => by
  have Y := fun w => isSym_not t f w ht
  go_enter Try.func29, Try.ntmps29
  go_wp2_with fail
  refine (Y _).mono ?_
  rintro e w2 ⟨rfl, hb⟩
  have HB : Hid (Below w.heap.size w w2) := by
    show Below w.heap.size w w2
    exact Below.trans (by (repeat' (first | (with_reducible exact Below.refl _ _) | (with_reducible assumption) | (with_reducible refine Below.alloc ?_ ?_ _) | (with_reducible refine Below.drew ?_) | (with_reducible refine Below.setCell ?_ ?_ _) | (with_reducible refine Below.trans ?_ (Below.mono (by assumption) ?_)) | (with_reducible exact Nat.le_refl _) | omega | (simp only [World.size_alloc, World.size_setCell, World.size_drew]; omega) | (simp; omega) | (simp; done)))) (hb.mono (by simp; omega))
  have hR : Blk w2 (w.heap.size + 1 + 1) #[.int .i64 0, .slice Option.none 0 0] 37 := Blk.belowAt hb (Blk.newAt (by simp))
  (have r0 := Blk.cellAt (i := 0) hR rfl; have r1 := Blk.cellAt (i := 1) hR rfl; simp only [List.getElem_toArray, List.getElem_cons_zero, List.getElem_cons_succ] at r0 r1)
  have f0 := hR.free 0
  have f1 := hR.free 1
  clear hb
  (have RS := (hR.set (i := 0) (v := .int .i64 0)).set (i := 1) (v := .slice Option.none 0 0); have e0 := RS.cell 0; have e1 := RS.cell 1; simp only [List.setIfInBounds_toArray, List.set_cons_zero, List.set_cons_succ, List.getElem?_toArray, List.getElem?_cons_zero, List.getElem?_cons_succ] at e0 e1; have HE0 := Hid.mk' e0; have HE1 := Hid.mk' e1; clear RS e0 e1; go_wp2; have e0 := HE0.out; have e1 := HE1.out; have hbx := HB.out; exact bodyPost_ret (v := .agg #[.int .i64 0, .slice Option.none 0 0]) (by simp [results, Try.results29, go_sem, e0, e1]) rfl (gives_p (by (repeat' (first | (with_reducible exact Below.refl _ _) | (with_reducible assumption) | (with_reducible refine Below.alloc ?_ ?_ _) | (with_reducible refine Below.drew ?_) | (with_reducible refine Below.setCell ?_ ?_ _) | (with_reducible refine Below.trans ?_ (Below.mono (by assumption) ?_)) | (with_reducible exact Nat.le_refl _) | omega | (simp only [World.size_alloc, World.size_setCell, World.size_drew]; omega) | (simp; omega) | (simp; done))))))⟩
set_option maxHeartbeats 4000000 in
theorem actI_pic {t n : Int} (f : Bool) {a : Option Addr} {cap : Nat} {l : List Lit} (ht : isSymB t = true) (hp : picB n l = false) : ActI t f n a cap l 0 [] := ⟨fun w hrow => by
  obtain ⟨a1, a2⟩ := isSymB_iff.1 ht
  have Y := fun w => isSym_yes t f w a1 a2
  have IP := picIs n a cap l
  rw [hp] at IP
  have HR : Hid (LitsAt w a l) := hrow
  clear hrow
  go_enter Try.func29, Try.ntmps29
  go_wp2_with fail
  refine (Y _).mono ?_
  rintro e w1 ⟨rfl, hb⟩
  have HB1 : Hid (Below w.heap.size w w1) := by
    show Below w.heap.size w w1
    exact Below.trans (by (repeat' (first | (with_reducible exact Below.refl _ _) | (with_reducible assumption) | (with_reducible refine Below.alloc ?_ ?_ _) | (with_reducible refine Below.drew ?_) | (with_reducible refine Below.setCell ?_ ?_ _) | (with_reducible refine Below.trans ?_ (Below.mono (by assumption) ?_)) | (with_reducible exact Nat.le_refl _) | omega | (simp only [World.size_alloc, World.size_setCell, World.size_drew]; omega) | (simp; omega) | (simp; done)))) (hb.mono (by simp; omega))
  have HP1 : Hid (Blk w1 (w.heap.size + 1) #[.int .i64 n, .slice a l.length cap] 37) := Blk.belowAt hb ((Blk.newAt (by simp)).alloc)
  have HR1 : Hid (Blk w1 (w.heap.size + 1 + 1) #[.int .i64 0, .slice Option.none 0 0] 37) := Blk.belowAt hb (Blk.newAt (by simp))
  clear hb
  (have p0 := Blk.cellAt (i := 0) HP1.out rfl; have p1 := Blk.cellAt (i := 1) HP1.out rfl; simp only [List.getElem_toArray, List.getElem_cons_zero, List.getElem_cons_succ] at p0 p1)
  have l1 := HP1.out.lt
  go_wp2_with fail
  refine (IP.call _ (LitsAt.below HR.out HB1.out)).mono ?_
  rintro e w2 ⟨rfl, hb⟩
  have HB : Hid (Below w.heap.size w w2) := HB1.out.trans (hb.mono (by omega))
  have hR := Blk.belowAt hb HR1.out
  (have r0 := Blk.cellAt (i := 0) hR rfl; have r1 := Blk.cellAt (i := 1) hR rfl; simp only [List.getElem_toArray, List.getElem_cons_zero, List.getElem_cons_succ] at r0 r1)
  have f0 := hR.free 0
  have f1 := hR.free 1
  clear hb p0 p1
  (have RS := (hR.set (i := 0) (v := .int .i64 0)).set (i := 1) (v := .slice Option.none 0 0); have e0 := RS.cell 0; have e1 := RS.cell 1; simp only [List.setIfInBounds_toArray, List.set_cons_zero, List.set_cons_succ, List.getElem?_toArray, List.getElem?_cons_zero, List.getElem?_cons_succ] at e0 e1; have HE0 := Hid.mk' e0; have HE1 := Hid.mk' e1; clear RS e0 e1; go_wp2; have e0 := HE0.out; have e1 := HE1.out; have hbx := HB.out; exact bodyPost_ret (v := .agg #[.int .i64 0, .slice Option.none 0 0]) (by simp [results, Try.results29, go_sem, e0, e1]) rfl (gives_p (by (repeat' (first | (with_reducible exact Below.refl _ _) | (with_reducible assumption) | (with_reducible refine Below.alloc ?_ ?_ _) | (with_reducible refine Below.drew ?_) | (with_reducible refine Below.setCell ?_ ?_ _) | (with_reducible refine Below.trans ?_ (Below.mono (by assumption) ?_)) | (with_reducible exact Nat.le_refl _) | omega | (simp only [World.size_alloc, World.size_setCell, World.size_drew]; omega) | (simp; omega) | (simp; done))))))⟩
set_option maxHeartbeats 4000000 in
theorem actX_sym {t n : Int} (f : Bool) {a : Option Addr} {cap : Nat} {l : List Lit} (ht : isSymB t = false) : ActX t f n a cap l 0 [] := ⟨fun w _ => by
  have Y := isSymS t f
  rw [ht] at Y
  go_enter Try.func51, Try.ntmps51
  go_wp2_with fail
  refine (Y.call _).mono ?_
  rintro e w2 ⟨rfl, hb⟩
  have HB : Hid (Below w.heap.size w w2) := by
    show Below w.heap.size w w2
    exact Below.trans (by (repeat' (first | (with_reducible exact Below.refl _ _) | (with_reducible assumption) | (with_reducible refine Below.alloc ?_ ?_ _) | (with_reducible refine Below.drew ?_) | (with_reducible refine Below.setCell ?_ ?_ _) | (with_reducible refine Below.trans ?_ (Below.mono (by assumption) ?_)) | (with_reducible exact Nat.le_refl _) | omega | (simp only [World.size_alloc, World.size_setCell, World.size_drew]; omega) | (simp; omega) | (simp; done)))) (hb.mono (by simp; omega))
  have hR : Blk w2 (w.heap.size + 1 + 1) #[.int .i64 0, .slice Option.none 0 0] 37 := Blk.belowAt hb (Blk.newAt (by simp))
  (have r0 := Blk.cellAt (i := 0) hR rfl; have r1 := Blk.cellAt (i := 1) hR rfl; simp only [List.getElem_toArray, List.getElem_cons_zero, List.getElem_cons_succ] at r0 r1)
  have f0 := hR.free 0
  have f1 := hR.free 1
  clear hb
  (have RS := (hR.set (i := 0) (v := .int .i64 0)).set (i := 1) (v := .slice Option.none 0 0); have e0 := RS.cell 0; have e1 := RS.cell 1; simp only [List.setIfInBounds_toArray, List.set_cons_zero, List.set_cons_succ, List.getElem?_toArray, List.getElem?_cons_zero, List.getElem?_cons_succ] at e0 e1; have HE0 := Hid.mk' e0; have HE1 := Hid.mk' e1; clear RS e0 e1; go_wp2; have e0 := HE0.out; have e1 := HE1.out; have hbx := HB.out; exact bodyPost_ret (v := .agg #[.int .i64 0, .slice Option.none 0 0]) (by simp [results, Try.results51, go_sem, e0, e1]) rfl (gives_p (by (repeat' (first | (with_reducible exact Below.refl _ _) | (with_reducible assumption) | (with_reducible refine Below.alloc ?_ ?_ _) | (with_reducible refine Below.drew ?_) | (with_reducible refine Below.setCell ?_ ?_ _) | (with_reducible refine Below.trans ?_ (Below.mono (by assumption) ?_)) | (with_reducible exact Nat.le_refl _) | omega | (simp only [World.size_alloc, World.size_setCell, World.size_drew]; omega) | (simp; omega) | (simp; done))))))⟩
set_option maxHeartbeats 4000000 in
theorem actX_pic {t n : Int} (f : Bool) {a : Option Addr} {cap : Nat} {l : List Lit} (ht : isSymB t = true) (hw : ∀ c ∈ l, c.W) (hp : picB n l = false) : ActX t f n a cap l 0 [] := ⟨fun w hrow => by
  have Y := isSymS t f
  rw [ht] at Y
  have IP := picS n a cap hw
  rw [hp] at IP
  have HR : Hid (LitsAt w a l) := hrow
  clear hrow hw
  go_enter Try.func51, Try.ntmps51
  go_wp2_with fail
  refine (Y.call _).mono ?_
  rintro e w1 ⟨rfl, hb⟩
  have HB1 : Hid (Below w.heap.size w w1) := by
    show Below w.heap.size w w1
    exact Below.trans (by (repeat' (first | (with_reducible exact Below.refl _ _) | (with_reducible assumption) | (with_reducible refine Below.alloc ?_ ?_ _) | (with_reducible refine Below.drew ?_) | (with_reducible refine Below.setCell ?_ ?_ _) | (with_reducible refine Below.trans ?_ (Below.mono (by assumption) ?_)) | (with_reducible exact Nat.le_refl _) | omega | (simp only [World.size_alloc, World.size_setCell, World.size_drew]; omega) | (simp; omega) | (simp; done)))) (hb.mono (by simp; omega))
  have HP1 : Hid (Blk w1 (w.heap.size + 1) #[.int .i64 n, .slice a l.length cap] 37) := Blk.belowAt hb ((Blk.newAt (by simp)).alloc)
  have HR1 : Hid (Blk w1 (w.heap.size + 1 + 1) #[.int .i64 0, .slice Option.none 0 0] 37) := Blk.belowAt hb (Blk.newAt (by simp))
  clear hb
  (have p0 := Blk.cellAt (i := 0) HP1.out rfl; have p1 := Blk.cellAt (i := 1) HP1.out rfl; simp only [List.getElem_toArray, List.getElem_cons_zero, List.getElem_cons_succ] at p0 p1)
  have l1 := HP1.out.lt
  go_wp2_with fail
  refine (IP.call _ (LitsAt.below HR.out HB1.out)).mono ?_
  rintro e w2 ⟨rfl, hb⟩
  have HB : Hid (Below w.heap.size w w2) := HB1.out.trans (hb.mono (by omega))
  have hR := Blk.belowAt hb HR1.out
  (have r0 := Blk.cellAt (i := 0) hR rfl; have r1 := Blk.cellAt (i := 1) hR rfl; simp only [List.getElem_toArray, List.getElem_cons_zero, List.getElem_cons_succ] at r0 r1)
  have f0 := hR.free 0
  have f1 := hR.free 1
  clear hb p0 p1
  (have RS := (hR.set (i := 0) (v := .int .i64 0)).set (i := 1) (v := .slice Option.none 0 0); have e0 := RS.cell 0; have e1 := RS.cell 1; simp only [List.setIfInBounds_toArray, List.set_cons_zero, List.set_cons_succ, List.getElem?_toArray, List.getElem?_cons_zero, List.getElem?_cons_succ] at e0 e1; have HE0 := Hid.mk' e0; have HE1 := Hid.mk' e1; clear RS e0 e1; go_wp2; have e0 := HE0.out; have e1 := HE1.out; have hbx := HB.out; exact bodyPost_ret (v := .agg #[.int .i64 0, .slice Option.none 0 0]) (by simp [results, Try.results51, go_sem, e0, e1]) rfl (gives_p (by (repeat' (first | (with_reducible exact Below.refl _ _) | (with_reducible assumption) | (with_reducible refine Below.alloc ?_ ?_ _) | (with_reducible refine Below.drew ?_) | (with_reducible refine Below.setCell ?_ ?_ _) | (with_reducible refine Below.trans ?_ (Below.mono (by assumption) ?_)) | (with_reducible exact Nat.le_refl _) | omega | (simp only [World.size_alloc, World.size_setCell, World.size_drew]; omega) | (simp; omega) | (simp; done))))))⟩

/-- What ActPicture gives, of both. -/
theorem act_both (t : Int) (f : Bool) (n : Int) {l : List Lit} (hw : ∀ c ∈ l, c.W) : ∃ m k, (∀ a cap, ActI t f n a cap l m k) ∧ (∀ a cap, ActX t f n a cap l m k) ∧ k.length ≤ 64 ∧ ∀ c ∈ k, c.W := by
  by_cases ht : isSymB t = true
  · by_cases hp : picB n l = true
    · obtain ⟨a1, a2⟩ := isSymB_iff.1 ht
      obtain ⟨u, rfl⟩ : ∃ u : Nat, t = u := ⟨t.toNat, by omega⟩
      obtain ⟨m, rfl, h1, h8, hl, _⟩ := pic_cases hp
      have h4 : u < 4 := by omega
      refine ⟨_, _, fun a cap => actI_yes f h4 hp, fun a cap => actX_yes f h4 hp hw, ?_, ?_⟩
      · rw [act_len]
        exact Nat.le_trans (Nat.mul_le_mul h8 h8) (by omega)
      · intro c hc
        have hJ := back_in ⟨u, h4⟩ f
        dsimp only at hJ
        unfold actCols colsTo at hc
        obtain ⟨k, hk', rfl⟩ := List.mem_map.1 hc
        have hk' := List.mem_range.1 hk'
        exact hw _ (getD_mem (by rw [hl]; exact cell_lt' h8 hk' hJ.2))
    · have hp' : picB n l = false := by simpa using hp
      exact ⟨_, _, fun a cap => actI_pic f ht hp', fun a cap => actX_pic f ht hw hp', by simp, by simp⟩
  · have ht' : isSymB t = false := by simpa using ht
    exact ⟨_, _, fun a cap => actI_sym f ht', fun a cap => actX_sym f ht', by simp, by simp⟩
end Go.Proofs.Ytlnikapkheldeaa

/-
  The model's SamePicture.
-/
namespace Go.Proofs.Ytlnikapkheldeaa
open Go.ChangeShapes Go.WideShapes Go.ChangeAt Go.RowKit Go.Joins
set_option linter.unusedSimpArgs false
set_option linter.unusedVariables false
set_option maxRecDepth 100000
attribute [local go_sem] store_f
open Ieee

structure SameZ (n : Int) (a : Option Addr) (ca : Nat) (l : List Lit) (m : Int) (b : Option Addr) (cb : Nat) (k : List Lit) (p : Bool) : Prop where
  call : ∀ w : World, LitsAt w a l → LitsAt w b k → Calls Try.prog 54 #[.agg #[.int .i64 n, .slice a l.length ca], .agg #[.int .i64 m, .slice b k.length cb]] w fun e w' => e = .returned (.bool p) ∧ Below w.heap.size w w'
set_option maxHeartbeats 8000000 in
theorem sameZ_all {n : Int} {a : Option Addr} {ca : Nat} {l : List Lit} {b : Option Addr} {cb : Nat} {k : List Lit} (h : l.length = k.length) (hb : l.length ≤ 1000000000) : SameZ n a ca l n b cb k (colsEq l k) := ⟨fun w hr1 hr2 => by
  have R1 : Hid (LitsAt w a l) := hr1
  have R2 : Hid (LitsAt w b k) := hr2
  obtain ⟨N, hN⟩ : ∃ N : Nat, N = l.length := ⟨_, rfl⟩
  have HN1 : Hid (N = l.length) := hN
  have HN2 : Hid (N = k.length) := hN.trans h
  have HI : Hid (colsEq l k = true ↔ ∀ i, i < N → colEq (l.getD i default) (k.getD i default) = true) := by rw [hN]; exact colsEq_iff h
  have hNb : N ≤ 1000000000 := by omega
  rw [← hN, ← HN2.out]
  clear hr1 hr2 h hb hN
  generalize colsEq l k = p at HI ⊢
  go_enter Try.func54, Try.ntmps54
  go_wp2_with fail
  generalize hW : (w.alloc (.cells #[.int .i64 n, .slice a N ca] 37)).alloc (.cells #[.int .i64 n, .slice b N cb] 37) = X
  have P0 : Hid (Blk X w.heap.size #[.int .i64 n, .slice a N ca] 37) := by rw [← hW]; exact (Blk.new _ _ _).alloc
  have Q0 : Hid (Blk X (w.heap.size + 1) #[.int .i64 n, .slice b N cb] 37) := by rw [← hW]; exact Blk.newAt (by simp)
  have B0 : Hid (Below w.heap.size w X) := by rw [← hW]; show Below w.heap.size w _; (repeat' (first | (with_reducible exact Below.refl _ _) | (with_reducible assumption) | (with_reducible refine Below.alloc ?_ ?_ _) | (with_reducible refine Below.drew ?_) | (with_reducible refine Below.setCell ?_ ?_ _) | (with_reducible refine Below.trans ?_ (Below.mono (by assumption) ?_)) | (with_reducible exact Nat.le_refl _) | omega | (simp only [World.size_alloc, World.size_setCell, World.size_drew]; omega) | (simp; omega) | (simp; done)))
  clear hW
  go_loopw [23] (fun i wr => ∃ j : Nat, j ≤ N ∧ i = .int .i64 j ∧ (∀ i, i < j → colEq (l.getD i default) (k.getD i default) = true) ∧ Below X.heap.size X wr) (fun i _ => N - (intOf i).toNat)
  case atStart => exact ⟨0, by omega, rfl, fun i hi => absurd hi (by omega), Below.refl _ _⟩
  case round =>
    obtain ⟨j, hj, rfl, hall, hbel⟩ := hrel
    have HB : Hid (Below X.heap.size X wr) := hbel
    have HBW : Hid (Below w.heap.size w wr) := B0.out.trans (hbel.mono B0.out.size)
    have HL : Hid (∀ i, i < j → colEq (l.getD i default) (k.getD i default) = true) := hall
    have hbs := hbel.size
    clear hall
    by_cases hlt : j < N
    · rcases R1.out with hnil | ⟨b1, o1, rfl, hR1⟩
      · exfalso
        have := HN1.out
        rw [hnil] at this
        simp at this
        omega
      rcases R2.out with hnil | ⟨b2, o2, rfl, hR2⟩
      · exfalso
        have := HN2.out
        rw [hnil] at this
        simp at this
        omega
      obtain ⟨d0, d1, d2⟩ := (LitRow.below hR1 HBW.out) j (by have := HN1.out; omega)
      obtain ⟨e0, e1, e2⟩ := (LitRow.below hR2 HBW.out) j (by have := HN2.out; omega)
      have HS : Hid (colEq (l.getD j default) (k.getD j default) = true → ∀ i, i < j + 1 → colEq (l.getD i default) (k.getD i default) = true) := fun h i hi => by
        rcases (by omega : i < j ∨ i = j) with h1 | rfl
        · exact HL.out i h1
        · exact h
      have HX : Hid (colEq (l.getD j default) (k.getD j default) = false → p = false) := fun h => by
        cases hp : p
        · rfl
        · have := (HI.out.1 hp) j hlt
          rw [h] at this
          exact absurd this (by decide)
      have op := fun w => run_eq_lit (l.getD j default) (k.getD j default) w
      generalize colEq (l.getD j default) (k.getD j default) = q at op HS HX
      generalize l.getD j default = c at *
      generalize k.getD j default = d at *
      have P1 := P0.out.below hbel
      have Q1 := Q0.out.below hbel
      (have p0 := Blk.cellAt (i := 0) P1 rfl; have p1 := Blk.cellAt (i := 1) P1 rfl; simp only [List.getElem_toArray, List.getElem_cons_zero, List.getElem_cons_succ] at p0 p1)
      (have q0 := Blk.cellAt (i := 0) Q1 rfl; have q1 := Blk.cellAt (i := 1) Q1 rfl; simp only [List.getElem_toArray, List.getElem_cons_zero, List.getElem_cons_succ] at q0 q1)
      have hj0 : (0 : Int) ≤ (j : Int) := by omega
      have hj1 : (j : Int) < (N : Int) := by omega
      clear hR1 hR2 P1 Q1 hbel
      cases q
      · have hp : p = false := HX.out rfl
        subst hp
        clear HX HS HI
        go_wp2_with fail
        go_quiet (fail)
        go_wp2
        go_ret
        exact ⟨rfl, HBW.out.trans (below_draws _ _ _)⟩
      · clear HX
        go_wp2_with fail
        go_quiet (fail)
        go_wp2
        go_roundw
        case rel => exact ⟨j + 1, by omega, by go_num, HS.out (by simp), HB.out.trans (below_draws _ _ _)⟩
        case measure => simp [intOf]; omega
    · have hjm : j = N := by omega
      subst hjm
      have hp : p = true := HI.out.2 HL.out
      subst hp
      clear hbel
      go_wp2
      go_ret
      exact ⟨rfl, HBW.out⟩⟩
set_option maxHeartbeats 4000000 in
theorem sameZ_no {n : Int} {a : Option Addr} {ca : Nat} {l : List Lit} {m : Int} {b : Option Addr} {cb : Nat} {k : List Lit} (h : n ≠ m ∨ l.length ≠ k.length) : SameZ n a ca l m b cb k false := ⟨fun w hr1 hr2 => by
  clear hr1 hr2
  by_cases h1 : n = m
  · subst h1
    have h2 : ((l.length : Int) == (k.length : Int)) = false := by simp; omega
    have h3 : decide (l.length = k.length) = false := by simp; omega
    have h4 : ((n == n) : Bool) = true := by simp
    go_enter Try.func54, Try.ntmps54
    go_wp2
    go_ret
    exact ⟨rfl, by (repeat' (first | (with_reducible exact Below.refl _ _) | (with_reducible assumption) | (with_reducible refine Below.alloc ?_ ?_ _) | (with_reducible refine Below.drew ?_) | (with_reducible refine Below.setCell ?_ ?_ _) | (with_reducible refine Below.trans ?_ (Below.mono (by assumption) ?_)) | (with_reducible exact Nat.le_refl _) | omega | (simp only [World.size_alloc, World.size_setCell, World.size_drew]; omega) | (simp; omega) | (simp; done)))⟩
  · have hne : (n == m) = false := by simpa using h1
    go_enter Try.func54, Try.ntmps54
    go_wp2
    go_ret
    exact ⟨rfl, by (repeat' (first | (with_reducible exact Below.refl _ _) | (with_reducible assumption) | (with_reducible refine Below.alloc ?_ ?_ _) | (with_reducible refine Below.drew ?_) | (with_reducible refine Below.setCell ?_ ?_ _) | (with_reducible refine Below.trans ?_ (Below.mono (by assumption) ?_)) | (with_reducible exact Nat.le_refl _) | omega | (simp only [World.size_alloc, World.size_setCell, World.size_drew]; omega) | (simp; omega) | (simp; done)))⟩⟩
theorem sameZ {n : Int} {a : Option Addr} {ca : Nat} {l : List Lit} {m : Int} {b : Option Addr} {cb : Nat} {k : List Lit} (hb : l.length ≤ 1000000000) : SameZ n a ca l m b cb k (n == m && colsEq l k) := by
  by_cases h1 : n = m
  · subst h1
    by_cases h2 : l.length = k.length
    · have h := sameZ_all (n := n) (a := a) (ca := ca) (b := b) (cb := cb) h2 hb
      simpa using h
    · rw [colsEq_len h2, Bool.and_false]
      exact sameZ_no (.inr h2)
  · have e : (n == m && colsEq l k) = false := by simp [h1]
    rw [e]
    exact sameZ_no (.inl h1)
end Go.Proofs.Ytlnikapkheldeaa
