/-
  The cursor of a draw: what a byte of it may be.
-/
import Derived.Test.YtfdgijmmgllmgaaGrow
import Derived.Deep.QuietTactic
import Derived.BigQuiet
namespace Go.Proofs.Ytfdgijmmgllmgaa
open Go.ChangeShapes Go.WideShapes Go.ChangeAt Go.RowKit Go.Joins 
set_option linter.unusedSimpArgs false
set_option linter.unusedVariables false
theorem and255 (x : Int) : 0 ≤ bits .and .i64 x 255 ∧ bits .and .i64 x 255 ≤ 255 := by
  unfold bits
  have h : (BitVec.ofInt IntKind.i64.bits x &&& BitVec.ofInt IntKind.i64.bits 255).toNat ≤ 255 := by
    rw [BitVec.toNat_and]
    have e : (BitVec.ofInt IntKind.i64.bits 255).toNat = 255 := by decide
    rw [e]
    exact Nat.and_le_right
  simp only []
  generalize (BitVec.ofInt IntKind.i64.bits x &&& BitVec.ofInt IntKind.i64.bits 255).toNat = n at h
  rw [IntWalk.i64_in _ (by omega)]
  omega

/-- The bytes that a cursor reads, in a block below B. -/
def ByteRow (W : World) (B : Nat) (a : Option Addr) (len : Nat) (bs : List Int) : Prop :=
  len = 0 ∨ ∃ b off, a = some ⟨b, off, Option.none⟩ ∧ b < B ∧ ∀ k, k < len → W.cell? ⟨b, off + k, Option.none⟩ = some (.int .u8 (bs.getD k 0)) ∧ 0 ≤ bs.getD k 0 ∧ bs.getD k 0 ≤ 255

/-- A cursor in block q, over bytes below B. -/
def Cur (B : Nat) (W : World) (q : Nat) : Prop :=
  ∃ (a : Option Addr) (len cap : Nat) (bs : List Int) (i : Nat) (h : Int), Blk W q #[.slice a len cap, .int .i64 i, .int .i64 h] 96 ∧ i ≤ len ∧ len ≤ 4096 ∧ ByteRow W B a len bs ∧ B ≤ q

theorem ByteRow.of {W w1 : World} {B : Nat} {a : Option Addr} {len : Nat} {bs : List Int} (h : ByteRow W B a len bs) (hb : Below B W w1) : ByteRow w1 B a len bs := by
  rcases h with h | ⟨b, off, e, hlt, h⟩
  · exact .inl h
  · exact .inr ⟨b, off, e, hlt, fun k hk => ⟨(hb.cell (p := ⟨b, off + k, Option.none⟩) hlt).trans (h k hk).1, (h k hk).2⟩⟩
theorem Cur.below {W w1 : World} {B q : Nat} (h : Cur B W q) (hb : Below W.heap.size W w1) : Cur B w1 q := by
  obtain ⟨a, len, cap, bs, i, h, h1, h2, h3, h4, h5⟩ := h
  have := h1.lt
  exact ⟨a, len, cap, bs, i, h, h1.below hb, h2, h3, h4.of (hb.mono (by omega)), h5⟩
theorem grownBy_draws {w w1 : World} {r : Option Nat} {n : Nat} (h : w.grownBy w1 r) : w.grownBy (w1.drewN n) r := ⟨h.os, h.tape, h.output, h.size, h.block⟩
theorem grownBy_trans {w w1 w2 : World} {r : Nat} (h : w.grownBy w1 (some r)) (k : w1.grownBy w2 (some r)) : w.grownBy w2 (some r) :=
  ⟨k.os.trans h.os, k.tape.trans h.tape, k.output.trans h.output, Nat.le_trans h.size k.size, fun i hi hne => (k.block i (Nat.lt_of_lt_of_le hi h.size) hne).trans (h.block i hi hne)⟩
theorem below_of_grown {B : Nat} {w w1 : World} {r : Nat} (h : w.grownBy w1 (some r)) (hr : B ≤ r) (hB : B ≤ w.heap.size) : Below B w w1 :=
  (Below.refl B w).grown h hB (fun k hk => by cases hk; exact hr)

set_option maxHeartbeats 4000000 in
set_option maxRecDepth 1000000 in
theorem l1Byte_s (B q : Nat) (w : World) (hcur : Cur B w q) :
    Calls Try.prog 94 #[.pointer (some ⟨q, 0, Option.none⟩)] w fun e w' => ∃ x : Int, e = .returned (.int .i64 x) ∧ 0 ≤ x ∧ x ≤ 255 ∧ Cur B w' q ∧ w.grownBy w' (some q) := by
  obtain ⟨a, len, cap, bs, i, h, hblk, hil, hlen, hrow, hBq⟩ := hcur
  have c0 : w.cell? ⟨q, 0, Option.none⟩ = some (.slice a len cap) := hblk.cell 0
  have c1 : w.cell? ⟨q, 1, Option.none⟩ = some (.int .i64 i) := hblk.cell 1
  have c2 : w.cell? ⟨q, 2, Option.none⟩ = some (.int .i64 h) := hblk.cell 2
  have f0 := hblk.free 0
  have f1 := hblk.free 1
  have f2 := hblk.free 2
  have HB : Hid (Blk w q #[.slice a len cap, .int .i64 i, .int .i64 h] 96) := hblk
  have HBlt : Hid (q < w.heap.size) := hblk.lt
  clear hblk
  by_cases hi : i < len
  · rcases hrow with h0 | ⟨b, off, rfl, hbB, hrow⟩
    · omega
    have hx := (hrow i hi).1
    have hx0 := (hrow i hi).2.1
    have hx1 := (hrow i hi).2.2
    have HR : Hid (∀ k, k < len → w.cell? ⟨b, off + k, Option.none⟩ = some (.int .u8 (bs.getD k 0)) ∧ 0 ≤ bs.getD k 0 ∧ bs.getD k 0 ≤ 255) := hrow
    clear hrow
    generalize bs.getD i 0 = x at hx hx0 hx1
    go_enter Try.func94, Try.ntmps94
    go_wp2_with fail
    generalize wrap64 (wrap64 (h * 6364136223846793005) + 1442695040888963407) = h2
    have HB2 : Hid (Blk (w.setCell ⟨q, 2, Option.none⟩ (.int .i64 h2)) q #[.slice (some ⟨b, off, Option.none⟩) len cap, .int .i64 i, .int .i64 h2] 96) := HB.out.set
    have g2 : w.grownBy (w.setCell ⟨q, 2, Option.none⟩ (.int .i64 h2)) (some q) := grownBy_set (grownBy_refl _ _)
    have hx2 : (w.setCell ⟨q, 2, Option.none⟩ (.int .i64 h2)).cell? ⟨b, off + i, Option.none⟩ = some (.int .u8 x) := cSet (by dsimp only; omega) hx
    clear hx
    clear c0 c1 c2 f0 f1 f2 HB
    generalize w.setCell ⟨q, 2, Option.none⟩ (.int .i64 h2) = wx at *
    have c0 : wx.cell? ⟨q, 0, Option.none⟩ = some (.slice (some ⟨b, off, Option.none⟩) len cap) := HB2.out.cell 0
    have c1 : wx.cell? ⟨q, 1, Option.none⟩ = some (.int .i64 i) := HB2.out.cell 1
    have c2 : wx.cell? ⟨q, 2, Option.none⟩ = some (.int .i64 h2) := HB2.out.cell 2
    have f0 := HB2.out.free 0
    have f1 := HB2.out.free 1
    have f2 := HB2.out.free 2
    go_quiet (fail)
    go_wp2_with fail
    go_quiet (fail)
    go_wp2_with fail
    go_quiet (fail)
    go_wp2
    go_ret
    have g3 : w.grownBy (wx.setCell ⟨q, 1, Option.none⟩ (.int .i64 ((i : Int) + 1))) (some q) := grownBy_set g2
    refine ⟨_, rfl, (and255 _).1, (and255 _).2, ?_, ?_⟩
    · refine ⟨some ⟨b, off, Option.none⟩, len, cap, bs, i + 1, h2, (HB2.out.set : Blk (wx.setCell ⟨q, 1, Option.none⟩ (.int .i64 ((i : Int) + 1))) q _ _), by omega, hlen, ?_, hBq⟩
      exact (ByteRow.of (W := w) (B := B) (.inr ⟨b, off, rfl, hbB, HR.out⟩) (below_of_grown g3 hBq (by have := HBlt.out; omega)) :)
    · exact grownBy_set (grownBy_draws g2)
  · have hil2 : i = len := by omega
    have hi2 : ¬ (i : Int) < (len : Int) := by omega
    go_enter Try.func94, Try.ntmps94
    go_wp2_with fail
    generalize wrap64 (wrap64 (h * 6364136223846793005) + 1442695040888963407) = h2
    have HB2 : Hid (Blk (w.setCell ⟨q, 2, Option.none⟩ (.int .i64 h2)) q #[.slice a len cap, .int .i64 i, .int .i64 h2] 96) := HB.out.set
    have g2 : w.grownBy (w.setCell ⟨q, 2, Option.none⟩ (.int .i64 h2)) (some q) := grownBy_set (grownBy_refl _ _)
    clear c0 c1 c2 f0 f1 f2 HB
    generalize w.setCell ⟨q, 2, Option.none⟩ (.int .i64 h2) = wx at *
    have c0 : wx.cell? ⟨q, 0, Option.none⟩ = some (.slice a len cap) := HB2.out.cell 0
    have c1 : wx.cell? ⟨q, 1, Option.none⟩ = some (.int .i64 i) := HB2.out.cell 1
    have c2 : wx.cell? ⟨q, 2, Option.none⟩ = some (.int .i64 h2) := HB2.out.cell 2
    have f0 := HB2.out.free 0
    have f1 := HB2.out.free 1
    have f2 := HB2.out.free 2
    go_quiet (fail)
    go_wp2_with fail
    go_quiet (fail)
    go_wp2_with fail
    go_ret
    refine ⟨_, rfl, (and255 _).1, (and255 _).2, ?_, ?_⟩
    · exact ⟨_, _, _, bs, _, _, HB2.out, hil, hlen, hrow.of (below_of_grown (grownBy_draws (grownBy_draws g2)) hBq (by have := HBlt.out; omega)), hBq⟩
    · exact grownBy_draws (grownBy_draws g2)

set_option maxHeartbeats 4000000 in
set_option maxRecDepth 1000000 in
theorem l1Below_s (B q : Nat) (n : Int) (w : World) (hcur : Cur B w q) (h1 : 1 ≤ n) (h2 : n ≤ 256) :
    Calls Try.prog 59 #[.pointer (some ⟨q, 0, Option.none⟩), .int .i64 n] w fun e w' => ∃ x : Int, e = .returned (.int .i64 x) ∧ 0 ≤ x ∧ x < n ∧ Cur B w' q ∧ w.grownBy w' (some q) := by
  have HC : Hid (Cur B w q) := hcur
  clear hcur
  go_enter Try.func59, Try.ntmps59
  go_wp2_with fail
  refine (l1Byte_s B q _ HC.out).mono ?_
  rintro e w1 ⟨x, rfl, hx0, hx1, hc1, hg1⟩
  have HC1 : Hid (Cur B w1 q) := hc1
  have HG1 : Hid (w.grownBy w1 (some q)) := hg1
  clear hc1 hg1
  go_wp2
  go_ret
  exact ⟨_, rfl, Int.emod_nonneg _ (by omega), Int.emod_lt_of_pos _ (by omega), HC1.out, HG1.out⟩

set_option maxHeartbeats 4000000 in
set_option maxRecDepth 1000000 in
theorem l1New_s (a : Option Addr) (len cap : Nat) (bs : List Int) (w : World) (hrow : ByteRow w w.heap.size a len bs) (hlen : len ≤ 4096) :
    Calls Try.prog 27 #[.slice a len cap] w fun e w' => ∃ q, e = .returned (.pointer (some ⟨q, 0, Option.none⟩)) ∧ q < w'.heap.size ∧ Cur w.heap.size w' q ∧ Below w.heap.size w w' := by
  have HR : Hid (ByteRow w w.heap.size a len bs) := hrow
  clear hrow
  go_enter Try.func27, Try.ntmps27
  go_wp2
  go_loop [3, 4] (fun s i => ∃ (k : Nat) (h : Int), k ≤ len ∧ i = .int .i64 k ∧ s = .int .i64 h) (fun _ i => len - (intOf i).toNat)
  case atStart => exact ⟨0, _, by omega, rfl, rfl⟩
  case round =>
    obtain ⟨k, h, hk, rfl, rfl⟩ := hrel
    by_cases hlt : k < len ∧ k < 4000
    · obtain ⟨hl1, hl2⟩ := hlt
      rcases HR.out with h0 | ⟨b, off, rfl, hbB, hr⟩
      · omega
      obtain ⟨hx, hx0, hx1⟩ := hr k hl1
      clear hr
      generalize bs.getD k 0 = x at hx hx0 hx1
      go_wp2
      go_round
      case rel => exact ⟨k + 1, _, by omega, by go_num, rfl⟩
      case measure => simp [intOf]; omega
    · by_cases hl1 : k < len
      · have hl2 : ¬ (k : Int) < 4000 := by omega
        go_wp2
        go_ret
        refine ⟨_, rfl, by simp, ⟨a, len, cap, bs, 0, _, Blk.new _ _ _, by omega, hlen, HR.out.of ((Below.refl _ _).alloc (Nat.le_refl _) _), Nat.le_refl _⟩, by (repeat' (first | (with_reducible exact Below.refl _ _) | (with_reducible assumption) | (with_reducible refine Below.alloc ?_ ?_ _) | (with_reducible refine Below.drew ?_) | (with_reducible refine Below.setCell ?_ ?_ _) | (with_reducible refine Below.trans ?_ (Below.mono (by assumption) ?_)) | (with_reducible exact Nat.le_refl _) | omega | (simp only [World.size_alloc, World.size_setCell, World.size_drew]; omega) | (simp; omega) | (simp; done)))⟩
      · have hl3 : ¬ (k : Int) < (len : Int) := by omega
        go_wp2
        go_ret
        refine ⟨_, rfl, by simp, ⟨a, len, cap, bs, 0, _, Blk.new _ _ _, by omega, hlen, HR.out.of ((Below.refl _ _).alloc (Nat.le_refl _) _), Nat.le_refl _⟩, by (repeat' (first | (with_reducible exact Below.refl _ _) | (with_reducible assumption) | (with_reducible refine Below.alloc ?_ ?_ _) | (with_reducible refine Below.drew ?_) | (with_reducible refine Below.setCell ?_ ?_ _) | (with_reducible refine Below.trans ?_ (Below.mono (by assumption) ?_)) | (with_reducible exact Nat.le_refl _) | omega | (simp only [World.size_alloc, World.size_setCell, World.size_drew]; omega) | (simp; omega) | (simp; done)))⟩

theorem big_no (a : Option Addr) (len cap : Nat) (w : World) (h : len ≤ 4096) :
    Calls Try.prog 6 #[.slice a len cap] w fun e w' => e = .returned (.bool false) ∧ w = w' := by
  have h1 : ¬ (4096 : Int) < (len : Int) := by omega
  go_enter Try.func6, Try.ntmps6
  go_wp2
  go_ret
  exact ⟨by first | rfl | (simp; omega), rfl⟩
theorem big_yes (a : Option Addr) (len cap : Nat) (w : World) (h : ¬ len ≤ 4096) :
    Calls Try.prog 6 #[.slice a len cap] w fun e w' => e = .returned (.bool true) ∧ w = w' := by
  have h1 : (4096 : Int) < (len : Int) := by omega
  go_enter Try.func6, Try.ntmps6
  go_wp2
  go_ret
  exact ⟨by first | rfl | (simp; omega), rfl⟩

set_option maxRecDepth 100000 in
theorem open_bytes {H : Type} {enc : TypeId × Value → H} {W : World} {base : Nat} {spare : Nat → Bool} {held : Bool} {v : Value} {d : DataW H} {p : List MemPlace}
    (hok : Value.okWide Try.prog W .any base 22 v) (h : DataW.Trod enc Try.prog W 0 spare held 22 v d p) :
    ∃ (a : Option Addr) (len cap : Nat) (z : List Int), v = .slice a len cap ∧ ByteRow W W.heap.size a len z := by
  obtain ⟨a, len, cap, rfl⟩ := okWide_slice Try.underlying22 hok
  obtain ⟨fuel, hf⟩ := h
  rcases open_ints Try.underlying22 Try.underlying5 (by kernel_rfl) hf with ⟨hcs, _⟩ | ⟨x, l, c, zs, hcs, _, hl, hm, hz, _, hcell, hwf⟩
  · simp [Value.cells] at hcs
    obtain ⟨rfl, rfl, rfl⟩ := hcs
    exact ⟨_, _, _, [], rfl, .inl rfl⟩
  · simp [Value.cells] at hcs
    obtain ⟨rfl, rfl, rfl⟩ := hcs
    have hz' : len ≤ zs.length := by
      try simp only [] at hz
      rw [hz]
      split <;> omega
    refine ⟨_, _, _, zs, rfl, ?_⟩
    by_cases h0 : len = 0
    · exact .inl h0
    · obtain ⟨b, off, rfl, hc⟩ := ints_at hcell (by omega)
      refine .inr ⟨b, off, rfl, cell_lt (hc 0 (by omega)), fun k hk => ⟨hc k (by omega), ?_⟩⟩
      have hmem : zs.getD k 0 ∈ zs := by
        have : k < zs.length := by omega
        simp [List.getD, this]
      have := bounds_u8 (hwf _ hmem)
      omega
end Go.Proofs.Ytfdgijmmgllmgaa
