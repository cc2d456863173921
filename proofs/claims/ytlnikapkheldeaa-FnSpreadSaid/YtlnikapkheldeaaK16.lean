/-
  Texts of this proof, joined: Hm, Hn, Ma, Open, Atwo, Aone, Cone, Ctwo, Sone, Sthree.
-/
import Derived.Test.YtlnikapkheldeaaK15
import Derived.Deep.QuietTactic
import Derived.BigQuiet
import Derived.Test.YtlnikapkheldeaaK09
import Derived.Test.YtlnikapkheldeaaK11
import Derived.Test.YtlnikapkheldeaaK01
import Derived.Test.YtlnikapkheldeaaK07
import Derived.Test.YtlnikapkheldeaaK02
import Derived.Test.YtlnikapkheldeaaK08
import Derived.Test.YtlnikapkheldeaaK12
import Derived.Maps.AppendAt
/-
  slices.Contains on symmetries; hasAllSyms of the program.
-/
namespace Go.Proofs.Ytlnikapkheldeaa
open Go.ChangeShapes Go.WideShapes Go.ChangeAt Go.RowKit Go.Joins
set_option linter.unusedSimpArgs false
set_option linter.unusedVariables false
set_option maxRecDepth 100000
attribute [local go_sem] store_f
open Ieee

/-- A list of symmetries as a slice shows it. -/
structure IdxIs (w : World) (e : Ending) (w' : World) (p : Bool) (r : Int) : Prop where
  ret : e = .returned (.int .i64 r)
  yes : decide (0 ≤ r) = p
  below : Below w.heap.size w w'
set_option maxHeartbeats 8000000 in
theorem index_i (l : List (Int × Bool)) (g cap : Nat) (t : Int) (f : Bool) (w : World) (hsm : l.length ≤ 1000000) (hl : SymRow w g l) :
    Calls Try.prog 169 #[.slice (some ⟨g, 0, Option.none⟩) l.length cap, .agg #[.int .i64 t, .bool f]] w fun e w' => ∃ r, IdxIs w e w' (decide ((t, f) ∈ l)) r := by
  have HR : Hid (SymRow w g l) := hl
  obtain ⟨n, hn⟩ : ∃ n : Nat, n = l.length := ⟨_, rfl⟩
  have HN : Hid (n = l.length) := hn
  have hsm' : n ≤ 1000000 := by omega
  rw [← hn]
  clear hl hn hsm
  go_enter Try.func169, Try.ntmps169
  go_wp2
  go_loopw [8] (fun i wr => ∃ k : Nat, k ≤ n ∧ i = .int .i64 k ∧ (t, f) ∉ l.take k ∧ Below w.heap.size w wr ∧ Blk wr w.heap.size #[.int .i64 t, .bool f] 25) (fun i _ => n - (intOf i).toNat)
  case atStart => exact ⟨0, by omega, rfl, by simp, by (repeat' (first | (with_reducible exact Below.refl _ _) | (with_reducible assumption) | (with_reducible refine Below.alloc ?_ ?_ _) | (with_reducible refine Below.drew ?_) | (with_reducible refine Below.setCell ?_ ?_ _) | (with_reducible refine Below.trans ?_ (Below.mono (by assumption) ?_)) | (with_reducible exact Nat.le_refl _) | omega | (simp only [World.size_alloc, World.size_setCell, World.size_drew]; omega) | (simp; omega) | (simp; done))), Blk.new _ _ _⟩
  case round =>
    obtain ⟨k, hk, rfl, hin, hbel, hblk⟩ := hrel
    have HIN : Hid ((t, f) ∉ l.take k) := hin
    clear hin
    have b0 : wr.cell? ⟨w.heap.size, 0, Option.none⟩ = some (.int .i64 t) := hblk.cell 0
    have b1 : wr.cell? ⟨w.heap.size, 1, Option.none⟩ = some (.bool f) := hblk.cell 1
    have HBK : Hid (Blk wr w.heap.size #[.int .i64 t, .bool f] 25) := hblk
    clear hblk
    by_cases hlt : k < n
    · have hA := (HR.out).below hbel k (by have := HN.out; omega)
      have hd : l.take (k + 1) = l.take k ++ [l.getD k (0, false)] := by
        have h2 := HN.out
        have e : l.getD k (0, false) = l[k] := by simp [List.getD, show k < l.length by omega]
        rw [List.take_succ_eq_append_getElem (by omega), e]
      have hm : l.getD k (0, false) ∈ l := by
        have h2 := HN.out
        simp [List.getD, show k < l.length by omega]
      generalize l.getD k (0, false) = p at hA hd hm
      obtain ⟨t2, f2⟩ := p
      obtain ⟨a0, a1⟩ := hA
      simp only [] at a0 a1
      have HD : Hid (l.take (k + 1) = l.take k ++ [(t2, f2)]) := hd
      have HM : Hid ((t2, f2) ∈ l) := hm
      clear hd hm
      have hk0 : (0 : Int) ≤ (k : Int) := by omega
      have hk1 : (k : Int) < (n : Int) := by omega
      by_cases ht : t = t2
      · subst ht
        by_cases hf : f = f2
        · subst hf
          go_wp2_with fail
          go_quiet (fail)
          go_wp2
          go_ret
          exact ⟨k, rfl, by have := HM.out; simp [this], hbel.trans (below_draws _ _ _)⟩
        · have hf2 : (f == f2) = false := by simpa using hf
          go_wp2_with fail
          go_quiet (fail)
          go_wp2
          have hds := hbel.size
          go_roundw
          case rel =>
            refine ⟨k + 1, by omega, by go_num, ?_, hbel.trans (below_draws _ _ _), HBK.out⟩
            rw [HD.out, List.mem_append]
            rintro (h | h)
            · exact HIN.out h
            · simp at h
              exact hf h
          case measure => simp [intOf]; omega
      · have ht2 : (t == t2) = false := by simpa using ht
        go_wp2_with fail
        go_quiet (fail)
        go_wp2
        have hds := hbel.size
        go_roundw
        case rel =>
          refine ⟨k + 1, by omega, by go_num, ?_, hbel.trans (below_draws _ _ _), HBK.out⟩
          rw [HD.out, List.mem_append]
          rintro (h | h)
          · exact HIN.out h
          · simp at h
            exact ht h.1
        case measure => simp [intOf]; omega
    · have hkn : k = n := by omega
      subst hkn
      have HIN' : Hid ((t, f) ∉ l) := by
        have h := HIN.out
        rw [HN.out, List.take_length] at h
        exact h
      go_wp2
      go_ret
      exact ⟨-1, rfl, by have := HIN'.out; simp [this], hbel⟩

structure ContM (l : List (Int × Bool)) (g cap : Nat) (t : Int) (f : Bool) (p : Bool) : Prop where
  call : ∀ w : World, SymRow w g l → Calls Try.prog 132 #[.slice (some ⟨g, 0, Option.none⟩) l.length cap, .agg #[.int .i64 t, .bool f]] w fun e w' => e = .returned (.bool p) ∧ Below w.heap.size w w'
theorem contM {l : List (Int × Bool)} (g cap : Nat) (t : Int) (f : Bool) (hsm : l.length ≤ 1000000) : ContM l g cap t f (decide ((t, f) ∈ l)) := ⟨fun w hl => by
  have HI := fun w h => index_i l g cap t f w hsm h
  generalize decide ((t, f) ∈ l) = p at HI ⊢
  have HR : Hid (SymRow w g l) := hl
  clear hl hsm
  go_enter Try.func132, Try.ntmps132
  go_wp2_with fail
  refine (HI _ HR.out.alloc).mono ?_
  rintro e w1 ⟨r, ⟨rfl, hr, hb⟩⟩
  cases p
  · go_wp2
    go_ret
    exact ⟨rfl, by (repeat' (first | (with_reducible exact Below.refl _ _) | (with_reducible assumption) | (with_reducible refine Below.alloc ?_ ?_ _) | (with_reducible refine Below.drew ?_) | (with_reducible refine Below.setCell ?_ ?_ _) | (with_reducible refine Below.trans ?_ (Below.mono (by assumption) ?_)) | (with_reducible exact Nat.le_refl _) | omega | (simp only [World.size_alloc, World.size_setCell, World.size_drew]; omega) | (simp; omega) | (simp; done)))⟩
  · go_wp2
    go_ret
    exact ⟨rfl, by (repeat' (first | (with_reducible exact Below.refl _ _) | (with_reducible assumption) | (with_reducible refine Below.alloc ?_ ?_ _) | (with_reducible refine Below.drew ?_) | (with_reducible refine Below.setCell ?_ ?_ _) | (with_reducible refine Below.trans ?_ (Below.mono (by assumption) ?_)) | (with_reducible exact Nat.le_refl _) | omega | (simp only [World.size_alloc, World.size_setCell, World.size_drew]; omega) | (simp; omega) | (simp; done)))⟩⟩

structure HasM (l : List (Int × Bool)) (g cap : Nat) (k : List (Int × Bool)) (h ch : Nat) (p : Bool) : Prop where
  call : ∀ w : World, SymRow w g l → SymRow w h k → Calls Try.prog 86 #[.slice (some ⟨g, 0, Option.none⟩) l.length cap, .slice (some ⟨h, 0, Option.none⟩) k.length ch] w fun e w' => e = .returned (.bool p) ∧ Below w.heap.size w w'
set_option maxHeartbeats 8000000 in
theorem hasM {l : List (Int × Bool)} (g cap : Nat) {k : List (Int × Bool)} (h ch : Nat) (hl : l.length ≤ 1000000) (hk : k.length ≤ 1000000) : HasM l g cap k h ch (k.all fun s => decide (s ∈ l)) := ⟨fun w hr1 hr2 => by
  have R1 : Hid (SymRow w g l) := hr1
  have R2 : Hid (SymRow w h k) := hr2
  have HC : Hid (∀ t f, ContM l g cap t f (decide ((t, f) ∈ l))) := fun t f => contM g cap t f hl
  obtain ⟨n, hn⟩ : ∃ n : Nat, n = k.length := ⟨_, rfl⟩
  have HN : Hid (n = k.length) := hn
  have hsm : n ≤ 1000000 := by omega
  have HI : Hid ((k.all fun s => decide (s ∈ l)) = true ↔ ∀ i, i < n → decide (k.getD i (0, false) ∈ l) = true) := by
    show _ ↔ _
    rw [List.all_eq_true, hn]
    constructor
    · intro hh i hi
      exact hh _ (by simp [List.getD, hi])
    · intro hh s hs
      obtain ⟨i, hi, rfl⟩ := List.mem_iff_getElem.1 hs
      have := hh i hi
      simpa [List.getD, hi] using this
  rw [← hn]
  clear hr1 hr2 hl hk hn
  generalize (k.all fun s => decide (s ∈ l)) = p at HI ⊢
  go_enter Try.func86, Try.ntmps86
  go_wp2
  go_loopw [9] (fun i wr => ∃ j : Nat, j ≤ n ∧ i = .int .i64 j ∧ (∀ i, i < j → decide (k.getD i (0, false) ∈ l) = true) ∧ Below w.heap.size w wr) (fun i _ => n - (intOf i).toNat)
  case atStart => exact ⟨0, by omega, rfl, fun i hi => absurd hi (by omega), Below.refl _ _⟩
  case round =>
    obtain ⟨j, hj, rfl, hall, hbel⟩ := hrel
    have HB : Hid (Below w.heap.size w wr) := hbel
    have HL : Hid (∀ i, i < j → decide (k.getD i (0, false) ∈ l) = true) := hall
    have hbs := hbel.size
    clear hall
    by_cases hlt : j < n
    · obtain ⟨c0, c1⟩ := R2.out.below hbel j (by have := HN.out; omega)
      have HS : Hid (decide (k.getD j (0, false) ∈ l) = true → ∀ i, i < j + 1 → decide (k.getD i (0, false) ∈ l) = true) := fun h i hi => by
        rcases (by omega : i < j ∨ i = j) with h1 | rfl
        · exact HL.out i h1
        · exact h
      have HX : Hid (decide (k.getD j (0, false) ∈ l) = false → p = false) := fun h => by
        cases hp : p
        · rfl
        · have := (HI.out.1 hp) j hlt
          rw [h] at this
          exact absurd this (by decide)
      have K := HC.out (k.getD j (0, false)).1 (k.getD j (0, false)).2
      have e : decide (((k.getD j (0, false)).1, (k.getD j (0, false)).2) ∈ l) = decide (k.getD j (0, false) ∈ l) := rfl
      rw [e] at K
      clear e
      generalize decide (k.getD j (0, false) ∈ l) = q at K HS HX
      generalize k.getD j (0, false) = s at c0 c1 K
      obtain ⟨t, f⟩ := s
      simp only [] at c0 c1 K
      have R3 : Hid (SymRow (wr.alloc (.cells #[.int .i64 t, .bool f] 25)) g l) := (R1.out.below hbel).alloc
      cases q
      · have hp : p = false := HX.out rfl
        subst hp
        clear HX HS HI hbel
        go_wp2_with fail
        refine (K.call _ R3.out).mono ?_
        rintro e w2 ⟨rfl, hb⟩
        have HB2 : Hid (Below w.heap.size w w2) := (HB.out.alloc (by omega) _).trans (hb.mono (by simp; omega))
        clear hb
        go_wp2
        go_ret
        exact ⟨rfl, HB2.out⟩
      · clear HX hbel
        go_wp2_with fail
        refine (K.call _ R3.out).mono ?_
        rintro e w2 ⟨rfl, hb⟩
        have HB2 : Hid (Below w.heap.size w w2) := (HB.out.alloc (by omega) _).trans (hb.mono (by simp; omega))
        clear hb c0 c1
        go_wp2
        go_roundw
        case rel => exact ⟨j + 1, by omega, by go_num, HS.out (by simp), HB2.out⟩
        case measure => simp [intOf]; omega
    · have hjm : j = n := by omega
      subst hjm
      have hp : p = true := HI.out.2 HL.out
      subst hp
      clear hbel
      go_wp2
      go_ret
      exact ⟨rfl, HB.out⟩⟩
end Go.Proofs.Ytlnikapkheldeaa

/-
  MirrorsOfPicture of the program.
-/
namespace Go.Proofs.Ytlnikapkheldeaa
open Go.ChangeShapes Go.WideShapes Go.ChangeAt Go.RowKit Go.Joins
set_option linter.unusedSimpArgs false
set_option linter.unusedVariables false
set_option maxRecDepth 100000
attribute [local go_sem] store_f
open Ieee

/-- Has a list all symmetries of mirrors of a kind? -/
def hasAll (l : List (Int × Bool)) (k : Int) : Bool := (symsTo k 8).all fun s => decide (s ∈ l)
/-- The greatest kind of mirrors all of whose symmetries are in a list. -/
def mirN (P : Int → Bool) : Int := if P 3 then 3 else if P 2 then 2 else if P 1 then 1 else if P 0 then 0 else -1
structure MirM (n : Int) (a : Option Addr) (cap : Nat) (l : List Lit) (m : Int) : Prop where
  call : ∀ w : World, LitsAt w a l → Calls Try.prog 32 #[.agg #[.int .i64 n, .slice a l.length cap]] w fun e w' => e = .returned (.int .i64 m) ∧ Below w.heap.size w w'
theorem mirN_at (P : Int → Bool) {k : Int} (h0 : 0 ≤ k) (h3 : k ≤ 3) (hn : ∀ j, k < j → j ≤ 3 → P j = false) (hk : P k = true) : mirN P = k := by
  unfold mirN
  rcases (by omega : k = 0 ∨ k = 1 ∨ k = 2 ∨ k = 3) with rfl | rfl | rfl | rfl
  · rw [hn 3 (by omega) (by omega), hn 2 (by omega) (by omega), hn 1 (by omega) (by omega), hk]; rfl
  · rw [hn 3 (by omega) (by omega), hn 2 (by omega) (by omega), hk]; rfl
  · rw [hn 3 (by omega) (by omega), hk]; rfl
  · rw [hk]; rfl
theorem mirN_none (P : Int → Bool) (hn : ∀ j, -1 < j → j ≤ 3 → P j = false) : mirN P = -1 := by
  unfold mirN
  rw [hn 3 (by omega) (by omega), hn 2 (by omega) (by omega), hn 1 (by omega) (by omega), hn 0 (by omega) (by omega)]; rfl

set_option maxHeartbeats 8000000 in
theorem mirM {n : Int} {a : Option Addr} {cap : Nat} {l : List Lit} {m : List (Int × Bool)} (S : PicSymsM n a cap l m) (hm : m.length ≤ 1000000) : MirM n a cap l (mirN (hasAll m)) := ⟨fun w hrow => by
  have HR : Hid (LitsAt w a l) := hrow
  have HK : Hid (∀ k g cap h ch, HasM m g cap (symsTo k 8) h ch (hasAll m k)) := fun k g cap h ch => hasM g cap h ch hm (by have := symsTo_le k 8; omega)
  have HE : Hid (∀ k, 0 ≤ k → k ≤ 3 → (∀ j, k < j → j ≤ 3 → hasAll m j = false) → hasAll m k = true → mirN (hasAll m) = k) := fun k => mirN_at _
  have H0 : Hid ((∀ j, -1 < j → j ≤ 3 → hasAll m j = false) → mirN (hasAll m) = -1) := mirN_none _
  clear hrow hm
  generalize mirN (hasAll m) = z at HE H0 ⊢
  generalize hasAll m = P at *
  go_enter Try.func32, Try.ntmps32
  go_wp2_with fail
  refine (S.call _ HR.out.alloc).mono ?_
  rintro e w1 ⟨⟨g, cp, ⟨rfl, hown⟩⟩, hb⟩
  have HS : Hid (SymRow w1 g m) := symRow_of hown rfl
  have hB : Below w.heap.size w w1 := by (repeat' (first | (with_reducible exact Below.refl _ _) | (with_reducible assumption) | (with_reducible refine Below.alloc ?_ ?_ _) | (with_reducible refine Below.drew ?_) | (with_reducible refine Below.setCell ?_ ?_ _) | (with_reducible refine Below.trans ?_ (Below.mono (by assumption) ?_)) | (with_reducible exact Nat.le_refl _) | omega | (simp only [World.size_alloc, World.size_setCell, World.size_drew]; omega) | (simp; omega) | (simp; done)))
  have HB : Hid (Below w.heap.size w w1) := hB
  clear hown hb hB HR
  go_wp2_with fail
  go_loopw [4] (fun i wr => ∃ k : Int, -1 ≤ k ∧ k ≤ 3 ∧ i = .int .i64 k ∧ (∀ j, k < j → j ≤ 3 → P j = false) ∧ Below w1.heap.size w1 wr) (fun i _ => (intOf i + 1).toNat)
  case atStart => exact ⟨3, by omega, by omega, rfl, fun j h1 h2 => absurd h1 (by omega), Below.refl _ _⟩
  case round =>
    obtain ⟨k, hk0, hk3, rfl, hno, hbel⟩ := hrel
    have HBR : Hid (Below w1.heap.size w1 wr) := hbel
    have HNO : Hid (∀ j, k < j → j ≤ 3 → P j = false) := hno
    have hbs := hbel.size
    clear hno
    by_cases hlt : 0 ≤ k
    · have SY := fun w => symsOf_i k w
      have K := HK.out k
      have HEK := HE.out k hlt hk3 HNO.out
      have HX : Hid (P k = true → z = k) := HEK
      have HY : Hid (P k = false → ∀ j, k - 1 < j → j ≤ 3 → P j = false) := fun h j h1 h2 => by
        rcases (by omega : k < j ∨ j = k) with h3 | rfl
        · exact HNO.out j h3 h2
        · exact h
      have HSR : Hid (SymRow wr g m) := HS.out.below hbel
      have HKK : Hid (∀ g cap h ch, HasM m g cap (symsTo k 8) h ch (P k)) := K
      clear HEK K hbel
      generalize symsTo k 8 = s at SY HKK
      generalize P k = q at HX HY HKK
      go_wp2_with fail
      refine (SY _).mono ?_
      rintro e w2 ⟨gs, cs, rfl, own, hb⟩
      have HS2 : Hid (SymRow w2 g m) := HSR.out.below hb
      have HT2 : Hid (SymRow w2 gs s) := symRow_of own rfl
      have HB2 : Hid (Below w1.heap.size w1 w2) := HBR.out.trans (hb.mono (by omega))
      have hs2 := HB2.out.size
      clear hb own HSR HBR SY
      go_wp2_with fail
      refine ((HKK.out _ _ _ _).call _ HS2.out HT2.out).mono ?_
      rintro e w3 ⟨rfl, hb⟩
      have HB3 : Hid (Below w1.heap.size w1 w3) := HB2.out.trans (hb.mono (by omega))
      clear hb HS2 HT2 HB2
      cases q
      · go_wp2
        go_roundw
        case rel => exact ⟨k - 1, by omega, by omega, by go_num, HY.out (by simp), HB3.out⟩
        case measure => simp [intOf]; omega
      · have hz : z = k := HX.out rfl
        have HZ : Hid (z = k) := hz
        clear hz
        have HBE : Hid (Below w.heap.size w w3) := HB.out.trans (HB3.out.mono HB.out.size)
        go_wp2
        go_ret
        exact ⟨by rw [HZ.out]; rfl, HBE.out⟩
    · obtain rfl : k = -1 := by omega
      have HZ : Hid (z = -1) := H0.out HNO.out
      have HBE : Hid (Below w.heap.size w wr) := HB.out.trans (hbel.mono HB.out.size)
      clear hbel
      go_wp2
      go_ret
      exact ⟨by rw [HZ.out]; rfl, HBE.out⟩⟩
end Go.Proofs.Ytlnikapkheldeaa

/-
  The model's act on small whole numbers.
-/
namespace Go.Proofs.Ytlnikapkheldeaa
open Go.ChangeShapes Go.WideShapes Go.ChangeAt Go.RowKit Go.Joins
set_option linter.unusedSimpArgs false
set_option linter.unusedVariables false
set_option maxRecDepth 100000
attribute [local go_sem] store_f
open Ieee
attribute [local go_sem] store_c

theorem iw_ops : ∀ m : Nat, m < 15 → F32.add (iw ((m : Int) - 7)) 0 = some (iw ((m : Int) - 7)) ∧ F32.sub 0 (iw ((m : Int) - 7)) = some (iw (7 - (m : Int))) ∧ F32.sub (iw ((m : Int) - 7)) (iw ((m : Int) - 7)) = some 0 := by decide +kernel
theorem iw_op {z : Int} (h1 : -7 ≤ z) (h2 : z ≤ 7) : F32.add (iw z) 0 = some (iw z) ∧ F32.sub 0 (iw z) = some (iw (-z)) ∧ F32.sub (iw z) (iw z) = some 0 := by
  have h := iw_ops (z + 7).toNat (by omega)
  have e : (((z + 7).toNat : Nat) : Int) - 7 = z := by omega
  have e2 : 7 - (((z + 7).toNat : Nat) : Int) = -z := by omega
  rw [e, e2] at h
  exact h
structure PlusI (z : Int) : Prop where
  call : ∀ w : World, Calls Try.prog 162 #[.float .f32 (iw z), .float .f32 0] w fun e w' => e = .returned (.float .f32 (iw z)) ∧ w' = w
structure MinusI (z : Int) : Prop where
  call : ∀ w : World, Calls Try.prog 163 #[.float .f32 0, .float .f32 (iw z)] w fun e w' => e = .returned (.float .f32 (iw (-z))) ∧ w' = w
theorem plusI {z : Int} (h1 : -7 ≤ z) (h2 : z ≤ 7) : PlusI z := ⟨fun w => by
  have h := l1Plus_s (iw z) 0 (iw z) w (iw_op h1 h2).1 (iw_op h1 h2).2.2
  rwa [(iw_of h1 h2).2.1] at h⟩
theorem minusI {z : Int} (h1 : -7 ≤ z) (h2 : z ≤ 7) : MinusI z := ⟨fun w => by
  have h := l1Minus_s 0 (iw z) (iw (-z)) w (iw_op h1 h2).2.1 (iw_op (z := -z) (by omega) (by omega)).2.2
  rwa [(iw_of (z := -z) (by omega) (by omega)).2.1] at h⟩

/-- Turned a number of times. -/
def rotN : Nat → Int × Int → Int × Int
  | 0, p => p
  | n + 1, p => (-(rotN n p).2, (rotN n p).1)
theorem rotN_bd (n : Nat) {p : Int × Int} (hx : -7 ≤ p.1 ∧ p.1 ≤ 7) (hy : -7 ≤ p.2 ∧ p.2 ≤ 7) : (-7 ≤ (rotN n p).1 ∧ (rotN n p).1 ≤ 7) ∧ (-7 ≤ (rotN n p).2 ∧ (rotN n p).2 ≤ 7) := by
  induction n with
  | zero => exact ⟨hx, hy⟩
  | succ n ih => obtain ⟨a, b⟩ := ih; refine ⟨?_, a⟩; show -7 ≤ -(rotN n p).2 ∧ -(rotN n p).2 ≤ 7; omega
theorem rotN_act (t : Nat) (f : Bool) (ht : t < 4) (x y : Int) : rotN t (x, if f then -y else y) = actN t f x y := by
  rcases (by omega : t = 0 ∨ t = 1 ∨ t = 2 ∨ t = 3) with rfl | rfl | rfl | rfl <;> cases f <;> simp [rotN, actN]

structure ActS (t : Int) (f : Bool) (x y p q : Nat) : Prop where
  call : ∀ w : World, Calls Try.prog 119 #[.agg #[.int .i64 t, .bool f], .complex .f32 x y] w fun e w' => e = .returned (.complex .f32 p q) ∧ Below w.heap.size w w'
set_option maxHeartbeats 4000000 in
theorem actS {t : Nat} (f : Bool) {x y : Int} (ht : t < 4) (hx : -7 ≤ x ∧ x ≤ 7) (hy : -7 ≤ y ∧ y ≤ 7) : ActS t f (iw x) (iw y) (iw (actN t f x y).1) (iw (actN t f x y).2) := ⟨fun w => by
  have PX := plusI hx.1 hx.2
  have PY := plusI hy.1 hy.2
  have MY := minusI hy.1 hy.2
  rw [← rotN_act t f ht]
  have hb := fun j => rotN_bd j (p := (x, if f then -y else y)) hx (by cases f <;> simp <;> omega)
  have HM : Hid (∀ j, MinusI (rotN j (x, if f then -y else y)).2) := fun j => minusI (hb j).2.1 (hb j).2.2
  have HS : Hid (∀ j, (rotN (j + 1) (x, if f then -y else y)).1 = -(rotN j (x, if f then -y else y)).2 ∧ (rotN (j + 1) (x, if f then -y else y)).2 = (rotN j (x, if f then -y else y)).1) := fun j => ⟨rfl, rfl⟩
  have H0 : Hid (rotN 0 (x, if f then -y else y) = (x, if f then -y else y)) := rfl
  clear hb
  generalize hR : (fun j => rotN j (x, if f then -y else y)) = R
  have HM' : Hid (∀ j, MinusI (R j).2) := by rw [← hR]; exact HM.out
  have HS' : Hid (∀ j, (R (j + 1)).1 = -(R j).2 ∧ (R (j + 1)).2 = (R j).1) := by rw [← hR]; exact HS.out
  have H0' : Hid (R 0 = (x, if f then -y else y)) := by rw [← hR]; exact H0.out
  have HE : rotN t (x, if f then -y else y) = R t := by rw [← hR]
  rw [HE]
  clear HM HS H0 HE hR hx hy
  have H1 : Hid ((R 0).1 = x ∧ (R 0).2 = if f then -y else y) := by
    have h := H0'.out
    exact ⟨by rw [h], by rw [h]⟩
  clear H0'
  cases f
  all_goals
    simp only [Bool.false_eq_true, if_true, if_false] at H1
    go_enter Try.func119, Try.ntmps119
    go_wp2_with (first | (go_at_call 162; (first | (with_reducible refine (PX.call _).mono ?_) | (with_reducible refine (PY.call _).mono ?_)); rintro e w1 ⟨rfl, rfl⟩) | (go_at_call 163; (with_reducible refine (MY.call _).mono ?_); rintro e w1 ⟨rfl, rfl⟩))
    go_loop [5, 6, 7] (fun u v i => ∃ j : Nat, j ≤ t ∧ i = .int .i64 j ∧ u = .float .f32 (iw (R j).1) ∧ v = .float .f32 (iw (R j).2)) (fun _ _ i => t - (intOf i).toNat)
    case atStart => exact ⟨0, by omega, rfl, by rw [H1.out.1], by rw [H1.out.2]⟩
    case round =>
      obtain ⟨j, hj, rfl, rfl, rfl⟩ := hrel
      have M := HM'.out j
      have S1 : Hid ((R (j + 1)).1 = -(R j).2) := (HS'.out j).1
      have S2 : Hid ((R (j + 1)).2 = (R j).1) := (HS'.out j).2
      by_cases hlt : j < t
      · go_wp2_with (go_at_call 163; (with_reducible refine (M.call _).mono ?_); rintro e w1 ⟨rfl, rfl⟩)
        go_round
        case rel => exact ⟨j + 1, by omega, by go_num, by rw [S1.out], by rw [S2.out]⟩
        case measure => simp [intOf]; omega
      · obtain rfl : j = t := by omega
        go_wp2
        go_ret
        exact ⟨rfl, by (repeat' (first | (with_reducible exact Below.refl _ _) | (with_reducible assumption) | (with_reducible refine Below.alloc ?_ ?_ _) | (with_reducible refine Below.drew ?_) | (with_reducible refine Below.setCell ?_ ?_ _) | (with_reducible refine Below.trans ?_ (Below.mono (by assumption) ?_)) | (with_reducible exact Nat.le_refl _) | omega | (simp only [World.size_alloc, World.size_setCell, World.size_drew]; omega) | (simp; omega) | (simp; done)))⟩⟩
end Go.Proofs.Ytlnikapkheldeaa

/-
  What an argument that reads as data looks like: a symmetry, an integer, a slice of integers or of bytes.
-/
namespace Go.Proofs.Ytlnikapkheldeaa
open Go.ChangeShapes Go.WideShapes Go.ChangeAt Go.RowKit Go.Joins

section
variable {H : Type} {enc : TypeId × Value → H} {W : World} {base : Nat} {spare : Nat → Bool} {held : Bool} {v : Value} {d : DataW H} {p : List MemPlace}

theorem wf_i64 {n : Int} (h : (Lit.int .i64 n).wf = true) : -9223372036854775808 ≤ n ∧ n ≤ 9223372036854775807 := bounds_i64 h

set_option maxRecDepth 100000 in
theorem open_lsym (hok : Value.okWide Try.prog W .any base 76 v) (h : DataW.Trod enc Try.prog W 0 spare held 76 v d p) :
    ∃ (t : Int) (f : Bool), v = .agg #[.int .i64 t, .bool f] ∧ -9223372036854775808 ≤ t ∧ t ≤ 9223372036854775807 := by
  obtain ⟨c0, c1, y0, y1, m, rfl, rfl, rfl, hy0, hy1⟩ := open_agg2 Try.underlying76 (by kernel_rfl) (by kernel_rfl) hok h
  obtain ⟨a, e0, rfl, wa⟩ := DataW.trod_int Try.underlying3 hy0
  obtain ⟨b, e1, rfl⟩ := DataW.trod_bool Try.underlying4 hy1
  simp at e0 e1
  subst e0 e1
  exact ⟨a, b, rfl, wf_i64 wa⟩

set_option maxRecDepth 100000 in
theorem open_i (hok : Value.okWide Try.prog W .any base 3 v) (h : DataW.Trod enc Try.prog W 0 spare held 3 v d p) :
    ∃ n : Int, v = .int .i64 n ∧ -9223372036854775808 ≤ n ∧ n ≤ 9223372036854775807 := by
  obtain ⟨x, rfl, rfl, rfl, wx⟩ := open_int Try.underlying3 hok h
  exact ⟨x, rfl, wf_i64 wx⟩
end
end Go.Proofs.Ytlnikapkheldeaa

/-
  Is it a symmetry? Contracts of IsSym of the model, and of eqSym.
-/
namespace Go.Proofs.Ytlnikapkheldeaa
open Go.ChangeShapes Go.WideShapes Go.ChangeAt Go.RowKit Go.Joins 
set_option linter.unusedSimpArgs false
set_option linter.unusedVariables false

theorem isSym_s (t : Int) (f : Bool) (w : World) :
    Calls Try.prog 117 #[.agg #[.int .i64 t, .bool f]] w fun e w' => e = .returned (.bool (isSymB t)) ∧ Below w.heap.size w w' := by
  rcases (by omega : t < 0 ∨ (0 ≤ t ∧ t ≤ 3) ∨ (0 ≤ t ∧ 4 ≤ t)) with h | ⟨h, h'⟩ | ⟨h, h'⟩
  · rw [isSymB_neg h]
    go_enter Try.func117, Try.ntmps117
    go_wp2
    go_returns
    exact ⟨rfl, by go_grown⟩
  · rw [isSymB_yes h (by omega)]
    go_enter Try.func117, Try.ntmps117
    go_wp2
    go_returns
    exact ⟨rfl, by go_grown⟩
  · rw [isSymB_big h']
    have h2 : decide (t ≤ 3) = false := by simp; omega
    go_enter Try.func117, Try.ntmps117
    go_wp2
    go_returns
    exact ⟨rfl, by go_grown⟩

theorem eqSym_same (t : Int) (f : Bool) (w : World) :
    Calls Try.prog 122 #[.agg #[.int .i64 t, .bool f], .agg #[.int .i64 t, .bool f]] w fun e w' => e = .returned (.bool true) ∧ Below w.heap.size w w' := by
  go_enter Try.func122, Try.ntmps122
  go_wp2
  go_returns; exact ⟨by first | rfl | (simp; omega), by (repeat' (first | (with_reducible exact Below.refl _ _) | (with_reducible assumption) | (with_reducible refine Below.alloc ?_ ?_ _) | (with_reducible refine Below.drew ?_) | (with_reducible refine Below.setCell ?_ ?_ _) | (with_reducible refine Below.trans ?_ (Below.mono (by assumption) ?_)) | (with_reducible exact Nat.le_refl _) | omega | (simp only [World.size_alloc, World.size_setCell, World.size_drew]; omega) | (simp; omega) | (simp; done)))⟩
end Go.Proofs.Ytlnikapkheldeaa

/-
  A symmetry as the law's own type.
-/
namespace Go.Proofs.Ytlnikapkheldeaa
open Go.ChangeShapes Go.WideShapes Go.ChangeAt Go.RowKit Go.Joins 
set_option linter.unusedSimpArgs false
set_option linter.unusedVariables false

theorem toSym_any (t : Int) (f : Bool) (w : World) :
    Calls Try.prog 50 #[.agg #[.int .i64 t, .bool f]] w fun e w' => e = .returned (.agg #[.int .i64 t, .bool f]) ∧ Below w.heap.size w w' := by
  go_enter Try.func50, Try.ntmps50
  go_wp2
  go_returns
  exact ⟨rfl, by go_grown⟩

end Go.Proofs.Ytlnikapkheldeaa

/-
  Contracts of ThenSym and BackSym: what each call gives, and that nothing that was there is written.
-/
namespace Go.Proofs.Ytlnikapkheldeaa
open Go.ChangeShapes Go.WideShapes Go.ChangeAt Go.RowKit Go.Joins 
set_option linter.unusedSimpArgs false
set_option linter.unusedVariables false

end Go.Proofs.Ytlnikapkheldeaa

/-
  Contract of the model's ThenSym.
-/
namespace Go.Proofs.Ytlnikapkheldeaa
open Go.ChangeShapes Go.WideShapes Go.ChangeAt Go.RowKit Go.Joins 
set_option linter.unusedSimpArgs false
set_option linter.unusedVariables false
end Go.Proofs.Ytlnikapkheldeaa

/-
  Contracts on the symmetries of mirrors.
-/
namespace Go.Proofs.Ytlnikapkheldeaa
open Go.ChangeShapes Go.WideShapes Go.ChangeAt Go.RowKit Go.Joins 
set_option linter.unusedSimpArgs false
set_option linter.unusedVariables false
theorem l1Of_s (kind t : Int) (f : Bool) (w : World) (h1 : 0 ≤ t) (h2 : t < 4) (hk : 0 ≤ kind) (hk3 : kind ≤ 3) :
    Calls Try.prog 164 #[.int .i64 kind, .agg #[.int .i64 t, .bool f]] w fun e w' => e = .returned (.bool (ofB kind t f)) ∧ Below w.heap.size w w' := by
  have ht := isSymB_yes h1 h2
  rcases (by omega : kind = 0 ∨ kind = 1 ∨ kind = 2 ∨ kind = 3) with rfl | rfl | rfl | rfl
  · by_cases t0 : t = 0
    · subst t0
      have e : ofB 0 0 f = !f := by simp [ofB, isSymB]
      rw [e]
      cases f
      all_goals
        go_enter Try.func164, Try.ntmps164
        go_wp2
        go_returns; exact ⟨rfl, by (repeat' (first | (with_reducible exact Below.refl _ _) | (with_reducible assumption) | (with_reducible refine Below.alloc ?_ ?_ _) | (with_reducible refine Below.drew ?_) | (with_reducible refine Below.setCell ?_ ?_ _) | (with_reducible refine Below.trans ?_ (Below.mono (by assumption) ?_)) | (with_reducible exact Nat.le_refl _) | omega | (simp only [World.size_alloc, World.size_setCell, World.size_drew]; omega) | (simp; omega) | (simp; done)))⟩
    · have e : ofB 0 t f = false := by simp [ofB, t0]
      rw [e]
      have t1 : (t == 0) = false := by simpa using t0
      cases f
      all_goals
        go_enter Try.func164, Try.ntmps164
        go_wp2
        go_returns; exact ⟨rfl, by (repeat' (first | (with_reducible exact Below.refl _ _) | (with_reducible assumption) | (with_reducible refine Below.alloc ?_ ?_ _) | (with_reducible refine Below.drew ?_) | (with_reducible refine Below.setCell ?_ ?_ _) | (with_reducible refine Below.trans ?_ (Below.mono (by assumption) ?_)) | (with_reducible exact Nat.le_refl _) | omega | (simp only [World.size_alloc, World.size_setCell, World.size_drew]; omega) | (simp; omega) | (simp; done)))⟩
  · have e : ofB 1 t f = (t == 0) := by simp [ofB, ht]
    rw [e]
    go_enter Try.func164, Try.ntmps164
    go_wp2
    go_returns; exact ⟨rfl, by (repeat' (first | (with_reducible exact Below.refl _ _) | (with_reducible assumption) | (with_reducible refine Below.alloc ?_ ?_ _) | (with_reducible refine Below.drew ?_) | (with_reducible refine Below.setCell ?_ ?_ _) | (with_reducible refine Below.trans ?_ (Below.mono (by assumption) ?_)) | (with_reducible exact Nat.le_refl _) | omega | (simp only [World.size_alloc, World.size_setCell, World.size_drew]; omega) | (simp; omega) | (simp; done)))⟩
  · have e : ofB 2 t f = (t % 2 == 0) := by simp [ofB, ht]
    rw [e]
    go_enter Try.func164, Try.ntmps164
    go_wp2
    go_returns; exact ⟨rfl, by (repeat' (first | (with_reducible exact Below.refl _ _) | (with_reducible assumption) | (with_reducible refine Below.alloc ?_ ?_ _) | (with_reducible refine Below.drew ?_) | (with_reducible refine Below.setCell ?_ ?_ _) | (with_reducible refine Below.trans ?_ (Below.mono (by assumption) ?_)) | (with_reducible exact Nat.le_refl _) | omega | (simp only [World.size_alloc, World.size_setCell, World.size_drew]; omega) | (simp; omega) | (simp; done)))⟩
  · have e : ofB 3 t f = true := by simp [ofB, ht]
    rw [e]
    go_enter Try.func164, Try.ntmps164
    go_wp2
    go_returns; exact ⟨rfl, by (repeat' (first | (with_reducible exact Below.refl _ _) | (with_reducible assumption) | (with_reducible refine Below.alloc ?_ ?_ _) | (with_reducible refine Below.drew ?_) | (with_reducible refine Below.setCell ?_ ?_ _) | (with_reducible refine Below.trans ?_ (Below.mono (by assumption) ?_)) | (with_reducible exact Nat.le_refl _) | omega | (simp only [World.size_alloc, World.size_setCell, World.size_drew]; omega) | (simp; omega) | (simp; done)))⟩
end Go.Proofs.Ytlnikapkheldeaa

/-
  The symmetries of mirrors of a kind, as the model lists them.
-/
namespace Go.Proofs.Ytlnikapkheldeaa
open Go.ChangeShapes Go.WideShapes Go.ChangeAt Go.RowKit Go.Joins 
set_option linter.unusedSimpArgs false
set_option linter.unusedVariables false
/-- Does a number lie in a range? -/
def lieB (x lo hi : Int) : Bool := decide (lo ≤ x) && decide (x ≤ hi)
theorem lieB_yes {x lo hi : Int} (h : lo ≤ x) (h' : x ≤ hi) : lieB x lo hi = true := by simp [lieB, h, h']
theorem lieB_no {x lo hi : Int} (h : ¬ (lo ≤ x ∧ x ≤ hi)) : lieB x lo hi = false := by
  simp [lieB]
  omega

theorem l1In_s (x lo hi : Int) (w : World) :
    Calls Try.prog 112 #[.int .i64 x, .int .i64 lo, .int .i64 hi] w fun e w' => e = .returned (.bool (lieB x lo hi)) ∧ Below w.heap.size w w' := by
  by_cases h : lo ≤ x
  · by_cases h' : x ≤ hi
    · rw [lieB_yes h h']
      go_enter Try.func112, Try.ntmps112
      go_wp2
      go_returns; exact ⟨rfl, by (repeat' (first | (with_reducible exact Below.refl _ _) | (with_reducible assumption) | (with_reducible refine Below.alloc ?_ ?_ _) | (with_reducible refine Below.drew ?_) | (with_reducible refine Below.setCell ?_ ?_ _) | (with_reducible refine Below.trans ?_ (Below.mono (by assumption) ?_)) | (with_reducible exact Nat.le_refl _) | omega | (simp only [World.size_alloc, World.size_setCell, World.size_drew]; omega) | (simp; omega) | (simp; done)))⟩
    · rw [lieB_no (fun q => h' q.2)]
      go_enter Try.func112, Try.ntmps112
      go_wp2
      go_returns; exact ⟨rfl, by (repeat' (first | (with_reducible exact Below.refl _ _) | (with_reducible assumption) | (with_reducible refine Below.alloc ?_ ?_ _) | (with_reducible refine Below.drew ?_) | (with_reducible refine Below.setCell ?_ ?_ _) | (with_reducible refine Below.trans ?_ (Below.mono (by assumption) ?_)) | (with_reducible exact Nat.le_refl _) | omega | (simp only [World.size_alloc, World.size_setCell, World.size_drew]; omega) | (simp; omega) | (simp; done)))⟩
  · rw [lieB_no (fun q => h q.1)]
    go_enter Try.func112, Try.ntmps112
    go_wp2
    go_returns; exact ⟨rfl, by (repeat' (first | (with_reducible exact Below.refl _ _) | (with_reducible assumption) | (with_reducible refine Below.alloc ?_ ?_ _) | (with_reducible refine Below.drew ?_) | (with_reducible refine Below.setCell ?_ ?_ _) | (with_reducible refine Below.trans ?_ (Below.mono (by assumption) ?_)) | (with_reducible exact Nat.le_refl _) | omega | (simp only [World.size_alloc, World.size_setCell, World.size_drew]; omega) | (simp; omega) | (simp; done)))⟩

end Go.Proofs.Ytlnikapkheldeaa
