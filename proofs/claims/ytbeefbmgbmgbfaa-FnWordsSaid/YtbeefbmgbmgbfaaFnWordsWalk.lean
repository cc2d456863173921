/-
  The call of FnWords returns true and writes nothing that was there.
-/
import Derived.Test.YtbeefbmgbmgbfaaVone
import Derived.Deep.RegionHeld3
namespace Go.Proofs.Ytbeefbmgbmgbfaa.wFnWords
open Go.ChangeShapes Go.WideShapes Go.ChangeAt Go.RowKit Go.Joins 
set_option linter.unusedSimpArgs false
set_option linter.unusedVariables false
theorem rowOf {W : World} {B g c : Nat} {z : List Int} (h : W.ownsRow B 3 1 (.slice (some ⟨g, 0, Option.none⟩) z.length c) z.length (z.map (Value.int .i64))) : IntRow W g z := fun k hk => by
  rw [h.cellAt k (by omega)]
  simp [List.getD, hk]
theorem newsOf {W : World} {g : Nat} {z : List Int} (h : IntRow W g z) : ∀ j u, (z.map (Value.int .i64))[j]? = some u → W.cell? ((⟨g, 0, Option.none⟩ : Addr).add j) = some u := by
  intro j u hj
  have hjl : j < z.length := by
    have := (List.getElem?_eq_some_iff.1 hj).1
    simpa using this
  have e : (z.map (Value.int .i64))[j]? = some (.int .i64 (z.getD j 0)) := by simp [List.getD, hjl]
  rw [e] at hj
  cases hj
  rw [Go.WideShapes.add_plain, Nat.zero_add]
  exact h j hjl
theorem oneOf {z : List Int} : ∀ u ∈ z.map (Value.int .i64), u.oneCell' = true := by
  intro u hu
  obtain ⟨x, _, rfl⟩ := List.mem_map.1 hu
  rfl

set_option maxHeartbeats 16000000 in
set_option maxRecDepth 1000000 in
theorem walk (a : Option Addr) (len cap : Nat) (bs : List Int) (w : World) (hrow : ByteRow w w.heap.size a len bs) :
    Calls Try.prog 7 #[.slice a len cap] w fun e w' => e = .returned (.bool true) ∧ Below w.heap.size w w' := by
  obtain ⟨i0, hi, hz0, hz1, hz2⟩ := info_parts infoInt
  by_cases hlen : len ≤ 4096
  · go_enter Try.func7, Try.ntmps7
    go_wp2_with fail
    refine (big_no _ _ _ _ hlen).mono ?_
    rintro e w0 ⟨rfl, rfl⟩
    go_wp2_with fail
    refine (drawWords_s a len cap bs _ hrow hlen).mono ?_
    rintro e w1 ⟨kind, u, v, gu, cu, gv, cv, rfl, hk0, hk3, hlu, hlv, hu8, hv8, ru, rv, hb1⟩
    obtain ⟨g, hg, hgm⟩ := wordFrom_letters kind hk0 hk3 u (0, false) (syms_mirr kind hk0 hk3).1 hlu
    obtain ⟨h, hh, hhm⟩ := wordFrom_letters kind hk0 hk3 v (0, false) (syms_mirr kind hk0 hk3).1 hlv
    have HR1 : Hid (wordR kind u = (g, true)) := by
      show wordR kind u = (g, true)
      unfold wordR
      rw [if_pos ⟨hk0, hk3, by omega⟩, hg]
    have HR2 : Hid (wordR kind v = (h, true)) := by
      show wordR kind v = (h, true)
      unfold wordR
      rw [if_pos ⟨hk0, hk3, by omega⟩, hh]
    have HR3 : Hid (wordR kind (u ++ v) = ((thenT g.1 h.1 h.2, thenF g.1 h.1 g.2 h.2), true)) := by
      show wordR kind (u ++ v) = (thenP g h, true)
      unfold wordR
      have hb := word_behind kind hk0 hk3 v g (0, false) h hgm (syms_mirr kind hk0 hk3).1 hlv hh
      rw [(thenP_assoc kind hk0 hk3 g hgm g hgm).1] at hb
      rw [if_pos ⟨hk0, hk3, by simp; omega⟩, wordFrom_app, hg]
      simp only [Option.bind_some]
      rw [hb]
    have HWL : Hid (shortL kind g ≤ shortL kind (0, false) + u.length ∧ g.2 = ((false : Bool) != decide (u.length % 2 = 1))) := word_len kind hk0 hk3 u (0, false) g (syms_mirr kind hk0 hk3).1 hlu hg
    have HSF : Hid (shortL kind (0, false) = 0 ∧ shortL kind g ≤ 4 ∧ (shortL kind g % 2 = if g.2 then 1 else 0)) := ⟨(shortL_facts kind hk0 hk3).1, ((shortL_facts kind hk0 hk3).2 g hgm).1, ((shortL_facts kind hk0 hk3).2 g hgm).2.1⟩
    obtain ⟨N, hN, hyes, hno, hin⟩ := word_found kind g.1 g.2 (syms_ofB hgm)
    have HSN : Hid (shortL kind g = (wd (mirL kind).length N).length) := shortL_of hN hyes hno
    have HRS : Hid (wordR kind (wd (mirL kind).length N) = (g, true)) := hyes
    have hN5 := (hin N (Nat.le_refl _)).2
    have CW : ∀ W, Calls Try.prog 29 #[.int .i64 kind, .agg #[.int .i64 g.1, .bool g.2]] W (WordGiven W (wd (mirL kind).length N)) := fun W => wordOfSym_yes kind g.1 g.2 N W (syms_ofB hgm) hN hyes hno hin
    have HTW : Hid (1 ≤ kind → wordR kind (u ++ [0, 0]) = (g, true)) := fun hk1 => by
      obtain ⟨m0, m1⟩ := mirr_twice kind hk1 hk3
      have e : u ++ [0, 0] = (u ++ [0]) ++ [0] := by simp
      unfold wordR
      rw [if_pos ⟨hk0, hk3, by simp; omega⟩, e, wordFrom_snoc, wordFrom_snoc, hg]
      simp only [Option.bind_some, m0, Option.map_some]
      rw [m1 g hgm]
    have HZU : Hid (kind = 0 → u.length = 0) := fun hk => by
      cases u with
      | nil => rfl
      | cons x l =>
        have := hlu x (by simp)
        rw [hk] at this
        simp [mirL] at this
        omega
    clear hno hin hyes hg hh hgm hhm hlu hlv hrow
    generalize wd (mirL kind).length N = sw at *
    have HU1 : Hid (IntRow w1 gu u) := ru
    have HV1 : Hid (IntRow w1 gv v) := rv
    have HB1 : Hid (Below w.heap.size w w1) := hb1
    have s1 := hb1.size
    clear ru rv hb1
    go_wp2_with fail
    have C1 := symOfWord_i kind gu cu u w1 HU1.out (by omega)
    rw [HR1.out] at C1
    refine C1.mono ?_
    rintro e w2 ⟨rfl, hb2⟩
    have HU2 : Hid (IntRow (w2.alloc (.cells #[.int .i64 g.1, .bool g.2] 25)) gu u) := fun j hj => cAlloc ((HU1.out.below hb2) j hj)
    have HV2 : Hid (IntRow (w2.alloc (.cells #[.int .i64 g.1, .bool g.2] 25)) gv v) := fun j hj => cAlloc ((HV1.out.below hb2) j hj)
    have HB2 : Hid (Below w.heap.size w (w2.alloc (.cells #[.int .i64 g.1, .bool g.2] 25))) := (HB1.out.trans (hb2.mono s1)).alloc (by have := hb2.size; omega) _
    have HK2 : Hid (Blk (w2.alloc (.cells #[.int .i64 g.1, .bool g.2] 25)) w2.heap.size #[.int .i64 g.1, .bool g.2] 25) := Blk.new _ _ _
    have s2 := hb2.size
    clear hb2 C1 HU1 HV1 HB1
    go_wp2_with fail
    have C2 := symOfWord_i kind gv cv v _ HV2.out (by omega)
    rw [HR2.out] at C2
    refine C2.mono ?_
    rintro e w3 ⟨rfl, hb3⟩
    have HU3 : Hid (IntRow w3 gu u) := HU2.out.below hb3
    have HV3 : Hid (IntRow w3 gv v) := HV2.out.below hb3
    have HK3 : Hid (Blk w3 w2.heap.size #[.int .i64 g.1, .bool g.2] 25) := HK2.out.below hb3
    have HB3 : Hid (Below w.heap.size w w3) := HB2.out.trans (hb3.mono (by simp; omega))
    have s3 := hb3.size
    simp only [World.size_alloc] at s3
    clear hb3 C2 HU2 HV2 HK2 HB2
    go_wp2_with (at_builtin; go_loud (refine wpList_append_own _ rfl _ _ 34 rfl (w3.heap.size + 1) 3 i0 (.int .i64 0) 1 8 Try.underlying34 hi hz0 hz1 hz2 rfl (by decide) _ 0 [] rfl ?_ ⟨gu, 0, Option.none⟩ u.length cu (u.map (Value.int .i64)) rfl ?_ ?_ ?_ ?_ ?_ ?_ ?_))
    · have := World.ownsRow_lit (base := w3.heap.size + 1) (e := 3) (size := 1) (w3.alloc (.cells #[.int .i64 h.1, .bool h.2] 25)) #[] 0 (by simp) (by unfold maxLen; omega) rfl
      exact (by simpa using this :)
    · simp
    · exact newsOf (fun j hj => cAlloc (cAlloc (HU3.out j hj)))
    · exact oneOf
    · unfold maxLen; omega
    · omega
    · simp
    intro v4 w4 own4 hg4 hn4
    have b34 : Below (w3.heap.size + 1) (w3.alloc (.cells #[.int .i64 h.1, .bool h.2] 25)) w4 := Below.grown ((Below.refl _ _).alloc (by simp) _) hg4 (by simp) (fun x hx => by cases hx; simp)
    have HU4 : Hid (IntRow w4 gu u) := fun j hj => (b34.cell (p := ⟨gu, j, Option.none⟩) (by have := cell_lt (HU3.out j hj); dsimp only; omega)).trans (cAlloc (HU3.out j hj))
    have HV4 : Hid (IntRow w4 gv v) := fun j hj => (b34.cell (p := ⟨gv, j, Option.none⟩) (by have := cell_lt (HV3.out j hj); dsimp only; omega)).trans (cAlloc (HV3.out j hj))
    have HK4 : Hid (Blk w4 w2.heap.size #[.int .i64 g.1, .bool g.2] 25) := (b34.block _ (by omega)).trans HK3.out.alloc
    have HJ4 : Hid (Blk w4 w3.heap.size #[.int .i64 h.1, .bool h.2] 25) := (b34.block _ (by omega)).trans (Blk.new _ _ _)
    have HB4 : Hid (Below w.heap.size w w4) := (HB3.out.alloc (by omega) _).trans (b34.mono (by omega))
    have s4 := b34.size
    simp only [World.size_alloc] at s4
    clear hg4 b34
    go_wp2_with (at_builtin; go_loud (refine wpList_append_own _ rfl _ _ 34 rfl (w3.heap.size + 1) 3 i0 (.int .i64 0) 1 8 Try.underlying34 hi hz0 hz1 hz2 rfl (by decide) _ u.length (u.map (Value.int .i64)) rfl ?_ ⟨gv, 0, Option.none⟩ v.length cv (v.map (Value.int .i64)) rfl ?_ ?_ ?_ ?_ ?_ ?_ ?_))
    · exact own4
    · simp
    · exact newsOf HV4.out
    · exact oneOf
    · unfold maxLen; omega
    · omega
    · omega
    intro v5 w5 own5 hg5 hn5
    have b45 : Below (w3.heap.size + 1) w4 w5 := Below.grown (Below.refl _ _) hg5 (by omega) (fun x hx => (own4.lt x hx).1)
    have HU5 : Hid (IntRow w5 gu u) := fun j hj => (b45.cell (p := ⟨gu, j, Option.none⟩) (by have := cell_lt (HU3.out j hj); dsimp only; omega)).trans (HU4.out j hj)
    have HK5 : Hid (Blk w5 w2.heap.size #[.int .i64 g.1, .bool g.2] 25) := (b45.block _ (by omega)).trans HK4.out
    have HJ5 : Hid (Blk w5 w3.heap.size #[.int .i64 h.1, .bool h.2] 25) := (b45.block _ (by omega)).trans HJ4.out
    have HB5 : Hid (Below w.heap.size w w5) := HB4.out.trans (b45.mono (by omega))
    have s5 := b45.size
    have hv5n : v5 ≠ .slice Option.none 0 0 := hn5
    have e5 : u.length + v.length = (u ++ v).length := by simp
    rw [e5, ← List.map_append] at own5
    obtain ⟨g5, c5, rfl⟩ : ∃ g5 c5, v5 = .slice (some ⟨g5, 0, Option.none⟩) (u ++ v).length c5 := by
      rcases ownsRow_forms own5 with ⟨e, _⟩ | ⟨g, c, e⟩
      · exact absurd e hv5n
      · exact ⟨g, c, e⟩
    have HUV : Hid (IntRow w5 g5 (u ++ v)) := rowOf own5
    clear own4 own5 hg5 hn5 hn4 hv5n b45 HV4 HV3 HU4 HU3 HK4 HK3 HJ4 HB4 HB3
    have C5 := symOfWord_i kind g5 c5 (u ++ v) w5 HUV.out (by rw [← e5]; omega)
    rw [HR3.out] at C5
    clear e5
    generalize hUVL : (u ++ v).length = nuv at C5 ⊢
    go_wp2_with fail
    refine C5.mono ?_
    rintro e w6 ⟨rfl, hb6⟩
    have s6 := hb6.size
    have HU6 : Hid (IntRow w6 gu u) := HU5.out.below hb6
    have HK6 : Hid (Blk w6 w2.heap.size #[.int .i64 g.1, .bool g.2] 25) := HK5.out.below hb6
    have HJ6 : Hid (Blk w6 w3.heap.size #[.int .i64 h.1, .bool h.2] 25) := HJ5.out.below hb6
    have HB6 : Hid (Below w.heap.size w w6) := HB5.out.trans (hb6.mono (by omega))
    clear hb6 C5 HU5 HK5 HJ5 HB5 HUV hUVL
    go_wp2_with fail
    have HU7 : Hid (IntRow (w6.alloc (.cells #[.int .i64 (thenT g.1 h.1 h.2), .bool (thenF g.1 h.1 g.2 h.2)] 25)) gu u) := fun j hj => cAlloc (HU6.out j hj)
    have HB7 : Hid (Below w.heap.size w (w6.alloc (.cells #[.int .i64 (thenT g.1 h.1 h.2), .bool (thenF g.1 h.1 g.2 h.2)] 25))) := HB6.out.alloc (by omega) _
    have HK7 : Hid (Blk (w6.alloc (.cells #[.int .i64 (thenT g.1 h.1 h.2), .bool (thenF g.1 h.1 g.2 h.2)] 25)) w2.heap.size #[.int .i64 g.1, .bool g.2] 25) := HK6.out.alloc
    have HJ7 : Hid (Blk (w6.alloc (.cells #[.int .i64 (thenT g.1 h.1 h.2), .bool (thenF g.1 h.1 g.2 h.2)] 25)) w3.heap.size #[.int .i64 h.1, .bool h.2] 25) := HJ6.out.alloc
    have HL7 : Hid (Blk (w6.alloc (.cells #[.int .i64 (thenT g.1 h.1 h.2), .bool (thenF g.1 h.1 g.2 h.2)] 25)) w6.heap.size #[.int .i64 (thenT g.1 h.1 h.2), .bool (thenF g.1 h.1 g.2 h.2)] 25) := Blk.new _ _ _
    have s7 : w6.heap.size < (w6.alloc (.cells #[.int .i64 (thenT g.1 h.1 h.2), .bool (thenF g.1 h.1 g.2 h.2)] 25)).heap.size := by simp
    clear HU6 HK6 HJ6 HB6
    generalize w6.alloc (.cells #[.int .i64 (thenT g.1 h.1 h.2), .bool (thenF g.1 h.1 g.2 h.2)] 25) = wq at *
    have k0 : wq.cell? ⟨w2.heap.size, 0, Option.none⟩ = some (.int .i64 g.1) := HK7.out.cell 0
    have k1 : wq.cell? ⟨w2.heap.size, 1, Option.none⟩ = some (.bool g.2) := HK7.out.cell 1
    have j0 : wq.cell? ⟨w3.heap.size, 0, Option.none⟩ = some (.int .i64 h.1) := HJ7.out.cell 0
    have j1 : wq.cell? ⟨w3.heap.size, 1, Option.none⟩ = some (.bool h.2) := HJ7.out.cell 1
    have l0 : wq.cell? ⟨w6.heap.size, 0, Option.none⟩ = some (.int .i64 (thenT g.1 h.1 h.2)) := HL7.out.cell 0
    have l1 : wq.cell? ⟨w6.heap.size, 1, Option.none⟩ = some (.bool (thenF g.1 h.1 g.2 h.2)) := HL7.out.cell 1
    go_region_held3 (fun W => Below wq.heap.size wq W ∧ wq.heap.size ≤ W.heap.size ∧ W.cell? ⟨w2.heap.size, 0, Option.none⟩ = some (.int .i64 (g.1)) ∧ W.cell? ⟨w2.heap.size, 1, Option.none⟩ = some (.bool (g.2)) ∧ W.cell? ⟨w3.heap.size, 0, Option.none⟩ = some (.int .i64 (h.1)) ∧ W.cell? ⟨w3.heap.size, 1, Option.none⟩ = some (.bool (h.2)) ∧ W.cell? ⟨w6.heap.size, 0, Option.none⟩ = some (.int .i64 (thenT g.1 h.1 h.2)) ∧ W.cell? ⟨w6.heap.size, 1, Option.none⟩ = some (.bool (thenF g.1 h.1 g.2 h.2)))
      (((repeat' apply And.intro) <;> first | (with_reducible assumption) | (((repeat (first | (with_reducible assumption) | (with_reducible exact cNewAt (by first | rfl | (simp only [World.size_alloc, World.size_setCell, World.size_drew]; done) | omega) rfl) | (with_reducible exact sNewAt (by first | rfl | (simp only [World.size_alloc, World.size_setCell, World.size_drew]; done) | omega) rfl) | (simp; done) | (with_reducible apply cAlloc) | (with_reducible apply cDrew) | (with_reducible refine cSet (by dsimp only; omega) ?_) | (with_reducible refine cSetOff (by dsimp only; omega) ?_) | (with_reducible apply cSame) | (with_reducible refine cBelow (by assumption) ?_) | (with_reducible apply sAlloc) | (with_reducible apply sDrew) | (with_reducible refine sBelow (by assumption) ?_) | (with_reducible refine sSet (by dsimp only; omega) ?_))); first | done | (simp [*]; done)); done) | (simp only [World.size_alloc, World.size_setCell, World.size_drew]; omega) | omega | (go_keep; done) | ((repeat' (first | (with_reducible exact Below.refl _ _) | (with_reducible assumption) | (with_reducible refine Below.alloc ?_ ?_ _) | (with_reducible refine Below.drew ?_) | (with_reducible refine Below.setCell ?_ ?_ _) | (with_reducible refine Below.trans ?_ (Below.mono (by assumption) ?_)) | (with_reducible exact Nat.le_refl _) | omega | (simp only [World.size_alloc, World.size_setCell, World.size_drew]; omega) | (simp; omega) | (simp; done))); done)))
      (first | (go_at_call 17; refine (thenSym_i _ _ _ _ _).mono ?_; rintro e w1 ⟨rfl, hb⟩; obtain ⟨hc, hf⟩ := bcell hb; have HL := keepL (by (repeat (first | (with_reducible assumption) | (with_reducible apply AllLt.alloc) | (with_reducible apply AllLt.setCell) | (with_reducible apply AllLt.drew) | (with_reducible exact AllLt.nil _)))) hb; have hq := HL; simp only [AllLt, and_true, World.size_alloc, World.size_setCell, World.size_drew] at hq; have hbs := hb.size; try simp only [World.size_alloc, World.size_setCell, World.size_drew] at hbs))
    have HS : Hid (Below wq.heap.size wq w1) := And.left (by assumption)
    have s8 := HS.out.size
    have HU8 : Hid (IntRow w1 gu u) := HU7.out.below HS.out
    have HB8 : Hid (Below w.heap.size w w1) := HB7.out.trans (HS.out.mono (by omega))
    have HK8 : Hid (Blk w1 w2.heap.size #[.int .i64 g.1, .bool g.2] 25) := HK7.out.below HS.out
    have hl2 := HK8.out.lt
    clear HS HU7 HB7 HK7 HJ7 HL7
    go_wp2_with fail
    refine (CW _).mono ?_
    rintro e w9 ⟨gs, cs, rfl, hsw, hgs1, hgs2, hb9⟩
    have HSW : Hid (IntRow w9 gs sw) := hsw.row
    have HU9 : Hid (IntRow w9 gu u) := HU8.out.below hb9
    have HB9 : Hid (Below w.heap.size w w9) := HB8.out.trans (hb9.mono (by omega))
    have HK9 : Hid (Blk w9 w2.heap.size #[.int .i64 g.1, .bool g.2] 25) := HK8.out.below hb9
    have s9 := hb9.size
    clear hsw hb9 CW HU8 HB8 HK8
    go_wp2_with fail
    have C9 := symOfWord_i kind gs cs sw w9 HSW.out (by omega)
    rw [HRS.out] at C9
    refine C9.mono ?_
    rintro e w10 ⟨rfl, hb10⟩
    have s10 := hb10.size
    have HU10 : Hid (IntRow w10 gu u) := HU9.out.below hb10
    have HB10 : Hid (Below w.heap.size w w10) := HB9.out.trans (hb10.mono (by omega))
    have HK10 : Hid (Blk w10 w2.heap.size #[.int .i64 g.1, .bool g.2] 25) := HK9.out.below hb10
    have k0' : w10.cell? ⟨w2.heap.size, 0, Option.none⟩ = some (.int .i64 g.1) := HK10.out.cell 0
    have k1' : w10.cell? ⟨w2.heap.size, 1, Option.none⟩ = some (.bool g.2) := HK10.out.cell 1
    have hl10 := HK10.out.lt
    have hpar : (u.length : Int) % 2 = (sw.length : Int) % 2 := by
      have h1 := HWL.out.2
      have h2 := HSF.out.2.2
      rw [HSN.out] at h2
      rw [h1] at h2
      rcases (by omega : u.length % 2 = 0 ∨ u.length % 2 = 1) with e | e <;> simp [e] at h2 <;> omega
    have hle4 : (sw.length : Int) ≤ 4 := by
      have h2 := HSF.out.2.1
      rw [HSN.out] at h2
      omega
    have hleu : (sw.length : Int) ≤ (u.length : Int) := by
      have h1 := HWL.out.1
      have h2 := HSF.out.1
      rw [HSN.out, h2] at h1
      omega
    have HPAR : Hid ((u.length : Int) % 2 = (sw.length : Int) % 2) := hpar
    have hparC : ((u.length : Int) % 2 != (sw.length : Int) % 2) = false := by rw [hpar]; simp
    have hleuN : sw.length ≤ u.length := by omega
    have hltuN : ¬ u.length < sw.length := by omega
    clear hb10 C9 HU9 HB9 HK9 HSW hpar
    by_cases hkz : kind = 0
    · have hul := HZU.out hkz
      have hul2 : ((u.length : Int) == 0) = true := by simp [hul]
      have hkz2 : (kind == 0) = true := by simpa using hkz
      clear hkz hul
      have hB := HB10.out
      go_wp2
      go_returns
      exact ⟨rfl, by (repeat' (first | (with_reducible exact Below.refl _ _) | (with_reducible assumption) | (with_reducible refine Below.alloc ?_ ?_ _) | (with_reducible refine Below.drew ?_) | (with_reducible refine Below.setCell ?_ ?_ _) | (with_reducible refine Below.trans ?_ (Below.mono (by assumption) ?_)) | (with_reducible exact Nat.le_refl _) | omega | (simp only [World.size_alloc, World.size_setCell, World.size_drew]; omega) | (simp; omega) | (simp; done)))⟩
    · have hkz2 : (kind == 0) = false := by simpa using hkz
      have hR4 := HTW.out (by omega)
      have HR4 : Hid (wordR kind (u ++ [0, 0]) = (g, true)) := hR4
      clear hR4 hkz
      go_wp2_with (at_builtin; go_loud (refine wpList_append_own _ rfl _ _ 34 rfl (w10.heap.size + 1) 3 i0 (.int .i64 0) 1 8 Try.underlying34 hi hz0 hz1 hz2 rfl (by decide) _ 0 [] rfl ?_ ⟨gu, 0, Option.none⟩ u.length cu (u.map (Value.int .i64)) rfl ?_ ?_ ?_ ?_ ?_ ?_ ?_))
      · have := World.ownsRow_lit (base := w10.heap.size + 1) (e := 3) (size := 1) (w10.alloc (.cells #[.int .i64 g.1, .bool g.2] 25)) #[] 0 (by simp) (by unfold maxLen; omega) rfl
        exact (by simpa using this :)
      · simp
      · exact newsOf (fun j hj => cAlloc (cAlloc (HU10.out j hj)))
      · exact oneOf
      · unfold maxLen; omega
      · omega
      · simp
      intro v4 w11 own4 hg4 hn4
      have b34 : Below (w10.heap.size + 1) (w10.alloc (.cells #[.int .i64 g.1, .bool g.2] 25)) w11 := Below.grown ((Below.refl _ _).alloc (by simp) _) hg4 (by simp) (fun x hx => by cases hx; simp)
      have HK11 : Hid (Blk w11 w2.heap.size #[.int .i64 g.1, .bool g.2] 25) := (b34.block _ (by omega)).trans HK10.out.alloc
      have HB11 : Hid (Below w.heap.size w w11) := (HB10.out.alloc (by omega) _).trans (b34.mono (by omega))
      have s11 := b34.size
      simp only [World.size_alloc] at s11
      clear hg4 b34
      go_wp2_with (at_builtin; go_loud (refine wpList_append_own _ rfl _ _ 34 rfl (w10.heap.size + 1) 3 i0 (.int .i64 0) 1 8 Try.underlying34 hi hz0 hz1 hz2 rfl (by decide) _ u.length (u.map (Value.int .i64)) rfl ?_ ⟨w11.heap.size, 0, Option.none⟩ 2 2 [.int .i64 0, .int .i64 0] rfl rfl ?_ ?_ ?_ ?_ ?_ ?_))
      · exact own4.alloc _
      · intro j y hj
        rcases j with _ | _ | j <;> simp at hj <;> subst hj <;> simp [Addr.add]
      · intro y hy
        simp at hy
        subst hy
        rfl
      · unfold maxLen; omega
      · omega
      · simp; omega
      intro v5 w12 own5 hg5 hn5
      have b45 : Below (w10.heap.size + 1) w11 w12 := Below.grown ((Below.refl _ _).alloc (by omega) _) hg5 (by simp; omega) (fun x hx => (own4.lt x hx).1)
      have HK12 : Hid (Blk w12 w2.heap.size #[.int .i64 g.1, .bool g.2] 25) := (b45.block _ (by omega)).trans HK11.out
      have HB12 : Hid (Below w.heap.size w w12) := HB11.out.trans (b45.mono (by omega))
      have s12 := b45.size
      have e5 : u.length + 2 = (u ++ [0, 0]).length := by simp
      have e6 : u.map (Value.int .i64) ++ [.int .i64 0, .int .i64 0] = (u ++ [0, 0]).map (Value.int .i64) := by simp
      rw [e5, e6] at own5
      obtain ⟨g5, c5, rfl⟩ : ∃ g5 c5, v5 = .slice (some ⟨g5, 0, Option.none⟩) (u ++ [0, 0]).length c5 := by
        rcases ownsRow_forms own5 with ⟨e, _⟩ | ⟨g, c, e⟩
        · exact absurd e hn5
        · exact ⟨g, c, e⟩
      have HUV : Hid (IntRow w12 g5 (u ++ [0, 0])) := rowOf own5
      clear own4 own5 hg5 hn5 hn4 b45 HK11 HB11
      have C5 := symOfWord_i kind g5 c5 (u ++ [0, 0]) w12 HUV.out (by rw [← e5]; omega)
      rw [HR4.out] at C5
      clear e5 e6
      generalize hUVL : (u ++ [0, 0]).length = nuv at C5 ⊢
      go_wp2_with fail
      refine C5.mono ?_
      rintro e w13 ⟨rfl, hb13⟩
      have s13 := hb13.size
      have HK13 : Hid (Blk w13 w2.heap.size #[.int .i64 g.1, .bool g.2] 25) := HK12.out.below hb13
      have HB13 : Below w.heap.size w w13 := HB12.out.trans (hb13.mono (by omega))
      have k0'' : w13.cell? ⟨w2.heap.size, 0, Option.none⟩ = some (.int .i64 g.1) := HK13.out.cell 0
      have k1'' : w13.cell? ⟨w2.heap.size, 1, Option.none⟩ = some (.bool g.2) := HK13.out.cell 1
      have hl13 := HK13.out.lt
      clear hb13 C5 HUV hUVL HK12 HB12 HK10 HB10 k0' k1'
      go_wp2
      go_returns
      exact ⟨rfl, by (repeat' (first | (with_reducible exact Below.refl _ _) | (with_reducible assumption) | (with_reducible refine Below.alloc ?_ ?_ _) | (with_reducible refine Below.drew ?_) | (with_reducible refine Below.setCell ?_ ?_ _) | (with_reducible refine Below.trans ?_ (Below.mono (by assumption) ?_)) | (with_reducible exact Nat.le_refl _) | omega | (simp only [World.size_alloc, World.size_setCell, World.size_drew]; omega) | (simp; omega) | (simp; done)))⟩
  · go_enter Try.func7, Try.ntmps7
    go_wp2_with fail
    refine (big_yes _ _ _ _ hlen).mono ?_
    rintro e w0 ⟨rfl, rfl⟩
    go_wp2
    go_returns; exact ⟨rfl, by (repeat' (first | (with_reducible exact Below.refl _ _) | (with_reducible assumption) | (with_reducible refine Below.alloc ?_ ?_ _) | (with_reducible refine Below.drew ?_) | (with_reducible refine Below.setCell ?_ ?_ _) | (with_reducible refine Below.trans ?_ (Below.mono (by assumption) ?_)) | (with_reducible exact Nat.le_refl _) | omega | (simp only [World.size_alloc, World.size_setCell, World.size_drew]; omega) | (simp; omega) | (simp; done)))⟩
end Go.Proofs.Ytbeefbmgbmgbfaa.wFnWords
