/-
  The call of FnSpread returns true and writes nothing that was there.
-/
import Derived.Test.YtlnikapkheldeaaK23
import Derived.Test.YtlnikapkheldeaaK19
import Derived.Test.YtlnikapkheldeaaK48
import Derived.Test.YtlnikapkheldeaaK47
import Derived.Deep.RegionHeld3
import Derived.Deep.DeepCutAuto
namespace Go.Proofs.Ytlnikapkheldeaa.wFnSpread
open Go.ChangeShapes Go.WideShapes Go.ChangeAt Go.RowKit Go.Joins
set_option linter.unusedSimpArgs false
set_option linter.unusedVariables false
set_option maxRecDepth 100000
attribute [local go_sem] store_f
open Ieee

/-- All that the law asks of a picture. -/
structure Spr (n g0 cap kd : Nat) (l m : List Lit) (c : Int) : Prop where
  s1 : SprPic kd n (some ⟨g0, 0, Option.none⟩) cap l m
  s2 : ∀ g c, SprPic kd n (some ⟨g, 0, Option.none⟩) c m m
  e1 : ∀ g2 c2 g3 c3, SameM n (some ⟨g2, 0, Option.none⟩) c2 m n (some ⟨g3, 0, Option.none⟩) c3 m true
  mm : ∀ g2 c2, MirM n (some ⟨g2, 0, Option.none⟩) c2 m c
  ge : (kd : Int) ≤ c
  len : m.length = n * n
  at_ : ∀ k, k < n * n → leastN kd n k = k → m.getD k default = l.getD k default
  ok : Oks l
theorem spr_of {n g0 cap kd : Nat} {l : List Lit} (h1 : 1 ≤ n) (h8 : n ≤ 8) (h3 : kd < 4) (hl : l.length = n * n) (hok : Oks l) : Spr n g0 cap kd l (spreadCols kd n l) (mirN (hasAll (picSyms n (spreadCols kd n l)))) := by
  have hkb : kindB (kd : Int) = true := by unfold kindB; simp; omega
  have hp := picB_ok h1 h8 hl hok
  have hmk := spread_oks (kd := kd) (n := n) hl hok
  have hml := spread_len (kd : Int) n l
  have hpm := picB_ok h1 h8 hml hmk
  have hb : (spreadCols kd n l).length ≤ 1000000000 := by have := Nat.mul_le_mul h8 h8; omega
  have S2 : ∀ g c, SprPic kd n (some ⟨g, 0, Option.none⟩) c (spreadCols kd n l) _ := fun g c => sprPic hkb hpm
  simp only [spread_again h3 h1 h8] at S2
  refine ⟨sprPic hkb hp, S2, fun g2 c2 g3 c3 => ?_, fun g2 c2 => mirM (picSymsM hpm) (by have := picSyms_le n (spreadCols kd n l); omega), spread_mir h3 h1 h8 hl hok, hml, fun k hk he => by rw [spread_get hk, he], hok⟩
  have h := sameM (n := n) (a := some ⟨g2, 0, Option.none⟩) (ca := c2) (m := n) (b := some ⟨g3, 0, Option.none⟩) (cb := c3) (k := spreadCols kd n l) hb
  rw [(colsEq_ok hmk hmk rfl).2 rfl] at h
  simpa using h

structure FirstY (kd n : Nat) (F : List Int) : Prop where
  call : ∀ w : World, Calls Try.prog 39 #[.int .i64 kd, .int .i64 n] w fun e w' => (∃ g cp, e = .returned (.slice (some ⟨g, 0, Option.none⟩) F.length cp) ∧ ∀ k, k < F.length → w'.cell? ⟨g, k, Option.none⟩ = some (.int .i64 (F.getD k 0))) ∧ Below w.heap.size w w'
theorem firstY {kd n : Nat} (h3 : kd < 4) (h1 : 1 ≤ n) (h8 : n ≤ 8) : FirstY kd n (firstsTo kd n (n * n)) := ⟨fun w => by
  refine ((firstI (kind := (kd : Int)) (n := (n : Int)) (WalkArith.wf_i64 (by omega)) (WalkArith.wf_i64 (by omega))).call w).mono ?_
  rintro e w' ⟨⟨v, rfl, hv⟩, hb⟩
  rcases hv with ⟨k', m', g, cp, e1, e2, _, _, _, rfl, own⟩ | ⟨hno, _⟩
  · obtain rfl : kd = k' := by omega
    obtain rfl : n = m' := by omega
    refine ⟨⟨g, cp, rfl, fun k hk => ?_⟩, hb⟩
    obtain ⟨g', e, hc⟩ := own.parts.1 k hk
    cases e
    exact hc
  · omega⟩
theorem wrap_sq {n : Nat} (h : n ≤ 5) : wrap64 ((n : Int) * (n : Int)) = (n : Int) * (n : Int) := by
  rcases (by omega : n = 0 ∨ n = 1 ∨ n = 2 ∨ n = 3 ∨ n = 4 ∨ n = 5) with rfl | rfl | rfl | rfl | rfl | rfl <;> first | decide | (simp; done) | (simp; decide) | (unfold wrap64; decide) | (go_num; done)
theorem sum_take (kd n : Nat) {F : List Int} {j : Nat} (h : j < F.length) : orbSum kd n (F.take (j + 1)) = orbSum kd n (F.take j) + orbN kd n (F.getD j 0).toNat := by
  unfold orbSum
  rw [List.take_succ_eq_append_getElem h, show F.getD j 0 = F[j] by simp [List.getD, h], List.map_append, List.sum_append]
  simp only [List.map_cons, List.map_nil, List.sum_cons, List.sum_nil, Nat.add_zero]
theorem sum_le (kd n : Nat) (F : List Int) : orbSum kd n F ≤ 8 * F.length := by
  induction F with
  | nil => simp [orbSum]
  | cons x r ih =>
    have h1 : orbN kd n x.toNat ≤ 8 := Nat.le_trans (Nat.div_le_self _ _) (symsTo_le (kd : Int) 8)
    have h2 : orbSum kd n (x :: r) = orbN kd n x.toNat + orbSum kd n r := by simp [orbSum]
    rw [h2, List.length_cons]
    omega

set_option maxHeartbeats 64000000 in
theorem walk (a : Option Addr) (len cap : Nat) (bs : List Int) (w : World) (hrow : ByteRow w w.heap.size a len bs) :
    Calls Try.prog 7 #[.slice a len cap] w fun e w' => e = .returned (.bool true) ∧ Below w.heap.size w w' := by
  by_cases hl : len ≤ 4096
  · go_enter Try.func7, Try.ntmps7
    go_wp2_with fail
    refine (big_no _ _ _ _ hl).mono ?_
    rintro e w0 ⟨rfl, rfl⟩
    go_wp2_with fail
    refine (drawPicture_s a len cap bs _ hrow hl).mono ?_
    rintro e w1 ⟨n, l, g0, cp, ⟨rfl, hrow1, hg0, h1, h5, hln, hok, hb1⟩⟩
    have h3 : len % 4 < 4 := Nat.mod_lt _ (by omega)
    have K := spr_of (g0 := g0) (cap := cp) h1 (by omega) h3 hln hok
    have OS := orb_sum h3 h1 (by omega)
    have OM : Hid (∀ k, k < n * n → OrbM (len % 4 : Nat) n k (orbN (len % 4 : Nat) n k)) := fun k hk => orbM ⟨fun H => sort_m H⟩ h3 h1 (by omega) hk
    have HL1 : Hid (LitRow w1 g0 0 l) := hrow1
    have B1 : Hid (Below w.heap.size w w1) := hb1
    have s1 := hb1.size
    have HLN : Hid (l.length = n * n) := hln
    clear hrow1 hok hb1 hrow hln
    have hmod : Hid (((len : Int) % 4) = ((len % 4 : Nat) : Int)) := by show _ = _; omega
    generalize spreadCols (len % 4 : Nat) n l = m at K
    generalize mirN (hasAll (picSyms n m)) = c at K
    go_wp2_with fail
    rw [hmod.out]
    generalize len % 4 = kd at *
    clear hmod
    generalize hV : w1.alloc (.cells #[.int .i64 n, .slice (some ⟨g0, 0, Option.none⟩) l.length cp] 37) = V
    have PV : Hid (Blk V w1.heap.size #[.int .i64 n, .slice (some ⟨g0, 0, Option.none⟩) l.length cp] 37) := by rw [← hV]; exact Blk.new _ _ _
    have LV : Hid (LitRow V g0 0 l) := by rw [← hV]; exact HL1.out.alloc
    have BV : Hid (Below w.heap.size w V) := by rw [← hV]; exact B1.out.alloc (by omega) _
    clear hV HL1 B1 s1
    generalize w1.heap.size = pp at *
    refine (K.s1.call _ (Or.inr ⟨g0, 0, rfl, LV.out⟩)).mono ?_
    rintro e w2 ⟨⟨g1, c1, ⟨rfl, own1⟩⟩, hb⟩
    have P2 : Hid (Blk w2 pp #[.int .i64 n, .slice (some ⟨g0, 0, Option.none⟩) l.length cp] 37) := PV.out.below hb
    have L2 : Hid (LitRow w2 g0 0 l) := LV.out.below hb
    have M2 : Hid (LitRow w2 g1 0 m) := litRow_of own1 rfl
    have B2 : Hid (Below w.heap.size w w2) := BV.out.trans (hb.mono BV.out.size)
    clear hb own1 PV LV BV
    go_wp2_with fail
    generalize hX : w2.alloc (.cells #[.int .i64 n, .slice (some ⟨g1, 0, Option.none⟩) m.length c1] 37) = X
    have P3 : Hid (Blk X pp #[.int .i64 n, .slice (some ⟨g0, 0, Option.none⟩) l.length cp] 37) := by rw [← hX]; exact P2.out.alloc
    have Q3 : Hid (Blk X w2.heap.size #[.int .i64 n, .slice (some ⟨g1, 0, Option.none⟩) m.length c1] 37) := by rw [← hX]; exact Blk.new _ _ _
    have L3 : Hid (LitRow X g0 0 l) := by rw [← hX]; exact L2.out.alloc
    have M3 : Hid (LitRow X g1 0 m) := by rw [← hX]; exact M2.out.alloc
    have B3 : Hid (Below w.heap.size w X) := by rw [← hX]; exact B2.out.alloc B2.out.size _
    clear hX P2 L2 M2 B2
    generalize w2.heap.size = qq at *
    refine ((K.s2 _ _).call _ (Or.inr ⟨g1, 0, rfl, M3.out⟩)).mono ?_
    rintro e w4 ⟨⟨g2, c2, ⟨rfl, own2⟩⟩, hb⟩
    have P4 : Hid (Blk w4 pp #[.int .i64 n, .slice (some ⟨g0, 0, Option.none⟩) l.length cp] 37) := P3.out.below hb
    have Q4 : Hid (Blk w4 qq #[.int .i64 n, .slice (some ⟨g1, 0, Option.none⟩) m.length c1] 37) := Q3.out.below hb
    have L4 : Hid (LitRow w4 g0 0 l) := L3.out.below hb
    have M4 : Hid (LitRow w4 g1 0 m) := M3.out.below hb
    have N4 : Hid (LitRow w4 g2 0 m) := litRow_of own2 rfl
    have B4 : Hid (Below w.heap.size w w4) := B3.out.trans (hb.mono B3.out.size)
    clear hb own2 P3 Q3 L3 M3 B3
    (have q0 := Blk.cellAt (i := 0) Q4.out rfl; have q1 := Blk.cellAt (i := 1) Q4.out rfl; simp only [List.getElem_toArray, List.getElem_cons_zero, List.getElem_cons_succ] at q0 q1)
    have lq := Q4.out.lt
    go_wp2_with fail
    generalize hX : w4.alloc (.cells #[.int .i64 n, .slice (some ⟨g2, 0, Option.none⟩) m.length c2] 37) = X
    have P5 : Hid (Blk X pp #[.int .i64 n, .slice (some ⟨g0, 0, Option.none⟩) l.length cp] 37) := by rw [← hX]; exact P4.out.alloc
    have Q5 : Hid (Blk X qq #[.int .i64 n, .slice (some ⟨g1, 0, Option.none⟩) m.length c1] 37) := by rw [← hX]; exact Q4.out.alloc
    have L5 : Hid (LitRow X g0 0 l) := by rw [← hX]; exact L4.out.alloc
    have M5 : Hid (LitRow X g1 0 m) := by rw [← hX]; exact M4.out.alloc
    have N5 : Hid (LitRow X g2 0 m) := by rw [← hX]; exact N4.out.alloc
    have B5 : Hid (Below w.heap.size w X) := by rw [← hX]; exact B4.out.alloc B4.out.size _
    clear hX P4 Q4 L4 M4 N4 B4 q0 q1 lq
    refine ((K.e1 _ _ _ _).call _ (Or.inr ⟨g1, 0, rfl, M5.out⟩) (Or.inr ⟨g2, 0, rfl, N5.out⟩)).mono ?_
    rintro e w6 ⟨rfl, hb⟩
    have P6 : Hid (Blk w6 pp #[.int .i64 n, .slice (some ⟨g0, 0, Option.none⟩) l.length cp] 37) := P5.out.below hb
    have Q6 : Hid (Blk w6 qq #[.int .i64 n, .slice (some ⟨g1, 0, Option.none⟩) m.length c1] 37) := Q5.out.below hb
    have L6 : Hid (LitRow w6 g0 0 l) := L5.out.below hb
    have M6 : Hid (LitRow w6 g1 0 m) := M5.out.below hb
    have B6 : Hid (Below w.heap.size w w6) := B5.out.trans (hb.mono B5.out.size)
    clear hb P5 Q5 L5 M5 N5 B5
    (have q0 := Blk.cellAt (i := 0) Q6.out rfl; have q1 := Blk.cellAt (i := 1) Q6.out rfl; simp only [List.getElem_toArray, List.getElem_cons_zero, List.getElem_cons_succ] at q0 q1)
    go_wp2_with fail
    refine ((K.mm _ _).call _ (Or.inr ⟨g1, 0, rfl, M6.out⟩)).mono ?_
    rintro e w7 ⟨rfl, hb⟩
    have P7 : Hid (Blk w7 pp #[.int .i64 n, .slice (some ⟨g0, 0, Option.none⟩) l.length cp] 37) := P6.out.below hb
    have Q7 : Hid (Blk w7 qq #[.int .i64 n, .slice (some ⟨g1, 0, Option.none⟩) m.length c1] 37) := Q6.out.below hb
    have L7 : Hid (LitRow w7 g0 0 l) := L6.out.below hb
    have M7 : Hid (LitRow w7 g1 0 m) := M6.out.below hb
    have B7 : Hid (Below w.heap.size w w7) := B6.out.trans (hb.mono B6.out.size)
    have hge := K.ge
    have hgd : decide (c < (kd : Int)) = false := by simp; omega
    clear hb P6 Q6 L6 M6 B6 q0 q1
    (have p0 := Blk.cellAt (i := 0) P7.out rfl; have p1 := Blk.cellAt (i := 1) P7.out rfl; simp only [List.getElem_toArray, List.getElem_cons_zero, List.getElem_cons_succ] at p0 p1)
    go_wp2_with fail
    have FY := firstY h3 h1 (show n ≤ 8 by omega)
    have HF : Hid (∀ x ∈ firstsTo (kd : Int) n (n * n), ∃ k : Nat, x = k ∧ k < n * n ∧ leastN kd n k = k) := fun x hx => firstsTo_mem hx
    have hF64 : (firstsTo (kd : Int) n (n * n)).length ≤ 64 := Nat.le_trans (firstsTo_le _ _ _) (Nat.mul_le_mul (show n ≤ 8 by omega) (show n ≤ 8 by omega))
    generalize firstsTo (kd : Int) n (n * n) = F at *
    have HSS : Hid (∀ j, j < F.length → orbSum kd n (F.take (j + 1)) = orbSum kd n (F.take j) + orbN kd n (F.getD j 0).toNat) := fun j hj => sum_take kd n hj
    have HSB : Hid (∀ j, j ≤ F.length → orbSum kd n (F.take j) ≤ 8 * j) := fun j hj => by
      have := sum_le kd n (F.take j)
      rwa [List.length_take, Nat.min_eq_left hj] at this
    have HS0 : Hid (orbSum kd n (F.take 0) = 0) := rfl
    have HSE : Hid (orbSum kd n (F.take F.length) = n * n) := by show _ = _; rw [List.take_length]; exact OS
    clear OS
    generalize hS : (fun j : Nat => orbSum kd n (F.take j)) = S
    have TSS : Hid (∀ j, j < F.length → S (j + 1) = S j + orbN kd n (F.getD j 0).toNat) := by rw [← hS]; exact HSS.out
    have TSB : Hid (∀ j, j ≤ F.length → S j ≤ 8 * j) := by rw [← hS]; exact HSB.out
    have TS0 : Hid (S 0 = 0) := by rw [← hS]; exact HS0.out
    have TSE : Hid (S F.length = n * n) := by rw [← hS]; exact HSE.out
    clear HSS HSB HS0 HSE hS
    refine (FY.call _).mono ?_
    rintro e w8 ⟨⟨gf, cf, rfl, hrowF⟩, hb⟩
    have R8 : Hid (∀ k, k < F.length → w8.cell? ⟨gf, k, Option.none⟩ = some (.int .i64 (F.getD k 0))) := hrowF
    have P8 : Hid (Blk w8 pp #[.int .i64 n, .slice (some ⟨g0, 0, Option.none⟩) l.length cp] 37) := P7.out.below hb
    have Q8 : Hid (Blk w8 qq #[.int .i64 n, .slice (some ⟨g1, 0, Option.none⟩) m.length c1] 37) := Q7.out.below hb
    have L8 : Hid (LitRow w8 g0 0 l) := L7.out.below hb
    have M8 : Hid (LitRow w8 g1 0 m) := M7.out.below hb
    have B8 : Hid (Below w.heap.size w w8) := B7.out.trans (hb.mono B7.out.size)
    clear hrowF hb P7 Q7 L7 M7 B7 p0 p1 hge hgd FY
    go_wp2_with fail
    go_loopw [10, 11] (fun s i wr => ∃ j : Nat, j ≤ F.length ∧ i = .int .i64 j ∧ s = .int .i64 (S j : Nat) ∧ Below w8.heap.size w8 wr) (fun _ i _ => F.length - (intOf i).toNat)
    case atStart => exact ⟨0, by omega, rfl, by rw [TS0.out]; rfl, Below.refl _ _⟩
    case round =>
      obtain ⟨j, hj, rfl, rfl, hbel⟩ := hrel
      have HB : Hid (Below w8.heap.size w8 wr) := hbel
      by_cases hlt : j < F.length
      · obtain ⟨k, hk, hkn, hkk⟩ := HF.out (F.getD j 0) (by simp [List.getD, hlt])
        have hss := TSS.out j hlt
        have hsb := TSB.out (j + 1) hlt
        rw [hk] at hss
        simp only [Int.toNat_natCast] at hss
        have OK := OM.out k hkn
        have CP := cellPl_yes h1 (show n ≤ 8 by omega) hkn
        have hat := K.at_ k hkn hkk
        have P9 := P8.out.below hbel
        have cF := cBelow hbel (R8.out j hlt)
        rw [hk] at cF
        have p0 := Blk.cellAt (i := 0) P9 rfl
        have p1 := Blk.cellAt (i := 1) P9 rfl
        simp only [List.getElem_toArray, List.getElem_cons_zero, List.getElem_cons_succ] at p0 p1
        have HKN : Hid (k < n * n) := hkn
        have HK : Hid (F.getD j 0 = (k : Int)) := hk
        have HMAT : Hid (m.getD k default = l.getD k default) := hat
        have HSJ : Hid (S (j + 1) = S j + orbN kd n k) := hss
        generalize orbN kd n k = oc at *
        clear P9 hbel hat hkk hkn hk
        go_wp2_with fail
        go_region_with (go_at_call 22; (with_reducible refine (CP.call _).mono ?_); rintro e wA ⟨rfl, hb⟩; have HA : Hid (Below w8.heap.size w8 wA) := HB.out.drew.trans (hb.mono HB.out.size); clear hb)
        all_goals
          clear p0 p1 cF
          go_wp2_with fail
          refine (OK.call _).mono ?_
          rintro e wB ⟨⟨go, co, rfl⟩, hb⟩
          have HC : Hid (Below w8.heap.size w8 wB) := HA.out.trans (hb.mono HA.out.size)
          have P9 := P8.out.below HC.out
          have Q9 := Q8.out.below HC.out
          have cF := cBelow HC.out (R8.out j hlt)
          have hkf : F.getD j 0 = (k : Int) := HK.out
          rw [hkf] at cF
          have p0 := Blk.cellAt (i := 0) P9 rfl
          have p1 := Blk.cellAt (i := 1) P9 rfl
          have q0 := Blk.cellAt (i := 0) Q9 rfl
          have q1 := Blk.cellAt (i := 1) Q9 rfl
          simp only [List.getElem_toArray, List.getElem_cons_zero, List.getElem_cons_succ] at p0 p1 q0 q1
          have hkl : k < l.length := by rw [HLN.out]; exact HKN.out
          have hkm : k < m.length := by rw [K.len]; exact HKN.out
          obtain ⟨x0, x1, x2⟩ := L8.out.below HC.out k hkl
          obtain ⟨y0, y1, y2⟩ := M8.out.below HC.out k hkm
          have hso := K.ok (l.getD k default) (by simp [List.getD, hkl])
          rw [HMAT.out] at y0 y1 y2
          generalize l.getD k default = s at hso x0 x1 x2 y0 y1 y2
          simp only [Nat.zero_add] at x0 x1 x2 y0 y1 y2
          have hEq := fun w => run_eq_same (r := s.r) (g := s.g) (b := s.b) (fin_of_lt (by have := hso.r; omega)) (fin_of_lt (by have := hso.g; omega)) (fin_of_lt (by have := hso.b; omega)) w
          clear hb hkf P9 Q9 hso
          go_wp2_with fail
          go_quiet (fail)
          go_wp2
          have hd := HC.out.size
          have hsj := HSJ.out
          go_roundw
          case rel => exact ⟨j + 1, by omega, by go_num, by first | (rw [hsj]; go_num; done) | (rw [hsj]; simp; omega), HC.out.trans (below_draws _ _ _)⟩
          case measure => simp [intOf]; omega
      · have hjm : j = F.length := by omega
        subst hjm
        have he : ((S F.length : Nat) : Int) = (n : Int) * (n : Int) := by rw [TSE.out]; simp
        have P9 := P8.out.below hbel
        have BZ : Hid (Below w.heap.size w wr) := B8.out.trans (hbel.mono B8.out.size)
        (have p0 := Blk.cellAt (i := 0) P9 rfl; have p1 := Blk.cellAt (i := 1) P9 rfl; simp only [List.getElem_toArray, List.getElem_cons_zero, List.getElem_cons_succ] at p0 p1)
        clear P9 hbel
        go_wp2
        go_ret
        exact ⟨by simp [he, wrap_sq h5], BZ.out⟩
  · go_enter Try.func7, Try.ntmps7
    go_wp2_with fail
    refine (big_yes _ _ _ _ hl).mono ?_
    rintro e w0 ⟨rfl, rfl⟩
    go_wp2
    all_goals (go_returns; exact ⟨rfl, by (repeat' (first | (with_reducible exact Below.refl _ _) | (with_reducible assumption) | (with_reducible refine Below.alloc ?_ ?_ _) | (with_reducible refine Below.drew ?_) | (with_reducible refine Below.setCell ?_ ?_ _) | (with_reducible refine Below.trans ?_ (Below.mono (by assumption) ?_)) | (with_reducible exact Nat.le_refl _) | omega | (simp only [World.size_alloc, World.size_setCell, World.size_drew]; omega) | (simp; omega) | (simp; done)))⟩)
end Go.Proofs.Ytlnikapkheldeaa.wFnSpread
