/-
  The draw of two words of mirrors.
-/
import Derived.Test.YtbeefbmgbmgbfaaDone
import Derived.Test.YtbeefbmgbmgbfaaWfour
import Derived.Maps.AppendAt
namespace Go.Proofs.Ytbeefbmgbmgbfaa
open Go.ChangeShapes Go.WideShapes Go.ChangeAt Go.RowKit Go.Joins 
set_option linter.unusedSimpArgs false
set_option linter.unusedVariables false
/-- Letters that mirrors of a kind have. -/
def Letters (kind : Int) (u : List Int) : Prop := ∀ x ∈ u, 0 ≤ x ∧ x < ((mirL kind).length : Int)
theorem mirL_min {kind : Int} (h0 : 1 ≤ kind) (h3 : kind ≤ 3) : ((mirL kind).length : Int) = min kind 2 := by
  rcases (by omega : kind = 1 ∨ kind = 2 ∨ kind = 3) with rfl | rfl | rfl <;> decide
theorem Cur.grown {W w1 : World} {B q : Nat} {r : Option Nat} (h : Cur B W q) (hg : W.grownBy w1 r) (hne : r ≠ some q) (hrB : ∀ k, r = some k → B ≤ k) (hB : B ≤ W.heap.size) : Cur B w1 q := by
  obtain ⟨a, len, cap, bs, i, h, h1, h2, h3, h4, h5⟩ := h
  have hl := h1.lt
  exact ⟨a, len, cap, bs, i, h, (hg.block q hl (fun e => hne e.symm)).trans h1, h2, h3, h4.of ((Below.refl B W).grown hg hB hrB), h5⟩
/-- A slice of integers that the call owns, apart from two blocks. -/
def Own (W : World) (B : Nat) (v : Value) (u : List Int) (p q : Nat) : Prop :=
  W.ownsRow B 3 1 v u.length (u.map (Value.int .i64)) ∧ v ≠ .slice Option.none 0 0 ∧ v.ownBlock ≠ some p ∧ v.ownBlock ≠ some q
theorem Own.grown {W w1 : World} {B p q : Nat} {v : Value} {u : List Int} {r : Nat} (h : Own W B v u p q) (hg : W.grownBy w1 (some r)) (hr : r = p ∨ r = q) : Own w1 B v u p q :=
  ⟨h.1.kept hg (.inr (by rcases hr with rfl | rfl; exact h.2.2.1; exact h.2.2.2)), h.2.1, h.2.2.1, h.2.2.2⟩
theorem Own.alloc {W : World} {B p q : Nat} {v : Value} {u : List Int} {o : Obj} (h : Own W B v u p q) : Own (W.alloc o) B v u p q := ⟨h.1.alloc _, h.2.1, h.2.2.1, h.2.2.2⟩
theorem Own.at {W w1 : World} {B p q : Nat} {v v' : Value} {u : List Int} {x : Int} (h : Own W B v u p q) (ho : w1.ownsRow B 3 1 v' (u.length + 1) (u.map (Value.int .i64) ++ [.int .i64 x])) (hn : v' ≠ .slice Option.none 0 0)
    (hat : v'.ownBlock = v.ownBlock ∨ v'.ownBlock = some W.heap.size) (hp : p < W.heap.size) (hq : q < W.heap.size) : Own w1 B v' (u ++ [x]) p q := by
  refine ⟨by simpa using ho, hn, ?_, ?_⟩
  · rcases hat with e | e
    · rw [e]; exact h.2.2.1
    · rw [e]; intro e2; have := Option.some.inj e2; omega
  · rcases hat with e | e
    · rw [e]; exact h.2.2.2
    · rw [e]; intro e2; have := Option.some.inj e2; omega

theorem Own.row {W : World} {B p q g c : Nat} {u : List Int} (h : Own W B (.slice (some ⟨g, 0, Option.none⟩) u.length c) u p q) : IntRow W g u := fun k hk => by
  rw [h.1.cellAt k (by omega)]
  simp [List.getD, hk]

/-- What the draw of two words gives. -/
def WordsDrawn (w : World) (e : Ending) (w' : World) : Prop :=
  ∃ (kind : Int) (u v : List Int) (gu cu gv cv : Nat), e = .returned (.tuple #[.int .i64 kind, .slice (some ⟨gu, 0, Option.none⟩) u.length cu, .slice (some ⟨gv, 0, Option.none⟩) v.length cv]) ∧
      0 ≤ kind ∧ kind ≤ 3 ∧ Letters kind u ∧ Letters kind v ∧ u.length ≤ 8 ∧ v.length ≤ 8 ∧ IntRow w' gu u ∧ IntRow w' gv v ∧ Below w.heap.size w w'

set_option maxHeartbeats 16000000 in
set_option maxRecDepth 1000000 in
theorem drawWords_s (a : Option Addr) (len cap : Nat) (bs : List Int) (w : World) (hrow : ByteRow w w.heap.size a len bs) (hlen : len ≤ 4096) :
    Calls Try.prog 20 #[.slice a len cap] w (WordsDrawn w) := by
  obtain ⟨i0, hi, hz0, hz1, hz2⟩ := info_parts infoInt
  go_enter Try.func20, Try.ntmps20
  go_wp2_with fail
  refine (l1New_s a len cap bs _ hrow hlen).mono ?_
  rintro e w1 ⟨q, rfl, hql, hcur, hb1⟩
  have HC1 : Hid (Cur w.heap.size w1 q) := hcur
  have hqB : w.heap.size ≤ q := by
    obtain ⟨_, _, _, _, _, _, _, _, _, _, h5⟩ := hcur
    exact h5
  have s1 := hb1.size
  clear hcur
  go_wp2_with fail
  refine (l1Below_s _ q 4 _ HC1.out (by omega) (by omega)).mono ?_
  rintro e w2 ⟨kind, rfl, hk0, hk3, hc2, hg2⟩
  have HC2 : Hid (Cur w.heap.size w2 q) := hc2
  have s2 := hg2.size
  have b2 : Below w.heap.size w w2 := hb1.trans (below_of_grown hg2 hqB s1)
  clear hc2 hg2 hb1 HC1
  go_wp2_with fail
  have HC3 : Hid (Cur w.heap.size ((w2.alloc (.cells #[] 3)).alloc (.cells #[] 3)) q) := HC2.out.below (((Below.refl _ _).alloc (Nat.le_refl _) _).alloc (by simp) _)
  refine (l1Below_s _ q 9 _ HC3.out (by omega) (by omega)).mono ?_
  rintro e w3 ⟨n, rfl, hn0, hn9, hc4, hg4⟩
  have s4 := hg4.size
  simp only [World.size_alloc] at s4
  have HO7 : Hid (Own w3 w.heap.size (.slice (some ⟨w2.heap.size, 0, Option.none⟩) 0 0) [] q (w2.heap.size + 1)) := by
    refine Own.grown (r := q) ?_ hg4 (.inl rfl)
    refine Own.alloc ⟨World.ownsRow_lit _ #[] 0 (by omega) (by unfold maxLen; omega) rfl, by simp, ?_, ?_⟩
    · simp [Value.ownBlock]; omega
    · simp [Value.ownBlock]
  have HO8 : Hid (Own w3 w.heap.size (.slice (some ⟨w2.heap.size + 1, 0, Option.none⟩) 0 0) [] q q) := by
    refine Own.grown (r := q) ?_ hg4 (.inl rfl)
    refine ⟨?_, by simp, ?_, ?_⟩
    · have := World.ownsRow_lit (base := w.heap.size) (e := 3) (size := 1) (w2.alloc (.cells #[] 3)) #[] 0 (by simp; omega) (by unfold maxLen; omega) rfl
      simpa using this
    · simp [Value.ownBlock]; omega
    · simp [Value.ownBlock]; omega
  have HC4 : Hid (Cur w.heap.size w3 q) := hc4
  have HB4 : Hid (Below w.heap.size w w3) := b2.trans (((((Below.refl _ _).alloc (by omega) _).alloc (by simp; omega) _)).trans (below_of_grown hg4 hqB (by simp; omega)))
  clear hc4 hg4 HC2 HC3 b2
  go_wp2_with fail
  go_loopw [7, 9] (fun s i wr => ∃ (m : Nat) (u : List Int), i = .int .i64 m ∧ u.length + m ≤ 8 ∧ Letters kind u ∧ Own wr w.heap.size s u q (w2.heap.size + 1) ∧ Own wr w.heap.size (.slice (some ⟨w2.heap.size + 1, 0, Option.none⟩) 0 0) [] q q ∧ Cur w.heap.size wr q ∧ w3.heap.size ≤ wr.heap.size ∧ Below w.heap.size w wr)
    (fun _ i _ => (intOf i).toNat)
  case atStart => exact ⟨n.toNat, [], by rw [Int.toNat_of_nonneg hn0], by simp; omega, (fun x hx => by cases hx), HO7.out, HO8.out, HC4.out, Nat.le_refl _, HB4.out⟩
  case round =>
    obtain ⟨m, u, rfl, hum, hlet, ho7, ho8, hcur, hsz, hbel⟩ := hrel
    have HL : Hid (Letters kind u) := hlet
    have HO7 : Hid (Own wr w.heap.size u7 u q (w2.heap.size + 1)) := ho7
    have HO8 : Hid (Own wr w.heap.size (.slice (some ⟨w2.heap.size + 1, 0, Option.none⟩) 0 0) [] q q) := ho8
    have HC : Hid (Cur w.heap.size wr q) := hcur
    have HB : Hid (Below w.heap.size w wr) := hbel
    have hbs := hbel.size
    clear hlet ho7 ho8 hcur hbel
    by_cases hgo : 0 < m ∧ 0 < kind
    · obtain ⟨hm0, hkp⟩ := hgo
      have hm1 : (0 : Int) < (m : Int) := by omega
      have HLK : Hid (∀ x : Int, 0 ≤ x → x < min kind 2 → Letters kind (u ++ [x])) := fun x hx0 hx1 y hy => by
        rcases List.mem_append.1 hy with hy | hy
        · exact HL.out y hy
        · simp at hy
          subst hy
          exact ⟨hx0, by rw [mirL_min (by omega) (by omega)]; exact hx1⟩
      rcases (by omega : kind = 1 ∨ kind = 2 ∨ kind = 3) with rfl | rfl | rfl
      all_goals
        go_wp2_with fail
        refine (l1Below_s _ q _ _ HC.out (by decide) (by decide)).mono ?_
        rintro e w5 ⟨x, rfl, hx0, hx1, hc5, hg5⟩
        have HC5 : Hid (Cur w.heap.size w5 q) := hc5
        have HO75 : Hid (Own w5 w.heap.size u7 u q (w2.heap.size + 1)) := HO7.out.grown hg5 (.inl rfl)
        have HO85 : Hid (Own w5 w.heap.size (.slice (some ⟨w2.heap.size + 1, 0, Option.none⟩) 0 0) [] q q) := HO8.out.grown hg5 (.inl rfl)
        have s5 := hg5.size
        have HB5 : Hid (Below w.heap.size w w5) := HB.out.trans (below_of_grown hg5 hqB hbs)
        have hul : u.length ≤ 8 := by omega
        clear hc5 hg5
        go_wp2_with (at_builtin; refine wpList_append_own_at _ rfl _ _ 34 rfl w.heap.size 3 i0 (.int .i64 0) 1 8 Try.underlying34 hi hz0 hz1 hz2 rfl (by decide) _ u.length (u.map (Value.int .i64)) rfl ?hown ⟨w5.heap.size, 0, Option.none⟩ 1 1 [.int .i64 x] rfl rfl ?c1 ?c2 ?c3 ?c4 ?c5 ?_)
        case hown => exact HO75.out.alloc.1
        case c1 =>
          intro j y hj
          rcases j with _ | j <;> simp at hj
          subst hj
          simp [Addr.add]
        case c2 =>
          intro y hy
          simp at hy
          subst hy
          rfl
        case c3 => (unfold maxLen; omega)
        case c4 => omega
        case c5 => first | omega | (simp only [World.size_alloc, World.size_setCell, World.size_drew]; omega)
        intro v' w6 hown' hgrow hvn hat
        have HAT : Hid (Own w6 w.heap.size v' (u ++ [x]) q (w2.heap.size + 1)) := Own.at (W := w5.alloc (.cells #[.int .i64 x] 3)) HO75.out.alloc hown' hvn (by rw [World.size_alloc]; exact hat) (by simp; omega) (by simp; omega)
        have HO86 : Hid (Own w6 w.heap.size (.slice (some ⟨w2.heap.size + 1, 0, Option.none⟩) 0 0) [] q q) := by
          refine ⟨HO85.out.alloc.1.kept hgrow (.inr ?_), HO85.out.2⟩
          exact fun e => HO75.out.2.2.2 e.symm
        have HC6 : Hid (Cur w.heap.size w6 q) := Cur.grown (W := w5.alloc (.cells #[.int .i64 x] 3)) (HC5.out.below ((Below.refl _ _).alloc (Nat.le_refl _) _)) hgrow HO75.out.2.2.1 (fun k hk => (HO75.out.1.lt k hk).1) (by simp; omega)
        have HB6 : Hid (Below w.heap.size w w6) := Below.grown (HB5.out.alloc (by omega) _) hgrow (by simp; omega) (fun k hk => (HO75.out.1.lt k hk).1)
        have s6 := hgrow.size
        simp only [World.size_alloc] at s6
        clear hown' hgrow hvn hat
        have HLM := show Hid _ from HLK.out x hx0 hx1
        go_wp2
        go_roundw
        case rel => exact ⟨m - 1, u ++ [x], by first | go_num | (simp; omega), by simp; omega, HLM.out, HAT.out, HO86.out, HC6.out, by omega, HB6.out⟩
        case measure => simp [intOf]; omega
    · obtain ⟨gu, cu, rfl⟩ : ∃ gu cu, u7 = .slice (some ⟨gu, 0, Option.none⟩) u.length cu := by
        rcases ownsRow_forms HO7.out.1 with ⟨e, _⟩ | ⟨g, c, e⟩
        · exact absurd e HO7.out.2.1
        · exact ⟨g, c, e⟩
      have hgq : gu ≠ q := fun e => HO7.out.2.2.1 (by rw [e]; rfl)
      have hg8 : gu ≠ w2.heap.size + 1 := fun e => HO7.out.2.2.2 (by rw [e]; rfl)
      have hul : u.length ≤ 8 := by omega
      have HU : Hid (Own wr w.heap.size (.slice (some ⟨gu, 0, Option.none⟩) u.length cu) u q q) := ⟨HO7.out.1, HO7.out.2.1, HO7.out.2.2.1, HO7.out.2.2.1⟩
      have HV : Hid (Own wr w.heap.size (.slice (some ⟨w2.heap.size + 1, 0, Option.none⟩) 0 0) [] q gu) := ⟨HO8.out.1, HO8.out.2.1, HO8.out.2.2.1, fun e => hg8 (Option.some.inj e).symm⟩
      have hgul := (HU.out.1.lt gu rfl).2
      have hfin : ∀ b : Bool, b = b := fun _ => rfl
      clear HO7 HO8
      have HN : Hid (¬ (0 < m ∧ 0 < kind)) := hgo
      clear hgo
      have HT : Hid ((0 < m ∧ ¬ 0 < kind) ∨ m = 0) := by
        have := HN.out
        show (0 < m ∧ ¬ 0 < kind) ∨ m = 0
        omega
      rcases HT.out with ⟨hm0, hk00⟩ | rfl
      all_goals
        try have hm1 : (0 : Int) < (m : Int) := by omega
        go_wp2_with fail
        refine (l1Below_s _ q 9 _ HC.out (by omega) (by omega)).mono ?_
        rintro e w7 ⟨n2, rfl, hn20, hn29, hc7, hg7⟩
        have HC7 : Hid (Cur w.heap.size w7 q) := hc7
        have HU7 : Hid (Own w7 w.heap.size (.slice (some ⟨gu, 0, Option.none⟩) u.length cu) u q q) := HU.out.grown hg7 (.inl rfl)
        have HV7 : Hid (Own w7 w.heap.size (.slice (some ⟨w2.heap.size + 1, 0, Option.none⟩) 0 0) [] q gu) := HV.out.grown hg7 (.inl rfl)
        have s7 := hg7.size
        have HB7 : Hid (Below w.heap.size w w7) := HB.out.trans (below_of_grown hg7 hqB hbs)
        clear hc7 hg7
        go_wp2_with fail
        go_loopw [8, 10] (fun s i wq => ∃ (m2 : Nat) (v : List Int), i = .int .i64 m2 ∧ v.length + m2 ≤ 8 ∧ Letters kind v ∧ Own wq w.heap.size s v q gu ∧ Own wq w.heap.size (.slice (some ⟨gu, 0, Option.none⟩) u.length cu) u q q ∧ Cur w.heap.size wq q ∧ w7.heap.size ≤ wq.heap.size ∧ Below w.heap.size w wq)
          (fun _ i _ => (intOf i).toNat)
        case atStart => exact ⟨n2.toNat, [], by rw [Int.toNat_of_nonneg hn20], by simp; omega, (fun x hx => by cases hx), HV7.out, HU7.out, HC7.out, Nat.le_refl _, HB7.out⟩
        case round =>
          obtain ⟨m2, v, rfl, hvm, hlet, ho8, hou, hcur, hsz2, hbel⟩ := hrel
          have HL2 : Hid (Letters kind v) := hlet
          have HO8 : Hid (Own wr w.heap.size u8 v q gu) := ho8
          have HOU : Hid (Own wr w.heap.size (.slice (some ⟨gu, 0, Option.none⟩) u.length cu) u q q) := hou
          have HCC : Hid (Cur w.heap.size wr q) := hcur
          have HBB : Hid (Below w.heap.size w wr) := hbel
          have hbs2 := hbel.size
          clear hlet ho8 hou hcur hbel
          by_cases hgo2 : 0 < m2 ∧ 0 < kind
          · first | (exfalso; omega) | skip
            all_goals
              obtain ⟨hm20, hkp⟩ := hgo2
              have hm21 : (0 : Int) < (m2 : Int) := by omega
              have HLK : Hid (∀ x : Int, 0 ≤ x → x < min kind 2 → Letters kind (v ++ [x])) := fun x hx0 hx1 y hy => by
                rcases List.mem_append.1 hy with hy | hy
                · exact HL2.out y hy
                · simp at hy
                  subst hy
                  exact ⟨hx0, by rw [mirL_min (by omega) (by omega)]; exact hx1⟩
              rcases (by omega : kind = 1 ∨ kind = 2 ∨ kind = 3) with rfl | rfl | rfl
              all_goals
                go_wp2_with fail
                refine (l1Below_s _ q _ _ HCC.out (by decide) (by decide)).mono ?_
                rintro e w5 ⟨x, rfl, hx0, hx1, hc5, hg5⟩
                have HC5 : Hid (Cur w.heap.size w5 q) := hc5
                have HO85 : Hid (Own w5 w.heap.size u8 v q gu) := HO8.out.grown hg5 (.inl rfl)
                have HOU5 : Hid (Own w5 w.heap.size (.slice (some ⟨gu, 0, Option.none⟩) u.length cu) u q q) := HOU.out.grown hg5 (.inl rfl)
                have s5 := hg5.size
                have HB5 : Hid (Below w.heap.size w w5) := HBB.out.trans (below_of_grown hg5 hqB hbs2)
                have hvl : v.length ≤ 8 := by omega
                clear hc5 hg5
                go_wp2_with (at_builtin; go_loud (refine wpList_append_own_at _ rfl _ _ 34 rfl w.heap.size 3 i0 (.int .i64 0) 1 8 Try.underlying34 hi hz0 hz1 hz2 rfl (by decide) _ v.length (v.map (Value.int .i64)) rfl ?_ ⟨w5.heap.size, 0, Option.none⟩ 1 1 [.int .i64 x] rfl rfl ?_ ?_ ?_ ?_ ?_ ?_))
                · exact HO85.out.alloc.1
                · intro j y hj
                  rcases j with _ | j <;> simp at hj
                  subst hj
                  simp [Addr.add]
                · intro y hy
                  simp at hy
                  subst hy
                  rfl
                · (unfold maxLen; omega)
                · omega
                · first | omega | (simp only [World.size_alloc, World.size_setCell, World.size_drew]; omega)
                intro v' w6 hown' hgrow hvn hat
                have HAT : Hid (Own w6 w.heap.size v' (v ++ [x]) q gu) := Own.at (W := w5.alloc (.cells #[.int .i64 x] 3)) HO85.out.alloc hown' hvn (by rw [World.size_alloc]; exact hat) (by simp; omega) (by simp; omega)
                have HOU6 : Hid (Own w6 w.heap.size (.slice (some ⟨gu, 0, Option.none⟩) u.length cu) u q q) := by
                  refine ⟨HOU5.out.alloc.1.kept hgrow (.inr ?_), HOU5.out.2⟩
                  exact fun e => HO85.out.2.2.2 e.symm
                have HC6 : Hid (Cur w.heap.size w6 q) := Cur.grown (W := w5.alloc (.cells #[.int .i64 x] 3)) (HC5.out.below ((Below.refl _ _).alloc (Nat.le_refl _) _)) hgrow HO85.out.2.2.1 (fun k hk => (HO85.out.1.lt k hk).1) (by simp; omega)
                have HB6 : Hid (Below w.heap.size w w6) := Below.grown (HB5.out.alloc (by omega) _) hgrow (by simp; omega) (fun k hk => (HO85.out.1.lt k hk).1)
                have s6 := hgrow.size
                simp only [World.size_alloc] at s6
                clear hown' hgrow hvn hat
                have HLM := show Hid _ from HLK.out x hx0 hx1
                go_wp2
                go_roundw
                case rel => exact ⟨m2 - 1, v ++ [x], by first | go_num | (simp; omega), by simp; omega, HLM.out, HAT.out, HOU6.out, HC6.out, by omega, HB6.out⟩
                case measure => simp [intOf]; omega
          · obtain ⟨gv, cv, rfl⟩ : ∃ gv cv, u8 = .slice (some ⟨gv, 0, Option.none⟩) v.length cv := by
              rcases ownsRow_forms HO8.out.1 with ⟨e, _⟩ | ⟨g, c, e⟩
              · exact absurd e HO8.out.2.1
              · exact ⟨g, c, e⟩
            have HT2 : Hid ((0 < m2 ∧ ¬ 0 < kind) ∨ m2 = 0) := by
              show (0 < m2 ∧ ¬ 0 < kind) ∨ m2 = 0
              omega
            clear hgo2
            rcases HT2.out with ⟨hm20, hk01⟩ | rfl
            all_goals
              try have hm21 : (0 : Int) < (m2 : Int) := by omega
              go_wp2
              go_ret3
              exact ⟨kind, u, v, gu, cu, gv, cv, rfl, hk0, by omega, HL.out, HL2.out, by omega, by omega, HOU.out.row, HO8.out.row, HBB.out⟩
end Go.Proofs.Ytbeefbmgbmgbfaa
