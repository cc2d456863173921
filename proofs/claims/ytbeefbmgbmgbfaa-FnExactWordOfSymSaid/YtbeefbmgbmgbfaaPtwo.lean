/-
  The shortest word of a symmetry as the model finds it.
-/
import Derived.Test.YtbeefbmgbmgbfaaPone
namespace Go.Proofs.Ytbeefbmgbmgbfaa
open Go.ChangeShapes Go.WideShapes Go.ChangeAt Go.RowKit Go.Joins 
set_option linter.unusedSimpArgs false
set_option linter.unusedVariables false
/-- What WordOfSym answers: a word in memory of the call's own, and whether there is one. -/
def WordAns (w : World) (z : List Int) (b : Bool) (e : Ending) (w' : World) : Prop :=
  ∃ g c, e = .returned (.tuple #[.slice (some ⟨g, 0, Option.none⟩) z.length c, .bool b]) ∧ IntBlk w' g z ∧ w.heap.size ≤ g ∧ g < w'.heap.size ∧ Below w.heap.size w w'
/-- The next level, when the first i words of this one have been looked at. -/
def nextTo (kind : Int) (l : List (List Int)) (i : Nat) : List (List Int) := (l.take i).flatMap fun z => if (l1WordR kind z).2 then ext z 2 else []
theorem nextTo_succ {kind : Int} {l : List (List Int)} {i : Nat} (h : i < l.length) : nextTo kind l (i + 1) = nextTo kind l i ++ (if (l1WordR kind (l.getD i [])).2 then ext (l.getD i []) 2 else []) := by
  unfold nextTo
  rw [List.take_succ_eq_append_getElem h, List.flatMap_append]
  simp [List.getD, h]
theorem take_find {l : List (List Int)} {i : Nat} {p : List Int → Bool} (h : i < l.length) (h1 : (l.take i).find? p = Option.none) (h2 : p (l.getD i []) = false) : (l.take (i + 1)).find? p = Option.none := by
  rw [List.take_succ_eq_append_getElem h, List.find?_append, h1]
  have e : l.getD i [] = l[i] := by simp [List.getD, h]
  rw [e] at h2
  simp [h2]

set_option maxHeartbeats 16000000 in
set_option maxRecDepth 1000000 in
theorem wordOfSym_s (kind t : Int) (f : Bool) (w : World) (R : Option (List Int)) (hR : wdsFind kind (t, f) = R) :
    Calls Try.prog 42 #[.int .i64 kind, .agg #[.int .i64 t, .bool f]] w (WordAns w (R.getD []) R.isSome) := by
  obtain ⟨i0, hi, hz0, hz1, hz2⟩ := info_parts infoInt
  obtain ⟨i1, hi1, hy0, hy1, hy2⟩ := info_parts infoInts
  have HRR : Hid (wdsFind kind (t, f) = R) := hR
  clear hR
  go_enter Try.func42, Try.ntmps42
  go_wp2_with fail
  go_loopw [6, 7] (fun s i wr => ∃ n : Nat, n ≤ 5 ∧ i = .int .i64 n ∧ Queue wr (w.heap.size + 1) s (lev kind n) ∧ (wds kind n).find? (isWd kind (t, f)) = Option.none ∧ Blk wr w.heap.size #[.int .i64 t, .bool f] 25 ∧ Below w.heap.size w wr) (fun _ i _ => 5 - (intOf i).toNat)
  case atStart =>
    refine ⟨0, by omega, rfl, ?_, by simp [wds], (Blk.new _ _ _).alloc.alloc, by (repeat' (first | (with_reducible exact Below.refl _ _) | (with_reducible assumption) | (with_reducible refine Below.alloc ?_ ?_ _) | (with_reducible refine Below.drew ?_) | (with_reducible refine Below.setCell ?_ ?_ _) | (with_reducible refine Below.trans ?_ (Below.mono (by assumption) ?_)) | (with_reducible exact Nat.le_refl _) | omega | (simp only [World.size_alloc, World.size_setCell, World.size_drew]; omega) | (simp; omega) | (simp; done)))⟩
    have e : lev kind 0 = [[]] := rfl
    rw [e]
    refine ⟨[.slice (some ⟨w.heap.size + 1, 0, Option.none⟩) 0 0], ?_, by simp, fun i hi => ?_⟩
    · have := World.ownsRow_lit (base := w.heap.size + 1) (e := 34) (size := 1) ((w.alloc (.cells #[.int .i64 t, .bool f] 25)).alloc (.cells #[] 3)) #[.slice (some ⟨w.heap.size + 1, 0, Option.none⟩) 0 0] 1 (by simp) (by unfold maxLen; omega) rfl
      simpa using this
    · obtain rfl : i = 0 := by simp at hi; exact hi
      exact ⟨w.heap.size + 1, 0, rfl, ⟨#[], (by simpa using (Blk.new (w.alloc (.cells #[.int .i64 t, .bool f] 25)) #[] 3).alloc), by simp, fun k hk => by simp at hk⟩, by simp [Value.ownBlock], by simp, by omega⟩
  case round =>
    obtain ⟨n, hn, rfl, hq, hfn, hblk, hbel⟩ := hrel
    have HQ : Hid (Queue wr (w.heap.size + 1) u6 (lev kind n)) := hq
    have HF : Hid ((wds kind n).find? (isWd kind (t, f)) = Option.none) := hfn
    have HK : Hid (Blk wr w.heap.size #[.int .i64 t, .bool f] 25) := hblk
    have HB : Hid (Below w.heap.size w wr) := hbel
    have hbs := hbel.size
    have hl0 := hblk.lt
    clear hq hfn hblk hbel
    by_cases hn4 : n ≤ 4
    · have hn4i : (n : Int) ≤ 4 := by omega
      have hn4d : decide ((n : Int) ≤ 4) = true := by simpa using hn4i
      obtain ⟨hlv, hzl⟩ := wds_len kind n
      have hl16 : (lev kind n).length ≤ 16 := Nat.le_trans hlv (Nat.pow_le_pow_right (n := 2) (by omega) hn4)
      have HZL : Hid (∀ z ∈ lev kind n, z.length = n) := hzl
      clear hlv hzl
      obtain ⟨q, cq, rfl⟩ : ∃ q cq, u6 = .slice (some ⟨q, 0, Option.none⟩) (lev kind n).length cq := by
        obtain ⟨hs, own, hnn, _⟩ := HQ.out
        rcases ownsRow_forms own with ⟨e, _⟩ | ⟨g, c, e⟩
        · exact absurd e hnn
        · exact ⟨g, c, e⟩
      obtain ⟨w0, hw0⟩ : ∃ w0 : World, w0 = wr := ⟨_, rfl⟩
      subst hw0
      go_wp2_with fail
      go_loopw [8, 23] (fun s i wq => ∃ k : Nat, k ≤ (lev kind n).length ∧ i = .int .i64 k ∧ Queue wq w0.heap.size s (nextTo kind (lev kind n) k) ∧ ((lev kind n).take k).find? (isWd kind (t, f)) = Option.none ∧ Below w0.heap.size w0 wq) (fun _ i _ => (lev kind n).length - (intOf i).toNat)
      case atStart =>
        refine ⟨0, by omega, rfl, ?_, by simp, by (repeat' (first | (with_reducible exact Below.refl _ _) | (with_reducible assumption) | (with_reducible refine Below.alloc ?_ ?_ _) | (with_reducible refine Below.drew ?_) | (with_reducible refine Below.setCell ?_ ?_ _) | (with_reducible refine Below.trans ?_ (Below.mono (by assumption) ?_)) | (with_reducible exact Nat.le_refl _) | omega | (simp only [World.size_alloc, World.size_setCell, World.size_drew]; omega) | (simp; omega) | (simp; done)))⟩
        have e : nextTo kind (lev kind n) 0 = [] := rfl
        rw [e]
        exact ⟨[], World.ownsRow_lit _ #[] 0 (by omega) (by unfold maxLen; omega) rfl, by simp, fun i hi => by simp at hi⟩
      case round =>
        obtain ⟨k, hk, rfl, hq2, hfk, hb0⟩ := hrel
        have HQ2 : Hid (Queue wr w0.heap.size u8 (nextTo kind (lev kind n) k)) := hq2
        have HFK : Hid (((lev kind n).take k).find? (isWd kind (t, f)) = Option.none) := hfk
        have HB0 : Hid (Below w0.heap.size w0 wr) := hb0
        have hs0 := hb0.size
        have HK1 : Hid (Blk wr w.heap.size #[.int .i64 t, .bool f] 25) := HK.out.below hb0
        clear hq2 hfk hb0
        by_cases hkl : k < (lev kind n).length
        · obtain ⟨hs, own, hnn, hrow⟩ := HQ.out
          obtain ⟨gw, cw, hsk, hiw, hgne, hgl, hgB⟩ := hrow k hkl
          have hzn := HZL.out ((lev kind n).getD k []) (by simp [List.getD, hkl])
          have hck : wr.cell? ⟨q, k, Option.none⟩ = some (.slice (some ⟨gw, 0, Option.none⟩) ((lev kind n).getD k []).length cw) := by
            refine (HB0.out.cell (p := ⟨q, k, Option.none⟩) (own.lt q rfl).2).trans ?_
            rw [own.cellAt k (by omega)]
            exact hsk
          have HIW : Hid (IntBlk wr gw ((lev kind n).getD k [])) := hiw.below HB0.out
          have HIW0 : Hid (IntBlk w0 gw ((lev kind n).getD k [])) := hiw
          have HNX : Hid (nextTo kind (lev kind n) (k + 1) = nextTo kind (lev kind n) k ++ (if (l1WordR kind ((lev kind n).getD k [])).2 then ext ((lev kind n).getD k []) 2 else [])) := nextTo_succ hkl
          have HFA : Hid (isWd kind (t, f) ((lev kind n).getD k []) = true → R = some ((lev kind n).getD k [])) := fun h => by
            rw [← HRR.out]
            exact find_at (by omega) HF.out HFK.out hkl h
          have HFN : Hid (isWd kind (t, f) ((lev kind n).getD k []) = false → ((lev kind n).take (k + 1)).find? (isWd kind (t, f)) = Option.none) := fun h => take_find hkl HFK.out h
          have hnx16 : (nextTo kind (lev kind n) k).length ≤ 40 := by
            have h1 : ∀ l : List (List Int), (l.flatMap fun z => if (l1WordR kind z).2 then ext z 2 else []).length ≤ 2 * l.length := by
              intro l
              induction l with
              | nil => simp
              | cons z l ih =>
                simp only [List.flatMap_cons, List.length_append, List.length_cons]
                split
                · have e : (ext z 2).length = 2 := by simp [ext]
                  omega
                · simp only [List.length_nil]; omega
            have h2 := h1 ((lev kind n).take k)
            have h3 := List.length_take_le k (lev kind n)
            unfold nextTo
            omega
          clear hrow hsk hiw own hnn
          generalize (lev kind n).getD k [] = z at hzn hck HIW HIW0 HNX HFA HFN
          generalize nextTo kind (lev kind n) k = nx at HNX hnx16 HQ2
          have CW := l1Word_s kind gw cw z wr HIW.out.row (by omega)
          have hz4 : z.length ≤ 4 := by omega
          clear hzn
          obtain ⟨R1, hR1⟩ : ∃ R1, R1 = l1WordR kind z := ⟨_, rfl⟩
          rw [← hR1] at CW HNX
          have HR1 : Hid (R1 = l1WordR kind z) := hR1
          clear hR1
          obtain ⟨⟨t1, f1⟩, ok⟩ := R1
          go_wp2_with fail
          refine CW.mono ?_
          rintro e w3 ⟨rfl, hb3⟩
          have c0 : w3.cell? ⟨w.heap.size, 0, Option.none⟩ = some (.int .i64 t) := (HK1.out.below hb3).cell 0
          have c1 : w3.cell? ⟨w.heap.size, 1, Option.none⟩ = some (.bool f) := (HK1.out.below hb3).cell 1
          have hl3 := (HK1.out.below hb3).lt
          have HB3 : Hid (Below w0.heap.size w0 w3) := HB0.out.trans (hb3.mono hs0)
          have HQ3 : Hid (Queue w3 w0.heap.size u8 nx) := HQ2.out.below hb3
          have hs3 := HB3.out.size
          clear hb3 CW
          by_cases hm : ok = true ∧ t1 = t ∧ f1 = f
          · obtain ⟨rfl, rfl, rfl⟩ := hm
            have HRE : Hid (R = some z) := HFA.out (by
              unfold isWd
              rw [← HR1.out]
              simp)
            have e := HRE.out
            clear HFA HRR HNX HFN HFK HF
            subst e
            have HI3 : Hid (IntBlk w3 gw z) := HIW0.out.below HB3.out
            have HBE : Hid (Below w.heap.size w w3) := HB.out.trans (HB3.out.mono hbs)
            go_wp2
            go_ret2
            exact ⟨gw, cw, rfl, HI3.out.alloc, by omega, by simp; omega, HBE.out.alloc (by omega) _⟩
          · have HNM : Hid (((lev kind n).take (k + 1)).find? (isWd kind (t, f)) = Option.none) := HFN.out (by
              unfold isWd
              rw [← HR1.out]
              simp only [decide_eq_false_iff_not]
              intro e
              simp only [Prod.mk.injEq] at e
              exact hm ⟨e.2, e.1.1, e.1.2⟩)
            have HNE : Hid (ok = false ∨ (ok = true ∧ ((t1 == t) = false ∨ ((t1 == t) = true ∧ (f1 == f) = false)))) := by
              show ok = false ∨ _
              cases ok with
              | false => exact .inl rfl
              | true =>
                right
                refine ⟨rfl, ?_⟩
                by_cases e : t1 = t
                · right
                  refine ⟨by simpa using e, ?_⟩
                  simp only [beq_eq_false_iff_ne]
                  intro e2
                  exact hm ⟨rfl, e, e2⟩
                · left
                  simpa using e
            clear hm HFA HFN HRR
            rcases HNE.out with rfl | ⟨rfl, hne⟩
            · go_wp2_with fail
              go_rounds 1
              go_roundw
              case rel => first | exact ⟨k + 1, by omega, by go_num, by rw [HNX.out]; simpa using HQ3.out.below ((Below.refl _ _).alloc (Nat.le_refl _) _), HNM.out, HB3.out.alloc (by omega) _⟩ | ((repeat apply Exists.intro); exact ⟨⟨k + 1, by omega, by go_num, by rw [HNX.out]; simpa using HQ3.out.below ((Below.refl _ _).alloc (Nat.le_refl _) _), HNM.out, HB3.out.alloc (by omega) _⟩, rfl⟩)
              case measure => simp [intOf]; omega
            · have HNX2 : Hid (nextTo kind (lev kind n) (k + 1) = nx ++ ext z 2) := by
                show _ = _
                rw [HNX.out]
                rfl
              clear HNX
              rcases hne with hne | ⟨hte, hne⟩
              all_goals
                go_wp2_with fail
                go_loopw [8, 13] (fun s i wq => ∃ j : Nat, j ≤ 2 ∧ i = .int .i64 j ∧ Queue wq w0.heap.size s (nx ++ ext z j) ∧ Below w0.heap.size w0 wq) (fun _ i _ => 2 - (intOf i).toNat)
                case atStart =>
                  refine ⟨0, by omega, rfl, ?_, HB3.out.alloc (by omega) _⟩
                  have e : nx ++ ext z 0 = nx := by simp [ext]
                  rw [e]
                  exact HQ3.out.below ((Below.refl _ _).alloc (Nat.le_refl _) _)
                case round =>
                  obtain ⟨j, hj, rfl, hqu, hbq⟩ := hrel
                  have HQU : Hid (Queue wr w0.heap.size u8 (nx ++ ext z j)) := hqu
                  have HBQ : Hid (Below w0.heap.size w0 wr) := hbq
                  have hsq := hbq.size
                  clear hqu hbq
                  by_cases hjm : j < 2
                  · have HIQ : Hid (IntBlk wr gw z) := HIW0.out.below HBQ.out
                    go_wp2_with fail
                    refine (l1Ints_s gw _ cw z _ rfl (by omega) HIQ.out.row).mono ?_
                    rintro e w5 ⟨g5, c5, rfl, own5, hb5⟩
                    have hg5 := own5.lt g5 rfl
                    have s5 := hb5.size
                    have HO5 : Hid (w5.ownsRow wr.heap.size 3 1 (.slice (some ⟨g5, 0, Option.none⟩) z.length c5) z.length (z.map (Value.int .i64))) := own5
                    have HBB5 : Hid (Below wr.heap.size wr w5) := hb5
                    have HUB : Hid (∀ x, u8.ownBlock = some x → x < wr.heap.size) := fun x hx => by
                      obtain ⟨hs, o, _⟩ := HQU.out
                      exact (o.lt x hx).2
                    clear own5 hb5
                    go_wp2_with (at_builtin; go_loud (refine wpList_append_own_at _ rfl _ _ 34 rfl wr.heap.size 3 i0 (.int .i64 0) 1 8 Try.underlying34 hi hz0 hz1 hz2 rfl (by decide) _ z.length (z.map (Value.int .i64)) rfl ?_ ⟨w5.heap.size, 0, Option.none⟩ 1 1 [.int .i64 j] rfl rfl ?_ ?_ ?_ ?_ ?_ ?_))
                    · exact HO5.out.alloc _
                    · intro i y hy
                      rcases i with _ | i <;> simp at hy
                      subst hy
                      simp [Addr.add]
                    · intro y hy
                      simp at hy
                      subst hy
                      rfl
                    · unfold maxLen; omega
                    · omega
                    · first | omega | (simp only [World.size_alloc, World.size_setCell, World.size_drew]; omega)
                    intro v6 w6 own6 hg6 hn6 hat6
                    have hb6 : Below wr.heap.size wr w6 := Below.grown (HBB5.out.alloc (by omega) _) hg6 (by simp; omega) (fun x hx => by cases hx; exact hg5.1)
                    have HQ6 : Hid (Queue w6 w0.heap.size u8 (nx ++ ext z j)) := HQU.out.below hb6
                    have HB6 : Hid (Below w0.heap.size w0 w6) := HBQ.out.trans (hb6.mono hsq)
                    have s6 := hb6.size
                    obtain ⟨gz, cz, rfl⟩ : ∃ gz cz, v6 = .slice (some ⟨gz, 0, Option.none⟩) (z.length + 1) cz := by
                      rcases ownsRow_forms own6 with ⟨e, _⟩ | ⟨g, c, e⟩
                      · exact absurd e hn6
                      · exact ⟨g, c, e⟩
                    have hgz := own6.lt gz rfl
                    have HW6 : Hid (IntBlk w6 gz (z ++ [((j : Nat) : Int)])) := IntBlk.own (z := z ++ [((j : Nat) : Int)]) (by simpa using own6) (by simp)
                    clear own6 hg6 hn6 hat6 hb6
                    obtain ⟨hs2, o2, nn2, r2⟩ := HQ6.out.below ((Below.refl w6.heap.size w6).alloc (Nat.le_refl _) (.cells #[.slice (some ⟨gz, 0, Option.none⟩) (z.length + 1) cz] 34))
                    have HO2 : Hid ((w6.alloc (.cells #[.slice (some ⟨gz, 0, Option.none⟩) (z.length + 1) cz] 34)).ownsRow w0.heap.size 34 1 u8 (nx ++ ext z j).length hs2) := o2
                    have HR2 := show Hid _ from r2
                    have hL : (nx ++ ext z j).length ≤ 70 := by
                      simp [ext]
                      omega
                    clear o2 nn2 r2
                    generalize hW : nx ++ ext z j = ws at HO2 HR2 hL
                    have HWS : Hid (nx ++ ext z j = ws) := hW
                    clear hW
                    go_wp2_with (at_builtin; go_loud (refine wpList_append_own_at _ rfl _ _ 82 rfl w0.heap.size 34 i1 (.slice Option.none 0 0) 1 24 Try.underlying82 hi1 hy0 hy1 hy2 rfl (by decide) _ ws.length hs2 rfl ?_ ⟨w6.heap.size, 0, Option.none⟩ 1 1 [.slice (some ⟨gz, 0, Option.none⟩) (z.length + 1) cz] rfl rfl ?_ ?_ ?_ ?_ ?_ ?_))
                    · exact HO2.out
                    · intro i y hy
                      rcases i with _ | i <;> simp at hy
                      subst hy
                      simp [Addr.add]
                    · intro y hy
                      simp at hy
                      subst hy
                      rfl
                    · unfold maxLen; omega
                    · omega
                    · first | omega | (simp only [World.size_alloc, World.size_setCell, World.size_drew]; omega)
                    intro v8 w8 own8 hg8 hn8 hat8
                    have HQ8 : Hid (Queue w8 w0.heap.size v8 (nx ++ ext z (j + 1))) := by
                      have e : nx ++ ext z (j + 1) = ws ++ [z ++ [((j : Nat) : Int)]] := by rw [ext_succ, ← List.append_assoc, HWS.out]
                      show Queue _ _ _ _
                      rw [e]
                      refine Queue.push HR2.out (by have := HO2.out.1; omega) HW6.out.alloc ?_ (by simp; omega) (by omega) (by simpa using own8) hg8 hn8 (by rw [World.size_alloc]; exact hat8)
                      intro e2
                      have := HUB.out gz e2
                      omega
                    have HB8 : Hid (Below w0.heap.size w0 w8) := Below.grown (HB6.out.alloc (by omega) _) hg8 (by simp; omega) (fun x hx => (HO2.out.lt x hx).1)
                    clear own8 hg8 hn8 hat8
                    go_wp2
                    go_roundw
                    case rel => exact ⟨j + 1, by omega, by go_num, HQ8.out, HB8.out⟩
                    case measure => simp [intOf]; omega
                  · have hjn : j = 2 := by omega
                    subst hjn
                    go_wp2
                    go_roundw
                    case rel => first | exact ⟨k + 1, by omega, by go_num, by rw [HNX2.out]; exact HQU.out, HNM.out, HBQ.out⟩ | ((repeat apply Exists.intro); exact ⟨⟨k + 1, by omega, by go_num, by rw [HNX2.out]; exact HQU.out, HNM.out, HBQ.out⟩, rfl⟩)
                    case measure => simp [intOf]; omega
        · have hkn : k = (lev kind n).length := by omega
          have HQN : Hid (Queue wr (w.heap.size + 1) u8 (lev kind (n + 1))) := by
            have := HQ2.out
            rw [hkn] at this
            unfold nextTo at this
            rw [List.take_length] at this
            exact this.mono (by omega)
          have HFN : Hid ((wds kind (n + 1)).find? (isWd kind (t, f)) = Option.none) := by
            show List.find? _ _ = _
            have := HFK.out
            rw [hkn, List.take_length] at this
            rw [wds_succ, List.find?_append, HF.out, this]
            rfl
          go_wp2
          go_roundw
          case rel => exact ⟨n + 1, by omega, by go_num, HQN.out, HFN.out, HK1.out, HB.out.trans (HB0.out.mono hbs)⟩
          case measure => simp [intOf]; omega
    · have hn5 : n = 5 := by omega
      have HNO : Hid (R = Option.none) := by
        show R = Option.none
        rw [← HRR.out]
        unfold wdsFind
        rw [← hn5]
        exact HF.out
      have e := HNO.out
      subst e
      have hB := HB.out
      go_wp2
      go_ret2
      exact ⟨wr.heap.size, 0, rfl, ⟨#[], Blk.new _ _ _, by simp, fun k hk => by simp at hk⟩, hbs, by simp, hB.alloc hbs _⟩
end Go.Proofs.Ytbeefbmgbmgbfaa
