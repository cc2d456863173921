/-
  The shortest word of a symmetry as the program finds it.
-/
import Derived.Test.YtbeefbmgbmgbfaaQtwo
import Derived.Test.YtbeefbmgbmgbfaaWtwo
namespace Go.Proofs.Ytbeefbmgbmgbfaa
open Go.ChangeShapes Go.WideShapes Go.ChangeAt Go.RowKit Go.Joins 
set_option linter.unusedSimpArgs false
set_option linter.unusedVariables false
/-- What WordOfSym gives where there is a word: a slice of the call's own. -/
def WordGiven (w : World) (z : List Int) (e : Ending) (w' : World) : Prop :=
  ∃ g c, e = .returned (.tuple #[.slice (some ⟨g, 0, Option.none⟩) z.length c, .bool true]) ∧ IntBlk w' g z ∧ w.heap.size ≤ g ∧ g < w'.heap.size ∧ Below w.heap.size w w'

set_option maxHeartbeats 16000000 in
set_option maxRecDepth 1000000 in
theorem wordOfSym_yes (kind t : Int) (f : Bool) (N : Nat) (w : World) (hof : ofB kind t f = true) (hN : N ≤ 30) (hyes : wordR kind (wd (mirL kind).length N) = ((t, f), true))
    (hno : ∀ k, k < N → wordR kind (wd (mirL kind).length k) ≠ ((t, f), true)) (hin : ∀ k, k ≤ N → k < 1 + (mirL kind).length * k ∧ (wd (mirL kind).length k).length ≤ 5) :
    Calls Try.prog 29 #[.int .i64 kind, .agg #[.int .i64 t, .bool f]] w (WordGiven w (wd (mirL kind).length N)) := by
  obtain ⟨i0, hi, hz0, hz1, hz2⟩ := info_parts infoInt
  obtain ⟨i1, hi1, hy0, hy1, hy2⟩ := info_parts infoInts
  have hm2 := mirL_len kind
  have CM : ∀ W, Calls Try.prog 57 #[.int .i64 kind] W fun e w' => ∃ g, e = .returned (.slice (some ⟨g, 0, Option.none⟩) (mirL kind).length (mirL kind).length) ∧ SymRow w' g (mirL kind) ∧ W.heap.size ≤ g ∧ g < w'.heap.size ∧ Below W.heap.size W w' := fun W => mirrorsOf_i kind W
  generalize hml : (mirL kind).length = m at *
  have HNO : Hid (∀ k, k < N → wordR kind (wd m k) ≠ ((t, f), true)) := hno
  have HIN : Hid (∀ k, k ≤ N → k < 1 + m * k ∧ (wd m k).length ≤ 5) := hin
  have HYES : Hid (wordR kind (wd m N) = ((t, f), true)) := hyes
  clear hno hin hyes hml
  go_enter Try.func29, Try.ntmps29
  go_wp2_with fail
  refine (isSymOf_i _ _ _ _).mono ?_
  rintro e w1 ⟨rfl, hb1⟩
  have HB1 : Hid (Blk w1 w.heap.size #[.int .i64 t, .bool f] 25) := (Blk.new _ _ _).below hb1
  have b1 : Below w.heap.size w w1 := by (repeat' (first | (with_reducible exact Below.refl _ _) | (with_reducible assumption) | (with_reducible refine Below.alloc ?_ ?_ _) | (with_reducible refine Below.drew ?_) | (with_reducible refine Below.setCell ?_ ?_ _) | (with_reducible refine Below.trans ?_ (Below.mono (by assumption) ?_)) | (with_reducible exact Nat.le_refl _) | omega | (simp only [World.size_alloc, World.size_setCell, World.size_drew]; omega) | (simp; omega) | (simp; done)))
  have s1 := b1.size
  clear hb1
  go_wp2_with fail
  refine (CM _).mono ?_
  rintro e w2 ⟨gm, rfl, _, _, _, hb2⟩
  have HB2 : Hid (Blk w2 w.heap.size #[.int .i64 t, .bool f] 25) := HB1.out.below hb2
  have b2 : Below w.heap.size w w2 := b1.trans (hb2.mono s1)
  have s2 := b2.size
  clear hb2 b1 HB1 CM
  have hl2 := HB2.out.lt
  go_wp2_with fail
  go_loopw [7, 8] (fun s i wr => ∃ k : Nat, k ≤ N ∧ i = .int .i64 k ∧ Queue wr (w.heap.size + 1) s (bfs m k) ∧ Blk wr w.heap.size #[.int .i64 t, .bool f] 25 ∧ Below w.heap.size w wr) (fun _ i _ => N + 1 - (intOf i).toNat)
  case atStart =>
    refine ⟨0, by omega, rfl, ?_, HB2.out.alloc.alloc, (b2.alloc (by omega) _).alloc (by simp; omega) _⟩
    have e : bfs m 0 = [[]] := by simp [bfs, wd, wdF]
    rw [e]
    refine ⟨[.slice (some ⟨w2.heap.size, 0, Option.none⟩) 0 0], ?_, by simp, fun i hi => ?_⟩
    · have := World.ownsRow_lit (base := w.heap.size + 1) (e := 34) (size := 1) (w2.alloc (.cells #[] 3)) #[.slice (some ⟨w2.heap.size, 0, Option.none⟩) 0 0] 1 (by simp; omega) (by unfold maxLen; omega) rfl
      simpa using this
    · obtain rfl : i = 0 := by simp at hi; exact hi
      exact ⟨w2.heap.size, 0, rfl, ⟨#[], (Blk.new w2 #[] 3).alloc, by simp, fun k hk => by simp at hk⟩, by simp [Value.ownBlock], by simp; omega, by omega⟩
  case round =>
    obtain ⟨k, hk, rfl, hq, hblk, hbel⟩ := hrel
    have hbs := hbel.size
    obtain ⟨hkn, hz5⟩ := HIN.out k hk
    obtain ⟨hs, own, hnn, hrow⟩ := hq
    rw [bfs_len] at own
    have HROW : Hid (∀ i, i < (bfs m k).length → ∃ g c, hs[i]? = some (.slice (some ⟨g, 0, Option.none⟩) ((bfs m k).getD i []).length c) ∧ IntBlk wr g ((bfs m k).getD i []) ∧ u7.ownBlock ≠ some g ∧ g < wr.heap.size ∧ w.heap.size + 1 ≤ g) := hrow
    have hget := bfs_get m k k hkn
    obtain ⟨gw, cw, hsk, hiw, hgne, hgl, hgB⟩ := hrow k (by rw [bfs_len]; exact hkn)
    rw [hget] at hsk hiw
    have hn61 : 1 + m * k ≤ 61 := by
      have := Nat.mul_le_mul hm2 (show k ≤ 30 by omega)
      omega
    have HST : Hid (k < N → bfs m (k + 1) = bfs m k ++ ext (wd m k) m) := fun _ => bfs_step m k hm2 (by omega)
    have HCASE : Hid ((k = N ∧ wordR kind (wd m k) = ((t, f), true)) ∨ (k < N ∧ wordR kind (wd m k) ≠ ((t, f), true))) := by
      show (k = N ∧ _) ∨ (k < N ∧ _)
      by_cases e : k = N
      · exact .inl ⟨e, by rw [e]; exact HYES.out⟩
      · exact .inr ⟨by omega, HNO.out k (by omega)⟩
    have HZ : Hid (k = N → wd m N = wd m k) := fun e => by rw [e]
    obtain ⟨q, cq, rfl⟩ : ∃ q cq, u7 = .slice (some ⟨q, 0, Option.none⟩) (1 + m * k) cq := by
      rcases ownsRow_forms own with ⟨e, _⟩ | ⟨g, c, e⟩
      · exact absurd e hnn
      · exact ⟨g, c, e⟩
    have hck : wr.cell? ⟨q, k, Option.none⟩ = some (.slice (some ⟨gw, 0, Option.none⟩) (wd m k).length cw) := by
      rw [own.cellAt k (by omega)]
      exact hsk
    have hql := (own.lt q rfl)
    have HOWN : Hid (wr.ownsRow (w.heap.size + 1) 34 1 (.slice (some ⟨q, 0, Option.none⟩) (1 + m * k) cq) (1 + m * k) hs) := own
    have HLEN : Hid ((bfs m k).length = 1 + m * k) := bfs_len m k
    clear hrow hsk hget own hnn
    generalize hnk : 1 + m * k = n at *
    generalize wd m k = z at *
    have HIW : Hid (IntBlk wr gw z) := hiw
    have HBK : Hid (Blk wr w.heap.size #[.int .i64 t, .bool f] 25) := hblk
    have HBEL : Hid (Below w.heap.size w wr) := hbel
    clear hiw hblk hbel hnk
    go_wp2_with fail
    have CW := symOfWord_i kind gw cw z wr HIW.out.row (by omega)
    rcases HCASE.out with ⟨hkN, hR⟩ | ⟨hkN, hR⟩
    · rw [hR] at CW
      clear hR
      refine CW.mono ?_
      rintro e w3 ⟨rfl, hb3⟩
      have c0 : w3.cell? ⟨w.heap.size, 0, Option.none⟩ = some (.int .i64 t) := (HBK.out.below hb3).cell 0
      have c1 : w3.cell? ⟨w.heap.size, 1, Option.none⟩ = some (.bool f) := (HBK.out.below hb3).cell 1
      have hl3 := (HBK.out.below hb3).lt
      have HI3 : Hid (IntBlk w3 gw z) := HIW.out.below hb3
      have HB3 : Hid (Below w.heap.size w w3) := HBEL.out.trans (hb3.mono hbs)
      have hs3 := hb3.size
      clear hb3 CW
      go_wp2
      go_ret2
      have e := HZ.out hkN
      rw [e]
      exact ⟨gw, cw, rfl, HI3.out.alloc, by omega, by simp; omega, HB3.out.alloc (by omega) _⟩
    · generalize wordR kind z = R at hR CW
      obtain ⟨⟨t1, f1⟩, ok⟩ := R
      refine CW.mono ?_
      rintro e w3 ⟨rfl, hb3⟩
      have c0 : w3.cell? ⟨w.heap.size, 0, Option.none⟩ = some (.int .i64 t) := (HBK.out.below hb3).cell 0
      have c1 : w3.cell? ⟨w.heap.size, 1, Option.none⟩ = some (.bool f) := (HBK.out.below hb3).cell 1
      have hl3 := (HBK.out.below hb3).lt
      have HI3 : Hid (IntBlk w3 gw z) := HIW.out.below hb3
      have HB3 : Hid (Below w.heap.size w w3) := HBEL.out.trans (hb3.mono hbs)
      have HBK3 : Hid (Blk w3 w.heap.size #[.int .i64 t, .bool f] 25) := HBK.out.below hb3
      have HQ3 : Hid (Queue w3 (w.heap.size + 1) (.slice (some ⟨q, 0, Option.none⟩) n cq) (bfs m k)) := by
        refine Queue.below ⟨hs, ?_, by simp, HROW.out⟩ hb3
        have := HOWN.out
        rw [HLEN.out]
        exact this
      have hs3 := hb3.size
      clear hb3 CW
      have HNE : Hid (ok = false ∨ (ok = true ∧ ((t1 == t) = false ∨ ((t1 == t) = true ∧ (f1 == f) = false)))) := by
        show ok = false ∨ _
        cases ok with
        | false => exact .inl rfl
        | true =>
          right
          refine ⟨rfl, ?_⟩
          by_cases e : t1 = t
          · right
            refine ⟨by simpa using e, ?_⟩
            simp only [beq_eq_false_iff_ne]
            intro e2
            exact hR (by rw [e, e2])
          · left
            simpa using e
      clear hR
      rcases HNE.out with rfl | ⟨rfl, hne | ⟨hte, hne⟩⟩
      all_goals
        go_wp2_with fail
        go_loopw [7, 47] (fun s i wq => ∃ j : Nat, j ≤ m ∧ i = .int .i64 j ∧ Queue wq (w.heap.size + 1) s (bfs m k ++ ext z j) ∧ IntBlk wq gw z ∧ gw < wq.heap.size ∧ s.ownBlock ≠ some gw ∧ Blk wq w.heap.size #[.int .i64 t, .bool f] 25 ∧ Below w.heap.size w wq) (fun _ i _ => m - (intOf i).toNat)
        case atStart =>
          refine ⟨0, by omega, rfl, ?_, HI3.out.alloc, by simp; omega, hgne, HBK3.out.alloc, HB3.out.alloc (by omega) _⟩
          have e : bfs m k ++ ext z 0 = bfs m k := by simp [ext]
          rw [e]
          exact HQ3.out.below ((Below.refl _ _).alloc (Nat.le_refl _) _)
        case round =>
          obtain ⟨j, hj, rfl, hqu, hiw, hgw, hgne2, hblk, hbel⟩ := hrel
          have HNE2 : Hid (u7.ownBlock ≠ some gw) := hgne2
          clear hgne2
          have HIWq : Hid (IntBlk wr gw z) := hiw
          have HBKq : Hid (Blk wr w.heap.size #[.int .i64 t, .bool f] 25) := hblk
          have HBq : Hid (Below w.heap.size w wr) := hbel
          have hbsq := hbel.size
          have HQU : Hid (Queue wr (w.heap.size + 1) u7 (bfs m k ++ ext z j)) := hqu
          clear hiw hblk hbel hqu
          by_cases hjm : j < m
          · go_wp2_with fail
            refine (clone_i gw _ cw z _ rfl (by omega) HIWq.out.row).mono ?_
            rintro e w5 ⟨g5, c5, rfl, own5, hb5⟩
            have hg5 := own5.lt g5 rfl
            have HQ5 : Hid (Queue w5 (w.heap.size + 1) u7 (bfs m k ++ ext z j)) := HQU.out.below hb5
            have HI5 : Hid (IntBlk w5 gw z) := HIWq.out.below hb5
            have HK5 : Hid (Blk w5 w.heap.size #[.int .i64 t, .bool f] 25) := HBKq.out.below hb5
            have HB5 : Hid (Below w.heap.size w w5) := HBq.out.trans (hb5.mono hbsq)
            have s5 := hb5.size
            have HO5 : Hid (w5.ownsRow wr.heap.size 3 1 (.slice (some ⟨g5, 0, Option.none⟩) z.length c5) z.length (z.map (Value.int .i64))) := own5
            have HUB : Hid (∀ x, u7.ownBlock = some x → x < wr.heap.size) := fun x hx => by
              obtain ⟨hs, o, _⟩ := HQU.out
              exact (o.lt x hx).2
            have HBB5 : Hid (Below wr.heap.size wr w5) := hb5
            clear own5 hb5
            go_wp2_with (at_builtin; go_loud (refine wpList_append_own_at _ rfl _ _ 34 rfl wr.heap.size 3 i0 (.int .i64 0) 1 8 Try.underlying34 hi hz0 hz1 hz2 rfl (by decide) _ z.length (z.map (Value.int .i64)) rfl ?_ ⟨w5.heap.size, 0, Option.none⟩ 1 1 [.int .i64 j] rfl rfl ?_ ?_ ?_ ?_ ?_ ?_))
            · exact HO5.out.alloc _
            · intro i y hy
              rcases i with _ | i <;> simp at hy
              subst hy
              simp [Addr.add]
            · intro y hy
              simp at hy
              subst hy
              rfl
            · unfold maxLen; omega
            · omega
            · first | omega | (simp only [World.size_alloc, World.size_setCell, World.size_drew]; omega)
            intro v6 w6 own6 hg6 hn6 hat6
            have hb6 : Below wr.heap.size wr w6 := Below.grown (HBB5.out.alloc (by omega) _) hg6 (by simp; omega) (fun x hx => by cases hx; exact hg5.1)
            have HQ6 : Hid (Queue w6 (w.heap.size + 1) u7 (bfs m k ++ ext z j)) := HQU.out.below hb6
            have HI6 : Hid (IntBlk w6 gw z) := HIWq.out.below hb6
            have HK6 : Hid (Blk w6 w.heap.size #[.int .i64 t, .bool f] 25) := HBKq.out.below hb6
            have HB6 : Hid (Below w.heap.size w w6) := HBq.out.trans (hb6.mono hbsq)
            have s6 := hb6.size
            obtain ⟨gz, cz, rfl⟩ : ∃ gz cz, v6 = .slice (some ⟨gz, 0, Option.none⟩) (z.length + 1) cz := by
              rcases ownsRow_forms own6 with ⟨e, _⟩ | ⟨g, c, e⟩
              · exact absurd e hn6
              · exact ⟨g, c, e⟩
            have hgz := own6.lt gz rfl
            have HW6 : Hid (IntBlk w6 gz (z ++ [((j : Nat) : Int)])) := IntBlk.own (z := z ++ [((j : Nat) : Int)]) (by simpa using own6) (by simp)
            clear own6 hg6 hn6 hat6 hb6
            obtain ⟨hs2, o2, nn2, r2⟩ := HQ6.out.below ((Below.refl w6.heap.size w6).alloc (Nat.le_refl _) (.cells #[.slice (some ⟨gz, 0, Option.none⟩) (z.length + 1) cz] 34))
            have HO2 : Hid ((w6.alloc (.cells #[.slice (some ⟨gz, 0, Option.none⟩) (z.length + 1) cz] 34)).ownsRow (w.heap.size + 1) 34 1 u7 (bfs m k ++ ext z j).length hs2) := o2
            have HR2 := show Hid _ from r2
            have hL : (bfs m k ++ ext z j).length ≤ 70 := by
              have := HLEN.out
              simp [ext]
              omega
            clear o2 nn2 r2
            generalize hW : bfs m k ++ ext z j = ws at HO2 HR2 hL
            have HWS : Hid (bfs m k ++ ext z j = ws) := hW
            clear hW
            go_wp2_with (at_builtin; go_loud (refine wpList_append_own_at _ rfl _ _ 82 rfl (w.heap.size + 1) 34 i1 (.slice Option.none 0 0) 1 24 Try.underlying82 hi1 hy0 hy1 hy2 rfl (by decide) _ ws.length hs2 rfl ?_ ⟨w6.heap.size, 0, Option.none⟩ 1 1 [.slice (some ⟨gz, 0, Option.none⟩) (z.length + 1) cz] rfl rfl ?_ ?_ ?_ ?_ ?_ ?_))
            · exact HO2.out
            · intro i y hy
              rcases i with _ | i <;> simp at hy
              subst hy
              simp [Addr.add]
            · intro y hy
              simp at hy
              subst hy
              rfl
            · unfold maxLen; omega
            · omega
            · first | omega | (simp only [World.size_alloc, World.size_setCell, World.size_drew]; omega)
            intro v8 w8 own8 hg8 hn8 hat8
            have HQ8 : Hid (Queue w8 (w.heap.size + 1) v8 (bfs m k ++ ext z (j + 1))) := by
              have e : bfs m k ++ ext z (j + 1) = ws ++ [z ++ [((j : Nat) : Int)]] := by rw [ext_succ, ← List.append_assoc, HWS.out]
              show Queue _ _ _ _
              rw [e]
              refine Queue.push HR2.out (by have := HO2.out.1; omega) HW6.out.alloc ?_ (by simp; omega) (by omega) (by simpa using own8) hg8 hn8 (by rw [World.size_alloc]; exact hat8)
              intro e2
              have := HUB.out gz e2
              omega
            have hgr : Below w.heap.size (w6.alloc (.cells #[.slice (some ⟨gz, 0, Option.none⟩) (z.length + 1) cz] 34)) w8 := Below.grown (Below.refl _ _) hg8 (by simp; omega) (fun x hx => by have := (HO2.out.lt x hx).1; omega)
            have HB8 : Hid (Below w.heap.size w w8) := (HB6.out.alloc (by omega) _).trans hgr
            have HI8 : Hid (IntBlk w8 gw z) := IntBlk.other (W := w6.alloc (.cells #[.slice (some ⟨gz, 0, Option.none⟩) (z.length + 1) cz] 34)) HI6.out.alloc hg8 HNE2.out
            have HK8 : Hid (Blk w8 w.heap.size #[.int .i64 t, .bool f] 25) := (hg8.block w.heap.size (by simp; omega) (fun e => by have := (HO2.out.lt w.heap.size e.symm).1; omega)).trans HK6.out.alloc
            have HNE8 : Hid (v8.ownBlock ≠ some gw) := by
              show v8.ownBlock ≠ some gw
              rcases hat8 with e | e
              · rw [e]; exact HNE2.out
              · rw [e]; intro e2; have := Option.some.inj e2; omega
            have s8 := hg8.size
            simp only [World.size_alloc] at s8
            clear own8 hg8 hn8 hat8 hgr
            go_wp2
            go_roundw
            case rel => exact ⟨j + 1, by omega, by go_num, HQ8.out, HI8.out, by omega, HNE8.out, HK8.out, HB8.out⟩
            case measure => simp [intOf]; omega
          · have hjn : j = m := by omega
            subst hjn
            go_wp2
            go_roundw
            case rel => exact ⟨k + 1, by omega, by go_num, by rw [HST.out hkN]; exact HQU.out, HBKq.out, HBq.out⟩
            case measure => simp [intOf]; omega
end Go.Proofs.Ytbeefbmgbmgbfaa
