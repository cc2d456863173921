/-
  Is it a shard? The side of a point.
-/
import Derived.Test.YtkcfekhpppihhaaGb
namespace Go.Proofs.Ytkcfekhpppihhaa
open Go.ChangeShapes Go.WideShapes Go.ChangeAt Go.RowKit Go.Joins
set_option linter.unusedSimpArgs false
set_option linter.unusedVariables false
set_option maxRecDepth 100000
attribute [local go_sem] store_f
open Ieee

structure ColIs (r g b : Nat) (p : Bool) : Prop where
  call : ∀ w : World, Calls Try.prog 20 #[.agg #[.float .f32 r, .float .f32 g, .float .f32 b]] w fun e w' => e = .returned (.bool p) ∧ Below w.heap.size w w'
theorem colIs (r g b : Nat) : ColIs r g b (colB r g b) := ⟨fun w => isColour_i r g b w⟩
structure ShareIs (k : Nat) (p : Bool) : Prop where
  call : ∀ w : World, Calls Try.prog 39 #[.float .f32 k] w fun e w' => e = .returned (.bool p) ∧ w' = w
theorem shareIs (k : Nat) : ShareIs k (shareB k) := ⟨fun w => isShare_i k w⟩
structure Corn (s : Shd) : Prop where
  call : ∀ w : World, Calls Try.prog 38 #[.agg #[.complex .f32 s.a1 s.a2, .complex .f32 s.b1 s.b2, .complex .f32 s.c1 s.c2, .float .f32 s.r, .float .f32 s.g, .float .f32 s.b, .float .f32 s.k]] w fun e w' => e = .returned (.slice (some ⟨w.heap.size + 1, 0, Option.none⟩) 3 3) ∧ Blk w' (w.heap.size + 1) #[.complex .f32 s.a1 s.a2, .complex .f32 s.b1 s.b2, .complex .f32 s.c1 s.c2] 25 ∧ Below w.heap.size w w'

set_option maxHeartbeats 4000000 in
theorem isShard_of (s : Shd) (p q r c k : Bool) (C : Corn s) (P : PtIs s.a1 s.a2 p) (Q : PtIs s.b1 s.b2 q) (R : PtIs s.c1 s.c2 r) (CC : ColIs s.r s.g s.b c) (K : ShareIs s.k k) (w : World) :
    Calls Try.prog 13 #[.agg #[.complex .f32 s.a1 s.a2, .complex .f32 s.b1 s.b2, .complex .f32 s.c1 s.c2, .float .f32 s.r, .float .f32 s.g, .float .f32 s.b, .float .f32 s.k]] w fun e w' => e = .returned (.bool (p && q && r && c && k)) ∧ Below w.heap.size w w' := by
  go_enter Try.func13, Try.ntmps13
  go_wp2_with fail
  refine (C.call _).mono ?_
  rintro e w1 ⟨rfl, hB, hb1⟩
  have hbel : Below w.heap.size w w1 := by (repeat' (first | (with_reducible exact Below.refl _ _) | (with_reducible assumption) | (with_reducible refine Below.alloc ?_ ?_ _) | (with_reducible refine Below.drew ?_) | (with_reducible refine Below.setCell ?_ ?_ _) | (with_reducible refine Below.trans ?_ (Below.mono (by assumption) ?_)) | (with_reducible exact Nat.le_refl _) | omega | (simp only [World.size_alloc, World.size_setCell, World.size_drew]; omega) | (simp; omega) | (simp; done)))
  have hs : Blk w1 w.heap.size #[.complex .f32 s.a1 s.a2, .complex .f32 s.b1 s.b2, .complex .f32 s.c1 s.c2, .float .f32 s.r, .float .f32 s.g, .float .f32 s.b, .float .f32 s.k] 37 := Blk.belowAt hb1 (Blk.newAt rfl)
  simp only [World.size_alloc] at hB
  have hl := hs.lt
  have c0 := Blk.cellAt (i := 0) hB rfl
  have c1 := Blk.cellAt (i := 1) hB rfl
  have c2 := Blk.cellAt (i := 2) hB rfl
  have d3 := Blk.cellAt (i := 3) hs rfl
  have d4 := Blk.cellAt (i := 4) hs rfl
  have d5 := Blk.cellAt (i := 5) hs rfl
  have d6 := Blk.cellAt (i := 6) hs rfl
  simp only [List.getElem_toArray, List.getElem_cons_zero, List.getElem_cons_succ] at c0 c1 c2 d3 d4 d5 d6
  have HB : Hid (Below w.heap.size w w1) := hbel
  clear hB hb1 hbel hs
  simp only [World.size_alloc]
  go_wp2_with fail
  go_loopw [4, 8] (fun v i wr => wr = w1 ∧ (i = .int .i64 0 ∨ (i = .int .i64 1 ∧ p = true) ∨ (i = .int .i64 2 ∧ p = true ∧ q = true) ∨ (i = .int .i64 3 ∧ p = true ∧ q = true ∧ r = true))) (fun _ i _ => 3 - (intOf i).toNat)
  case atStart => exact ⟨rfl, .inl rfl⟩
  case round =>
    obtain ⟨rfl, hrel⟩ := hrel
    rcases hrel with rfl | ⟨rfl, rfl⟩ | ⟨rfl, rfl, rfl⟩ | ⟨rfl, rfl, rfl, rfl⟩
    · cases p
      · go_wp2_with (go_at_call 17; refine (P.call _).mono ?_; rintro e w2 ⟨rfl, rfl⟩)
        go_ret
        exact ⟨rfl, HB.out⟩
      · go_wp2_with (go_at_call 17; refine (P.call _).mono ?_; rintro e w2 ⟨rfl, rfl⟩)
        go_roundw
        case rel => simp
        case measure => simp [intOf]
    · cases q
      · go_wp2_with (go_at_call 17; refine (Q.call _).mono ?_; rintro e w2 ⟨rfl, rfl⟩)
        go_ret
        exact ⟨rfl, HB.out⟩
      · go_wp2_with (go_at_call 17; refine (Q.call _).mono ?_; rintro e w2 ⟨rfl, rfl⟩)
        go_roundw
        case rel => simp
        case measure => simp [intOf]
    · cases r
      · go_wp2_with (go_at_call 17; refine (R.call _).mono ?_; rintro e w2 ⟨rfl, rfl⟩)
        go_ret
        exact ⟨rfl, HB.out⟩
      · go_wp2_with (go_at_call 17; refine (R.call _).mono ?_; rintro e w2 ⟨rfl, rfl⟩)
        go_roundw
        case rel => simp
        case measure => simp [intOf]
    · cases c
      · go_wp2_with fail
        refine (CC.call _).mono ?_
        rintro e w2 ⟨rfl, hb2⟩
        have HB2 : Hid (Below w.heap.size w w2) := HB.out.trans (hb2.mono (by omega))
        clear hb2
        go_wp2
        go_ret
        exact ⟨rfl, HB2.out⟩
      · go_wp2_with fail
        refine (CC.call _).mono ?_
        rintro e w2 ⟨rfl, hb2⟩
        have HB2 : Hid (Below w.heap.size w w2) := HB.out.trans (hb2.mono (by omega))
        have e6 := cBelow hb2 d6
        clear hb2
        go_wp2_with (go_at_call 39; refine (K.call _).mono ?_; rintro e w3 ⟨rfl, rfl⟩)
        go_ret
        exact ⟨by simp, HB2.out⟩

structure ShdIs (s : Shd) (p : Bool) : Prop where
  call : ∀ w : World, Calls Try.prog 13 #[.agg #[.complex .f32 s.a1 s.a2, .complex .f32 s.b1 s.b2, .complex .f32 s.c1 s.c2, .float .f32 s.r, .float .f32 s.g, .float .f32 s.b, .float .f32 s.k]] w fun e w' => e = .returned (.bool p) ∧ Below w.heap.size w w'
theorem shdIs (s : Shd) : ShdIs s (shardB s) := ⟨fun w => isShard_of s _ _ _ _ _ ⟨fun w => cornersOf_i s w⟩ (ptIs _ _) (ptIs _ _) (ptIs _ _) (colIs _ _ _) (shareIs _) w⟩

/-- An operation on two singles. -/
structure Op2 (F : FuncId) (a b r : Nat) : Prop where
  call : ∀ w : World, Calls Try.prog F #[.float .f32 a, .float .f32 b] w fun e w' => e = .returned (.float .f32 r) ∧ w' = w
theorem diff2 {a b : Nat} (ha : Fin32 a) (hb : Fin32 b) : Op2 30 a b (clT (valOf F32 a - valOf F32 b)) := ⟨fun w => by
  obtain ⟨r, e, h⟩ := sub_cl ha hb
  rw [← h]; exact differenceOf_i a b r w e⟩
theorem sum2 {a b : Nat} (ha : Fin32 a) (hb : Fin32 b) : Op2 35 a b (clT (valOf F32 a + valOf F32 b)) := ⟨fun w => by
  obtain ⟨r, e, h⟩ := add_cl ha hb
  rw [← h]; exact sumOf_i a b r w e⟩
theorem prod2 {a b : Nat} (ha : Fin32 a) (hb : Fin32 b) : Op2 31 a b (clM (valOf F32 a * valOf F32 b)) := ⟨fun w => by
  obtain ⟨r, e, h⟩ := mul_cl ha hb
  rw [← h]; exact productOf_i a b r w e⟩

structure Join (F : FuncId) (a1 a2 b1 b2 x y : Nat) : Prop where
  call : ∀ w : World, Calls Try.prog 29 #[.complex .f32 a1 a2, .complex .f32 b1 b2, .func (.func F) #[] #[]] w fun e w' => e = .returned (.complex .f32 x y) ∧ w' = w
set_option maxHeartbeats 4000000 in
theorem join_of {F : FuncId} {a1 a2 b1 b2 x y : Nat} (X : Op2 F a1 b1 x) (Y : Op2 F a2 b2 y) (hF : F = 30 ∨ F = 35 ∨ F = 43 ∨ F = 44) : Join F a1 a2 b1 b2 x y := ⟨fun w => by
  rcases hF with rfl | rfl | rfl | rfl
  · go_enter Try.func29, Try.ntmps29
    go_wp2_with (go_at_call 30; (first | (with_reducible refine (X.call _).mono ?_) | (with_reducible refine (Y.call _).mono ?_)); rintro e w1 ⟨rfl, rfl⟩)
    go_ret
    exact ⟨rfl, rfl⟩
  · go_enter Try.func29, Try.ntmps29
    go_wp2_with (go_at_call 35; (first | (with_reducible refine (X.call _).mono ?_) | (with_reducible refine (Y.call _).mono ?_)); rintro e w1 ⟨rfl, rfl⟩)
    go_ret
    exact ⟨rfl, rfl⟩
  · go_enter Try.func29, Try.ntmps29
    go_wp2_with (go_at_call 43; (first | (with_reducible refine (X.call _).mono ?_) | (with_reducible refine (Y.call _).mono ?_)); rintro e w1 ⟨rfl, rfl⟩)
    go_ret
    exact ⟨rfl, rfl⟩
  · go_enter Try.func29, Try.ntmps29
    go_wp2_with (go_at_call 44; (first | (with_reducible refine (X.call _).mono ?_) | (with_reducible refine (Y.call _).mono ?_)); rintro e w1 ⟨rfl, rfl⟩)
    go_ret
    exact ⟨rfl, rfl⟩⟩

structure SideIs (a1 a2 b1 b2 p1 p2 z : Nat) : Prop where
  call : ∀ w : World, Calls Try.prog 10 #[.complex .f32 a1 a2, .complex .f32 b1 b2, .complex .f32 p1 p2] w fun e w' => e = .returned (.float .f32 z) ∧ w' = w
set_option maxHeartbeats 4000000 in
theorem side_of {a1 a2 b1 b2 p1 p2 d1 d2 e1 e2 x y z : Nat} (A : PtIs a1 a2 true) (B : PtIs b1 b2 true) (P : PtIs p1 p2 true) (D : Join 30 b1 b2 a1 a2 d1 d2) (E : Join 30 p1 p2 a1 a2 e1 e2)
    (X : Op2 31 d1 e2 x) (Y : Op2 31 d2 e1 y) (Z : Op2 30 x y z) : SideIs a1 a2 b1 b2 p1 p2 z := ⟨fun w => by
  go_enter Try.func10, Try.ntmps10
  go_wp2_with (first | (go_at_call 17; (first | (with_reducible refine (A.call _).mono ?_) | (with_reducible refine (B.call _).mono ?_) | (with_reducible refine (P.call _).mono ?_)); rintro e w1 ⟨rfl, rfl⟩) | (go_at_call 29; (first | (with_reducible refine (D.call _).mono ?_) | (with_reducible refine (E.call _).mono ?_)); rintro e w1 ⟨rfl, rfl⟩) | (go_at_call 31; (first | (with_reducible refine (X.call _).mono ?_) | (with_reducible refine (Y.call _).mono ?_)); rintro e w1 ⟨rfl, rfl⟩) | (go_at_call 30; (with_reducible refine (Z.call _).mono ?_); rintro e w1 ⟨rfl, rfl⟩))
  go_ret
  exact ⟨rfl, rfl⟩⟩
theorem ptYes {x y : Nat} (hx : inB x = true) (hy : inB y = true) : PtIs x y true := by
  have h := ptIs x y
  unfold ptB at h
  rwa [hx, hy] at h
theorem sideIs {a1 a2 b1 b2 p1 p2 : Nat} (ha1 : inB a1 = true) (ha2 : inB a2 = true) (hb1 : inB b1 = true) (hb2 : inB b2 = true) (hp1 : inB p1 = true) (hp2 : inB p2 = true) :
    SideIs a1 a2 b1 b2 p1 p2 (sideW a1 a2 b1 b2 p1 p2) := by
  have f1 := inB_fin ha1
  have f2 := inB_fin ha2
  have f3 := inB_fin hb1
  have f4 := inB_fin hb2
  have f5 := inB_fin hp1
  have f6 := inB_fin hp2
  exact side_of (ptYes ha1 ha2) (ptYes hb1 hb2) (ptYes hp1 hp2) (join_of (diff2 f3 f1) (diff2 f4 f2) (.inl rfl)) (join_of (diff2 f5 f1) (diff2 f6 f2) (.inl rfl))
    (prod2 (clT_cl _).fin (clT_cl _).fin) (prod2 (clT_cl _).fin (clT_cl _).fin) (diff2 (clM_cl _).fin (clM_cl _).fin)
end Go.Proofs.Ytkcfekhpppihhaa
