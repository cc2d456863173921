/-
  Texts St Sv Eqc Ea Eb, joined.
-/
import Derived.Test.YtfdgijmmgllmgaaV06
import Derived.Test.YtfdgijmmgllmgaaV05
import Derived.Test.YtfdgijmmgllmgaaV01
import Derived.StillTailTactics
import Derived.Laws.MakeOwn
namespace Go.Proofs.Ytfdgijmmgllmgaa
open Go.ChangeShapes Go.WideShapes Go.ChangeAt Go.RowKit Go.Joins
set_option linter.unusedSimpArgs false
set_option linter.unusedVariables false
set_option maxRecDepth 100000
attribute [local go_sem] store_f
open Ieee
def StrMk (W : World) (g n k : Nat) : Prop := ∃ cur, Blk W g cur 9 ∧ n ≤ cur.size ∧ ∀ j, j < k → cur[j]? = some (.string (markS (1 + j)))
theorem StrMk.below {W W' : World} {g n k : Nat} (h : StrMk W g n k) (hb : Below W.heap.size W W') : StrMk W' g n k := by
  obtain ⟨cur, h1, h2, h3⟩ := h
  exact ⟨cur, (hb.block _ h1.lt).trans h1, h2, h3⟩
theorem StrMk.step {W : World} {g n k : Nat} (h : StrMk W g n k) (hk : k < n) : StrMk (W.setCell ⟨g, k, Option.none⟩ (.string (markS (1 + k)))) g n (k + 1) := by
  obtain ⟨cur, h1, h2, h3⟩ := h
  refine ⟨_, Blk.set h1, by simpa using h2, fun j hj => ?_⟩
  rw [Array.getElem?_setIfInBounds]
  by_cases e : k = j
  · subst e
    rw [if_pos rfl, if_pos (by omega)]
  · rw [if_neg e]
    exact h3 j (by omega)
theorem StrMk.strs {W : World} {g n : Nat} (h : StrMk W g n n) : StrsAt W g n (fun k => markS (1 + k)) := by
  obtain ⟨cur, h1, h2, h3⟩ := h
  exact ⟨h1.lt, fun k hk => by rw [h1.cell]; exact h3 k hk⟩
theorem StrMk.of {W : World} {B n g c : Nat} {xs : List Value} (h : W.ownsRow B 9 1 (.slice (some ⟨g, 0, Option.none⟩) n c) n xs) : StrMk W g n 0 ∧ B ≤ g := by
  obtain ⟨h1, h2⟩ := h
  rcases h2 with ⟨e, _⟩ | ⟨g', cap, cur, e, hB, hb, hle, hx, hs, hm⟩
  · simp at e
  · simp only [Value.slice.injEq, Option.some.injEq, Addr.mk.injEq] at e
    obtain ⟨⟨rfl, _⟩, _, rfl⟩ := e
    exact ⟨⟨cur, hb, by omega, fun j hj => absurd hj (by omega)⟩, hB⟩
set_option maxHeartbeats 8000000 in
theorem markStrs {n g c B : Nat} (hn : n ≤ 8) (w : World) (h1 : StrMk w g n 0) (hB : B ≤ g) (hBw : B ≤ w.heap.size) :
    Calls Try.prog 18 #[.slice (some ⟨g, 0, Option.none⟩) n c, .int .i64 1] w fun e w' => e = .returned (.int .i64 (1 + (n : Int))) ∧ StrMk w' g n n ∧ Below B w w' := by
  have HP := Lib.hid h1
  clear h1
  go_enter Try.func18, Try.ntmps18
  go_wp2
  go_loopw [1, 5] (fun q i wr => ∃ k : Nat, k ≤ n ∧ i = .int .i64 k ∧ q = .int .i64 ((1 + k : Nat) : Int) ∧ StrMk wr g n k ∧ Below B w wr) (fun _ i _ => n - (Lib.intOf i).toNat)
  case atStart => exact ⟨0, by omega, rfl, rfl, HP.out, Below.refl _ _⟩
  case round =>
    obtain ⟨k, hk, rfl, rfl, hm, hbel⟩ := hrel
    by_cases hlt : k < n
    · have HM := Lib.hid hm
      have HT := Lib.hid (markT (k := 1 + k) (by omega) (by omega)).call
      have hd := hbel.size
      clear hm
      generalize hz : 1 + k = z at HT
      go_wp2_with fail
      refine (HT.out _).mono ?_
      rintro e w4 ⟨rfl, hb⟩
      have hm4 := HM.out.below hb
      have hb4 : Below B w w4 := hbel.trans (hb.mono (by omega))
      obtain ⟨cur, k1, k2, k3⟩ := id hm4
      have hc : ∃ x0, w4.cell? ⟨g, k, Option.none⟩ = some x0 := by rw [k1.cell]; exact ⟨_, Array.getElem?_eq_getElem (by omega)⟩
      obtain ⟨x0, hc⟩ := hc
      have hf := k1.free k
      have HS := Lib.hid (hm4.step hlt)
      have HG := Lib.hid (hb4.setCell (p := ⟨g, k, Option.none⟩) hB (.string (markS (1 + k))))
      clear hm4 hb4 k1 k2 k3 HM HT hb
      go_wp2
      go_roundw
      case rel => exact ⟨k + 1, by omega, by go_num, by rw [← hz]; first | (go_num; done) | (simp; omega), by rw [← hz]; exact HS.out, by rw [← hz]; exact HG.out⟩
      case measure => simp [Lib.intOf]; omega
    · have hkn : k = n := by omega
      subst hkn
      go_wp2
      go_ret
      exact ⟨by simp, hm, hbel⟩
end Go.Proofs.Ytfdgijmmgllmgaa
namespace Go.Proofs.Ytfdgijmmgllmgaa
open Go.ChangeShapes Go.WideShapes Go.ChangeAt Go.RowKit Go.Joins
set_option linter.unusedSimpArgs false
set_option linter.unusedVariables false
set_option maxRecDepth 100000
attribute [local go_sem] store_f
open Ieee
structure Fmts (F : FuncId) (n : Int) (a : Option Addr) (cap : Nat) (l : List Lit) (N : Nat) (f : Nat → ByteArray) : Prop where
  call : ∀ w : World, LitsAt w a l → Calls Try.prog F #[.agg #[.int .i64 n, .slice a l.length cap]] w fun e w' => ∃ g c, e = .returned (.slice (some ⟨g, 0, Option.none⟩) N c) ∧ StrsAt w' g N f ∧ (N = 0 ∨ StrMk w' g N 0) ∧ w.heap.size ≤ g ∧ Below w.heap.size w w'
theorem txt_size (c : Lit) : (txt c).size ≤ 3 := Nat.le_refl 3
theorem fmts (n : Int) (l : List Lit) (hw : ∀ c ∈ l, c.W) :
    ∃ (N : Nat) (f : Nat → ByteArray), N ≤ 8 ∧ (∀ a cap, l.length ≤ cap → Fmts 11 n a cap l N f) ∧ ∀ a cap, Fmts 13 n a cap l N f := by
  have PI := fun a cap => picIs n a cap l
  have PS := fun a cap => picS n a cap hw
  cases hp : picB n l
  · rw [hp] at PI PS
    refine ⟨0, fun _ => ⟨#[]⟩, by omega, fun a cap _ => ⟨fun w hr => ((noLinesI (PI a cap)).call w hr).mono ?_⟩, fun a cap => ⟨fun w hr => ((noLinesS (PS a cap)).call w hr).mono ?_⟩⟩ <;>
    · rintro e w' ⟨g, rfl, h1, h2, hb⟩
      exact ⟨g, 0, rfl, ⟨h2, fun k hk => absurd hk (by omega)⟩, .inl rfl, by omega, hb⟩
  · rw [hp] at PI PS
    have hq := hp
    unfold picB sizeB at hq
    simp only [Bool.and_eq_true, decide_eq_true_eq, List.all_eq_true] at hq
    obtain ⟨⟨⟨g1, g8⟩, hlen⟩, hall⟩ := hq
    obtain ⟨m, rfl⟩ : ∃ m : Nat, n = m := ⟨n.toNat, by omega⟩
    have h1 : 1 ≤ m := by omega
    have h8 : m ≤ 8 := by omega
    have hl : l.length = m * m := by
      have : ((m * m : Nat) : Int) = (m : Int) * m := by simp
      omega
    have hl1 : 1 ≤ m * m := Nat.mul_le_mul h1 h1
    have hmem : ∀ k, k < l.length → (l.getD k default) ∈ l := fun k hk => by
      rw [List.getD_eq_getElem?_getD, List.getElem?_eq_getElem hk]
      exact List.getElem_mem hk
    have hW : ∀ k, k < l.length → (l.getD k default).Wide := fun k hk => ⟨(hw _ (hmem k hk)).r, (hw _ (hmem k hk)).g, (hw _ (hmem k hk)).b⟩
    refine ⟨m, lineAt l m, h8, fun a cap hc => ⟨fun w hr => ?_⟩, fun a cap => ⟨fun w hr => ?_⟩⟩
    · have hr0 := hr
      rcases hr with e | ⟨b, off, rfl, hR⟩
      · rw [e] at hl; simp at hl; omega
      · have hb : b < w.heap.size := cell_lt (hR 0 (by omega)).1
        refine (formatPic h1 h8 hl hc (PI _ _) (fun x hx W h hb => fmtRowAt h1 h8 hl hx (fun k hk => fmt_of (hall _ (hmem k hk)) (hW k hk)) W h hb) w hR hb).mono ?_
        rintro e w' ⟨⟨v, rfl, hown, _⟩, hB⟩
        obtain ⟨g, c, rfl, _, hg, hS⟩ := strs_of hown h1
        exact ⟨g, c, rfl, hS, .inr (StrMk.of hown).1, hg, hB⟩
    · refine (formatPicS (f := fun k => txt (l.getD k default)) h1 h8 hl (PS _ _) (fun k => txt_size _) (fun k hk => fmtS_of (hall _ (hmem k hk)) (hW k hk)) w hr).mono ?_
      rintro e w' ⟨v, rfl, hown, _, hB⟩
      have hf : (fun x => partS (fun j => txt (l.getD (x * m + j) default)) m) = lineAt l m := funext fun x => line_same.symm
      rw [hf] at hown
      obtain ⟨g, c, rfl, _, hg, hS⟩ := strs_of hown h1
      exact ⟨g, c, rfl, hS, .inr (StrMk.of hown).1, by omega, hB⟩
theorem markStrs0 {g c : Nat} (w : World) :
    Calls Try.prog 18 #[.slice (some ⟨g, 0, Option.none⟩) 0 c, .int .i64 1] w fun e w' => e = .returned (.int .i64 1) ∧ Below w.heap.size w w' := by
  go_enter Try.func18, Try.ntmps18
  go_wp2
  go_loopw [1, 5] (fun q i wr => i = .int .i64 0 ∧ q = .int .i64 1 ∧ Below w.heap.size w wr) (fun _ _ _ => 0)
  case atStart => exact ⟨rfl, rfl, Below.refl _ _⟩
  case round =>
    obtain ⟨rfl, rfl, hbel⟩ := hrel
    go_wp2
    go_ret
    exact ⟨rfl, hbel⟩
structure MarkR (N : Nat) : Prop where
  call : ∀ (w : World) (g c B : Nat), (N = 0 ∨ StrMk w g N 0) → g < w.heap.size → B ≤ g → Calls Try.prog 18 #[.slice (some ⟨g, 0, Option.none⟩) N c, .int .i64 1] w fun e w' => e = .returned (.int .i64 (1 + (N : Int))) ∧ StrsAt w' g N (fun k => markS (1 + k)) ∧ Below B w w'
theorem markR {N : Nat} (hN : N ≤ 8) : MarkR N := ⟨fun w g c B h hg hB => by
  rcases Nat.eq_zero_or_pos N with rfl | h0
  · refine (markStrs0 (g := g) (c := c) w).mono ?_
    rintro e w' ⟨rfl, hb⟩
    exact ⟨by simp, ⟨Nat.lt_of_lt_of_le hg hb.size, fun k hk => absurd hk (by omega)⟩, hb.mono (by omega)⟩
  · rcases h with h | h
    · omega
    · refine (markStrs hN w h hB (by omega)).mono ?_
      rintro e w' ⟨rfl, hm, hb⟩
      exact ⟨rfl, hm.strs, hb⟩⟩
structure HeldR (N : Nat) : Prop where
  call : ∀ (w : World) (g c : Nat), StrsAt w g N (fun k => markS (1 + k)) → Calls Try.prog 19 #[.slice (some ⟨g, 0, Option.none⟩) N c, .int .i64 1] w fun e w' => e = .returned (.int .i64 (1 + (N : Int))) ∧ Below w.heap.size w w'
theorem heldR {N : Nat} (hN : N ≤ 8) : HeldR N := ⟨fun w g c h => heldStrs (by omega) (fun k hk => markT (by omega) (by omega)) w h⟩
structure EqR (N : Nat) (f : Nat → ByteArray) : Prop where
  call : ∀ (w : World) (g h c d : Nat), StrsAt w g N f → StrsAt w h N f → Calls Try.prog 15 #[.slice (some ⟨g, 0, Option.none⟩) N c, .slice (some ⟨h, 0, Option.none⟩) N d] w fun e w' => e = .returned (.bool true) ∧ Below w.heap.size w w'
theorem eqR {N : Nat} {f : Nat → ByteArray} (hN : N ≤ 8) : EqR N f := ⟨fun w g h c d a b => eqStrs (by omega) w a b⟩
end Go.Proofs.Ytfdgijmmgllmgaa
namespace Go.Proofs.Ytfdgijmmgllmgaa
open Go.ChangeShapes Go.WideShapes Go.ChangeAt Go.RowKit Go.Joins
set_option linter.unusedSimpArgs false
set_option linter.unusedVariables false
set_option maxRecDepth 100000
attribute [local go_sem] store_f
open Ieee
structure SameF (a b : Nat) : Prop where
  call : ∀ w : World, Calls Try.prog 46 #[.float .f64 a, .float .f64 b] w fun e w' => e = .returned (.bool true) ∧ w' = w
theorem sameF_neg : SameF 9223372036854775808 9223372036854775808 := ⟨fun w => by
  have hq := fun t w => run_float_arith (P := Try.prog) w .quo t .f64 4607182418800017408 9223372036854775808 18442240474082181120 (by kernel_rfl)
  have h0 : (FloatKind.f64.format.order 9223372036854775808 9223372036854775808 != some .eq) = false := by kernel_rfl
  have h1 : (FloatKind.f64.format.order 9223372036854775808 0 == some .eq) = true := by kernel_rfl
  go_enter Try.func46, Try.ntmps46
  go_wp2_with (simp only [hq])
  all_goals (go_ret; exact ⟨by simp_all, rfl⟩)⟩
theorem sameF_nan {a b : Nat} (ha : FloatKind.f64.format.order a a = none) (hb : FloatKind.f64.format.order b b = none) : SameF a b := ⟨fun w => by
  have h0 : (FloatKind.f64.format.order a a != some .eq) = true := by rw [ha]; rfl
  have h1 : (FloatKind.f64.format.order b b != some .eq) = true := by rw [hb]; rfl
  clear ha hb
  go_enter Try.func46, Try.ntmps46
  go_wp2
  all_goals (go_ret; exact ⟨by simp_all, rfl⟩)⟩
theorem zero_of_wide {x : Nat} (h : Fin32 x) (he : F64.order (wide x) 0 = some .eq) : rungOf F32 x = 0 := by
  rw [order_fin F64 (wide_fin h) zero64_fin] at he
  have hv : valOf F64 0 = 0 := by
    unfold valOf rungOf negOf
    rw [F64_sw]; simp [magOf_zero]
  rw [hv] at he
  have h1 : valOf F64 (wide x) = 0 := by
    have := cmp_eq (a := valOf F64 (wide x)) (b := 0)
    rw [he] at this
    simpa using this.symm
  have h2 : magOf F64 (rungOf F64 (wide x)) = 0 := by
    unfold valOf at h1
    split at h1 <;> omega
  rw [wide_mag h] at h2
  have h3 : magOf F32 (rungOf F32 x) = 0 := by
    rcases Nat.mul_eq_zero.1 h2 with h | h
    · exact h
    · exact absurd h (Nat.pos_iff_ne_zero.1 (Nat.two_pow_pos 925))
  rcases Nat.eq_zero_or_pos (rungOf F32 x) with h4 | h4
  · exact h4
  · have := magOf_pos h4; omega
structure Wid (x : Nat) (nf : World → Nat) (st : Bool) : Prop where
  run : ∀ w : World, (convert 30 83 (.float .f32 x)).run Try.prog w = .ok (.float .f64 (nf w)) (if st then w.drew else w)
  same : ∀ w w' : World, SameF (nf w) (nf w')
theorem wid_num {x y : Nat} (h : floatToFloatBits .f32 x .f64 = some y) (S : SameF y y) : Wid x (fun _ => y) false :=
  ⟨fun w => run_convert_float_float (P := Try.prog) w 30 83 .f32 .f64 x y (by rw [Try.underlying30]; rfl) Try.underlying83 h, fun _ _ => S⟩
theorem nan64 (x t : Nat) : FloatKind.f64.format.order ((Question.nanConv .f64 x).cut t) ((Question.nanConv .f64 x).cut t) = none := by
  have h : F64.infRung < rungOf F64 ((Question.nanConv .f64 x).cut t) := by
    show _ < rungOf F64 (t % 2 * 2 ^ 63 + 0x7ff0000000000000 + 1 + t / 2 % (2 ^ 52 - 1))
    unfold rungOf
    rw [F64_inf, F64_sw]
    have hb : t / 2 % (2 ^ 52 - 1) < 2 ^ 52 - 1 := Nat.mod_lt _ (by omega)
    have ha : t % 2 = 0 ∨ t % 2 = 1 := by omega
    generalize t / 2 % (2 ^ 52 - 1) = b at hb ⊢
    rcases ha with e | e <;> rw [e] <;> omega
  show (F64.read _).order (F64.read _) = none
  rw [read_nan F64 h (by decide)]; rfl
theorem wid_nan {x : Nat} (h : F32.infRung < rungOf F32 x) : Wid x (fun w => (Question.nanConv .f64 x).cut (w.tape w.drawn (.nanConv .f64 x))) true := ⟨fun w => by
  have hr : FloatKind.f32.decode x = .nan (negOf F32 x) (rungOf F32 x - F32.infRung) := read_nan F32 h F32_eb
  have hf : (Conv.floatToFloat .f32 x .f64).run Try.prog w = .ok (.float .f64 ((Question.nanConv .f64 x).cut (w.tape w.drawn (.nanConv .f64 x)))) w.drew := by
    unfold Conv.floatToFloat
    rw [if_neg (by decide), hr]
    simp [Question.forced]
  have hs : (Try.prog.underlying 30) = some (.float .f32) := Try.underlying30
  have hd : (Try.prog.underlying 83) = some (.float .f64) := Try.underlying83
  simp only [convert]
  simp [run_underlying hs, run_underlying hd, hf], fun _ _ => sameF_nan (nan64 _ _) (nan64 _ _)⟩
theorem wid_of {x : Nat} (hx : x < 4294967296) : ∃ nf st, Wid x nf st := by
  by_cases h : Fin32 x
  · refine ⟨_, _, wid_num (wide_bits h) ?_⟩
    by_cases hz : FloatKind.f64.format.order (wide x) 0 = some .eq
    · have hr := zero_of_wide h hz
      unfold rungOf at hr
      rw [F32_sw] at hr
      rcases (by omega : x = 0 ∨ x = 2147483648) with rfl | rfl
      · have e : wide 0 = 0 := by decide +kernel
        rw [e]; exact ⟨fun w => sameFloat_zero w⟩
      · have e : wide 2147483648 = 9223372036854775808 := by decide +kernel
        rw [e]; exact sameF_neg
    · exact ⟨fun w => sameFloat_other _ (wide_same h) hz w⟩
  · by_cases hi : rungOf F32 x = F32.infRung
    · unfold rungOf at hi
      rw [F32_sw, F32_inf] at hi
      rcases (by omega : x = 2139095040 ∨ x = 4286578688) with rfl | rfl
      · exact ⟨_, _, wid_num (y := 9218868437227405312) (by kernel_rfl) ⟨fun w => sameFloat_other _ (by kernel_rfl) (by decide +kernel) w⟩⟩
      · exact ⟨_, _, wid_num (y := 18442240474082181120) (by kernel_rfl) ⟨fun w => sameFloat_other _ (by kernel_rfl) (by decide +kernel) w⟩⟩
    · exact ⟨_, _, wid_nan (by unfold Fin32 at h; omega)⟩
structure EqColM (c : Lit) : Prop where
  call : ∀ w : World, Calls Try.prog 47 #[.agg #[.float .f32 c.r, .float .f32 c.g, .float .f32 c.b], .agg #[.float .f32 c.r, .float .f32 c.g, .float .f32 c.b]] w fun e w' => e = .returned (.bool true) ∧ Below w.heap.size w w'
set_option maxHeartbeats 8000000 in
theorem eqColM {c : Lit} (hr : c.r < 4294967296) (hg : c.g < 4294967296) (hb : c.b < 4294967296) : EqColM c := ⟨fun w => by
  obtain ⟨n0, s0, W0⟩ := wid_of hr
  obtain ⟨n1, s1, W1⟩ := wid_of hg
  obtain ⟨n2, s2, W2⟩ := wid_of hb
  obtain ⟨r, g, b⟩ := c
  simp only [] at W0 W1 W2 hr hg hb ⊢
  have q0 := W0.run
  have q1 := W1.run
  have q2 := W2.run
  clear hr hg hb
  cases s0 <;> cases s1 <;> cases s2
  all_goals
    simp only [if_true, Bool.false_eq_true, if_false] at q0 q1 q2
    go_enter Try.func47, Try.ntmps47
    go_wp2_with (first | (simp only [q0]) | (simp only [q1]) | (simp only [q2]) | (go_at_call 46; (first | (with_reducible refine ((W0.same _ _).call _).mono ?_) | (with_reducible refine ((W1.same _ _).call _).mono ?_) | (with_reducible refine ((W2.same _ _).call _).mono ?_)); rintro e w1 ⟨rfl, rfl⟩))
    all_goals (go_ret; exact ⟨rfl, by (repeat' (first | (with_reducible exact Below.refl _ _) | (with_reducible assumption) | (with_reducible refine Below.alloc ?_ ?_ _) | (with_reducible refine Below.drew ?_) | (with_reducible refine Below.setCell ?_ ?_ _) | (with_reducible refine Below.trans ?_ (Below.mono (by assumption) ?_)) | (with_reducible exact Nat.le_refl _) | omega | (simp only [World.size_alloc, World.size_setCell, World.size_drew]; omega) | (simp; omega) | (simp; done)))⟩)⟩
end Go.Proofs.Ytfdgijmmgllmgaa
namespace Go.Proofs.Ytfdgijmmgllmgaa
open Go.ChangeShapes Go.WideShapes Go.ChangeAt Go.RowKit Go.Joins
set_option linter.unusedSimpArgs false
set_option linter.unusedVariables false
set_option maxRecDepth 100000
attribute [local go_sem] store_f
open Ieee
def LitBlk (W : World) (g : Nat) (l : List Lit) : Prop := ∃ cur, Blk W g cur 47 ∧ l.length * 3 ≤ cur.size ∧ ∀ k, k < l.length → cur[k * 3]? = some (.float .f32 (l.getD k default).r) ∧ cur[k * 3 + 1]? = some (.float .f32 (l.getD k default).g) ∧ cur[k * 3 + 2]? = some (.float .f32 (l.getD k default).b)
theorem LitBlk.row {W : World} {g : Nat} {l : List Lit} (h : LitBlk W g l) : LitRow W g 0 l := by
  obtain ⟨cur, hb, _, hc⟩ := h
  intro k hk
  obtain ⟨h0, h1, h2⟩ := hc k hk
  simp only [Nat.zero_add]
  exact ⟨(hb.cell _).trans h0, (hb.cell _).trans h1, (hb.cell _).trans h2⟩
theorem LitBlk.below {W w1 : World} {g : Nat} {l : List Lit} (h : LitBlk W g l) (hb : Below W.heap.size W w1) : LitBlk w1 g l := by
  obtain ⟨cur, h1, h2⟩ := h
  exact ⟨cur, h1.below hb, h2⟩
theorem LitBlk.alloc {W : World} {g : Nat} {l : List Lit} {o : Obj} (h : LitBlk W g l) : LitBlk (W.alloc o) g l := by
  obtain ⟨cur, h1, h2⟩ := h
  exact ⟨cur, h1.alloc, h2⟩
theorem LitBlk.other {W w1 : World} {g : Nat} {l : List Lit} {r : Option Nat} (h : LitBlk W g l) (hg : W.grownBy w1 r) (hne : r ≠ some g) : LitBlk w1 g l := by
  obtain ⟨cur, h1, h2⟩ := h
  exact ⟨cur, (hg.block g h1.lt (fun q => hne q.symm)).trans h1, h2⟩
theorem LitBlk.lt {W : World} {g : Nat} {l : List Lit} (h : LitBlk W g l) : g < W.heap.size := by
  obtain ⟨cur, h1, _⟩ := h
  exact h1.lt
theorem LitBlk.own {W : World} {B g c : Nat} {l : List Lit} (h : W.ownsRow B 47 3 (.slice (some ⟨g, 0, Option.none⟩) l.length c) l.length (litCells l)) : LitBlk W g l ∧ B ≤ g := by
  have hrow := litRow_of h rfl
  obtain ⟨_, h2⟩ := h
  rcases h2 with ⟨e, _⟩ | ⟨g', cap', cur, e, hB, hb, hle, _, hs, _⟩
  · simp at e
  · simp only [Value.slice.injEq, Option.some.injEq, Addr.mk.injEq] at e
    obtain ⟨⟨rfl, _⟩, _, rfl⟩ := e
    have hb2 : Blk W g cur 47 := hb
    refine ⟨⟨cur, hb2, by omega, fun k hk => ?_⟩, hB⟩
    obtain ⟨h0, h1, h2⟩ := hrow k hk
    simp only [Nat.zero_add] at h0 h1 h2
    exact ⟨(hb2.cell _).symm.trans h0, (hb2.cell _).symm.trans h1, (hb2.cell _).symm.trans h2⟩
def LitPart (W : World) (g n k : Nat) (l : List Lit) : Prop := ∃ cur, Blk W g cur 47 ∧ n * 3 ≤ cur.size ∧ ∀ j, j < k → cur[j * 3]? = some (.float .f32 (l.getD j default).r) ∧ cur[j * 3 + 1]? = some (.float .f32 (l.getD j default).g) ∧ cur[j * 3 + 2]? = some (.float .f32 (l.getD j default).b)
theorem LitPart.step {W : World} {g n k : Nat} {l : List Lit} (h : LitPart W g n k l) (hk : k < n) :
    LitPart (((W.setCell ⟨g, k * 3, Option.none⟩ (.float .f32 (l.getD k default).r)).setCell ⟨g, k * 3 + 1, Option.none⟩ (.float .f32 (l.getD k default).g)).setCell ⟨g, k * 3 + 2, Option.none⟩ (.float .f32 (l.getD k default).b)) g n (k + 1) l := by
  obtain ⟨cur, hb, hs, hm⟩ := h
  refine ⟨_, Blk.set (Blk.set (Blk.set hb)), by simpa using hs, fun j hj => ?_⟩
  simp only [Array.getElem?_setIfInBounds, Array.size_setIfInBounds]
  by_cases e : j = k
  · subst e
    simp
    omega
  · obtain ⟨h0, h1, h2⟩ := hm j (by omega)
    have e1 : ¬ k * 3 = j * 3 := by omega
    have e2 : ¬ k * 3 + 1 = j * 3 := by omega
    have e3 : ¬ k * 3 + 2 = j * 3 := by omega
    have e4 : ¬ k * 3 = j * 3 + 1 := by omega
    have e5 : ¬ k * 3 + 1 = j * 3 + 1 := by omega
    have e6 : ¬ k * 3 + 2 = j * 3 + 1 := by omega
    have e7 : ¬ k * 3 = j * 3 + 2 := by omega
    have e8 : ¬ k * 3 + 1 = j * 3 + 2 := by omega
    have e9 : ¬ k * 3 + 2 = j * 3 + 2 := by omega
    simp only [e1, e2, e3, e4, e5, e6, e7, e8, e9, if_false, ite_false]
    exact ⟨h0, h1, h2⟩
theorem LitPart.below {W w1 : World} {g n k : Nat} {l : List Lit} (h : LitPart W g n k l) (hb : Below W.heap.size W w1) : LitPart w1 g n k l := by
  obtain ⟨cur, h1, h2⟩ := h
  exact ⟨cur, h1.below hb, h2⟩
theorem toCol3 (c : Lit) (w : World) : Calls Try.prog 21 #[.agg #[.float .f32 c.r, .float .f32 c.g, .float .f32 c.b]] w fun e w' => e = .returned (.agg #[.float .f32 c.r, .float .f32 c.g, .float .f32 c.b]) ∧ Below w.heap.size w w' := toColour_any c.r c.g c.b w
theorem make3 (n : Nat) (hn : n ≤ 1048576) (W : World) : (Instr.makeSlice 24 (.int .i64 (n : Int)) (.int .i64 (n : Int))).run Try.prog W = .ok (.slice (some ⟨W.heap.size, 0, Option.none⟩) n n) (W.alloc (.cells (madeCells #[.float .f32 0, .float .f32 0, .float .f32 0] (n * 3)) 47)) := by
  obtain ⟨i0, hi, hz0, hz1, hz2⟩ := info_parts infoC
  have h := run_make (P := Try.prog) (w := W) 24 47 i0 _ Try.underlying24 hi hz0 .i64 .i64 n n (by omega) (Int.le_refl _) (by rw [hz2]; omega) (by omega)
  rw [hz1, Int.toNat_natCast] at h
  exact h
structure ToCols (a : Option Addr) (cap : Nat) (l : List Lit) : Prop where
  call : ∀ w : World, LitsAt w a l → Calls Try.prog 40 #[.slice a l.length cap] w fun e w' => e = .returned (.slice (some ⟨w.heap.size, 0, Option.none⟩) l.length l.length) ∧ LitBlk w' w.heap.size l ∧ Below w.heap.size w w'
set_option maxHeartbeats 8000000 in
theorem toCols {a : Option Addr} {cap : Nat} {l : List Lit} (hn : l.length ≤ 1048576) : ToCols a cap l := ⟨fun w hrow => by
  obtain ⟨n, hln⟩ : ∃ n, n = l.length := ⟨_, rfl⟩
  have hmk := fun W => make3 n (by omega) W
  have HL : Hid (n = l.length) := hln
  have HR : Hid (LitsAt w a l) := hrow
  rw [← hln]
  clear hrow
  by_cases h0 : n = 0
  · subst h0
    have hl0 : l = [] := List.eq_nil_of_length_eq_zero hln.symm
    subst hl0
    have hmk0 : ∀ W, (Instr.makeSlice 24 (.int .i64 0) (.int .i64 0)).run Try.prog W = .ok (.slice (some ⟨W.heap.size, 0, Option.none⟩) 0 0) (W.alloc (.cells (madeCells #[.float .f32 0, .float .f32 0, .float .f32 0] 0) 47)) := fun W => hmk W
    clear hmk hln HL hn
    go_enter Try.func40, Try.ntmps40
    go_wp2
    go_rounds 1
    go_ret
    exact ⟨rfl, ⟨_, Blk.new _ _ _, by simp, fun k hk => by simp at hk⟩, by (repeat' (first | (with_reducible exact Below.refl _ _) | (with_reducible assumption) | (with_reducible refine Below.alloc ?_ ?_ _) | (with_reducible refine Below.drew ?_) | (with_reducible refine Below.setCell ?_ ?_ _) | (with_reducible refine Below.trans ?_ (Below.mono (by assumption) ?_)) | (with_reducible exact Nat.le_refl _) | omega | (simp only [World.size_alloc, World.size_setCell, World.size_drew]; omega) | (simp; omega) | (simp; done)))⟩
  · rcases HR.out with hnil | ⟨b, off, rfl, hRR⟩
    · exfalso
      rw [hnil] at hln
      simp at hln
      omega
    have HRR : Hid (LitRow w b off l) := hRR
    have hn' : n ≤ 1048576 := by omega
    clear hRR hln hn HR
    go_enter Try.func40, Try.ntmps40
    go_wp2
    go_loopw [4] (fun i wr => ∃ k : Nat, k ≤ n ∧ i = .int .i64 k ∧ LitPart wr w.heap.size n k l ∧ Below w.heap.size w wr) (fun i _ => n - (intOf i).toNat)
    case atStart => exact ⟨0, by omega, rfl, ⟨_, Blk.new _ _ _, by rw [size_madeCells]; omega, fun j hj => by omega⟩, by (repeat' (first | (with_reducible exact Below.refl _ _) | (with_reducible assumption) | (with_reducible refine Below.alloc ?_ ?_ _) | (with_reducible refine Below.drew ?_) | (with_reducible refine Below.setCell ?_ ?_ _) | (with_reducible refine Below.trans ?_ (Below.mono (by assumption) ?_)) | (with_reducible exact Nat.le_refl _) | omega | (simp only [World.size_alloc, World.size_setCell, World.size_drew]; omega) | (simp; omega) | (simp; done)))⟩
    case round =>
      obtain ⟨k, hk, rfl, hp, hbel⟩ := hrel
      have HP : Hid (LitPart wr w.heap.size n k l) := hp
      have HB : Hid (Below w.heap.size w wr) := hbel
      have hbs := hbel.size
      by_cases hlt : k < n
      · obtain ⟨d0, d1, d2⟩ := (LitRow.below HRR.out hbel) k (by have := HL.out; omega)
        have HS : Hid (∀ W, LitPart W w.heap.size n k l → LitPart (((W.setCell ⟨w.heap.size, k * 3, Option.none⟩ (.float .f32 (l.getD k default).r)).setCell ⟨w.heap.size, k * 3 + 1, Option.none⟩ (.float .f32 (l.getD k default).g)).setCell ⟨w.heap.size, k * 3 + 2, Option.none⟩ (.float .f32 (l.getD k default).b)) w.heap.size n (k + 1) l) := fun W h => h.step hlt
        generalize l.getD k default = c at d0 d1 d2 HS
        have hk0 : (0 : Int) ≤ (k : Int) := by omega
        have hk1 : (k : Int) < (n : Int) := by omega
        clear hp hbel hmk
        go_wp2_with fail
        refine (toCol3 c _).mono ?_
        rintro e w2 ⟨rfl, hb⟩
        have HP2 : Hid (LitPart w2 w.heap.size n k l) := HP.out.below hb
        have HB2 : Hid (Below w.heap.size w w2) := HB.out.trans (hb.mono hbs)
        obtain ⟨cur, hblk, hsz, _⟩ := HP2.out
        obtain ⟨x0, e0⟩ : ∃ x, w2.cell? ⟨w.heap.size, k * 3, Option.none⟩ = some x := by rw [hblk.cell]; exact ⟨_, Array.getElem?_eq_getElem (by omega)⟩
        obtain ⟨x1, e1⟩ : ∃ x, w2.cell? ⟨w.heap.size, k * 3 + 1, Option.none⟩ = some x := by rw [hblk.cell]; exact ⟨_, Array.getElem?_eq_getElem (by omega)⟩
        obtain ⟨x2, e2⟩ : ∃ x, w2.cell? ⟨w.heap.size, k * 3 + 2, Option.none⟩ = some x := by rw [hblk.cell]; exact ⟨_, Array.getElem?_eq_getElem (by omega)⟩
        have f0 := hblk.free (k * 3)
        have f1 := hblk.free (k * 3 + 1)
        have f2 := hblk.free (k * 3 + 2)
        clear hblk hsz hb d0 d1 d2 HP HB
        go_wp2
        go_roundw
        case rel => exact ⟨k + 1, by omega, by go_num, HS.out _ HP2.out, ((HB2.out.setCell (Nat.le_refl _) _).setCell (Nat.le_refl _) _).setCell (Nat.le_refl _) _⟩
        case measure => simp [intOf]; omega
      · have hkn : k = n := by omega
        subst hkn
        have HF : Hid (LitBlk wr w.heap.size l) := by
          obtain ⟨cur, h1, h2, h3⟩ := HP.out
          have := HL.out
          exact ⟨cur, h1, by omega, fun j hj => h3 j (by omega)⟩
        clear hp hbel hmk
        go_wp2
        go_ret
        exact ⟨rfl, HF.out, HB.out⟩⟩
structure EqColsM (a : Option Addr) (ca : Nat) (b : Option Addr) (cb : Nat) (l : List Lit) : Prop where
  call : ∀ w : World, LitsAt w a l → LitsAt w b l → Calls Try.prog 41 #[.slice a l.length ca, .slice b l.length cb] w fun e w' => e = .returned (.bool true) ∧ Below w.heap.size w w'
set_option maxHeartbeats 8000000 in
theorem eqColsM {a : Option Addr} {ca : Nat} {b : Option Addr} {cb : Nat} {l : List Lit} (hw : ∀ c ∈ l, c.W) (hn : l.length ≤ 1048576) : EqColsM a ca b cb l := ⟨fun w hr1 hr2 => by
  obtain ⟨n, hln⟩ : ∃ n, n = l.length := ⟨_, rfl⟩
  have HL : Hid (n = l.length) := hln
  have HQ : Hid (∀ k, k < n → EqColM (l.getD k default)) := fun k hk => by
    have h := hw (l.getD k default) (by simp [List.getD, show k < l.length by omega])
    exact eqColM h.r h.g h.b
  have R1 : Hid (LitsAt w a l) := hr1
  have R2 : Hid (LitsAt w b l) := hr2
  rw [← hln]
  have hn' : n ≤ 1048576 := by omega
  clear hr1 hr2 hln hn hw
  go_enter Try.func41, Try.ntmps41
  go_wp2
  go_loopw [5] (fun i wr => ∃ k : Nat, k ≤ n ∧ i = .int .i64 k ∧ Below w.heap.size w wr) (fun i _ => n - (intOf i).toNat)
  case atStart => exact ⟨0, by omega, rfl, Below.refl _ _⟩
  case round =>
    obtain ⟨k, hk, rfl, hbel⟩ := hrel
    have HB : Hid (Below w.heap.size w wr) := hbel
    by_cases hlt : k < n
    · rcases R1.out with hnil | ⟨b1, o1, rfl, hR1⟩
      · exfalso
        have := HL.out
        rw [hnil] at this
        simp at this
        omega
      rcases R2.out with hnil | ⟨b2, o2, rfl, hR2⟩
      · exfalso
        have := HL.out
        rw [hnil] at this
        simp at this
        omega
      obtain ⟨d0, d1, d2⟩ := (LitRow.below hR1 hbel) k (by have := HL.out; omega)
      obtain ⟨e0, e1, e2⟩ := (LitRow.below hR2 hbel) k (by have := HL.out; omega)
      have K := HQ.out k hlt
      generalize l.getD k default = c at d0 d1 d2 e0 e1 e2 K
      have hk0 : (0 : Int) ≤ (k : Int) := by omega
      have hk1 : (k : Int) < (n : Int) := by omega
      clear hR1 hR2 hbel
      go_wp2_with fail
      go_still_tail 8, (by kernel_rfl)
      change wpList _ _ _ _ _ wr.drew
      have hd : Below w.heap.size w wr.drew := HB.out.drew
      have hds := hd.size
      have HD : Hid (Below w.heap.size w wr.drew) := hd
      clear hd d0 d1 d2 e0 e1 e2
      generalize wr.drew = wx at HD hds ⊢
      go_wp2_with fail
      refine (K.call _).mono ?_
      rintro e w2 ⟨rfl, hb⟩
      have HB2 : Hid (Below w.heap.size w w2) := HD.out.trans (hb.mono hds)
      clear hb
      go_wp2
      go_roundw
      case rel => exact ⟨k + 1, by omega, by go_num, HB2.out⟩
      case measure => simp [intOf]; omega
    · have hkn : k = n := by omega
      subst hkn
      clear hbel
      go_wp2
      go_ret
      exact ⟨rfl, HB.out⟩⟩
end Go.Proofs.Ytfdgijmmgllmgaa
namespace Go.Proofs.Ytfdgijmmgllmgaa
open Go.ChangeShapes Go.WideShapes Go.ChangeAt Go.RowKit Go.Joins
set_option linter.unusedSimpArgs false
set_option linter.unusedVariables false
set_option maxRecDepth 100000
attribute [local go_sem] store_f
open Ieee
structure SzPic (n : Int) (a : Option Addr) (cap len : Nat) (left r : Int) : Prop where
  call : ∀ w : World, Calls Try.prog 12 #[.agg #[.int .i64 n, .slice a len cap], .int .i64 left] w fun e w' => e = .returned (.int .i64 r) ∧ Below w.heap.size w w'
theorem szCols_yes {a : Option Addr} {cap len : Nat} {left : Int} (h : (len : Int) ≤ left) (h2 : left ≤ 1048576) (w : World) : Calls Try.prog 37 #[.slice a len cap, .int .i64 left] w fun e w' => e = .returned (.int .i64 (left - len)) ∧ w' = w := by
  have h3 : ¬ (left - (len : Int)) < 0 := by omega
  have h4 : decide ((left - (len : Int)) < 0) = false := by simpa using h3
  go_enter Try.func37, Try.ntmps37
  go_wp2
  go_ret
  exact ⟨rfl, rfl⟩
theorem szCols_no {a : Option Addr} {cap len : Nat} {left : Int} (h : left < (len : Int)) (h0 : 0 ≤ left) (hl : (len : Int) ≤ 9223372036854775807) (w : World) : Calls Try.prog 37 #[.slice a len cap, .int .i64 left] w fun e w' => e = .returned (.int .i64 (-1)) ∧ w' = w := by
  have h3 : (left - (len : Int)) < 0 := by omega
  go_enter Try.func37, Try.ntmps37
  go_wp2
  go_ret
  exact ⟨rfl, rfl⟩
theorem szPic_yes {n : Int} {a : Option Addr} {cap len : Nat} {left : Int} (h : (len : Int) ≤ left) (h2 : left ≤ 1048576) : SzPic n a cap len left (left - len) := ⟨fun w => by
  have h3 : ¬ (left - (len : Int)) < 0 := by omega
  have h4 : decide ((left - (len : Int)) < 0) = false := by simpa using h3
  go_enter Try.func12, Try.ntmps12
  go_wp2_with (go_at_call 37; (with_reducible refine (szCols_yes h h2 _).mono ?_); rintro e w1 ⟨rfl, rfl⟩)
  go_ret
  exact ⟨rfl, by (repeat' (first | (with_reducible exact Below.refl _ _) | (with_reducible assumption) | (with_reducible refine Below.alloc ?_ ?_ _) | (with_reducible refine Below.drew ?_) | (with_reducible refine Below.setCell ?_ ?_ _) | (with_reducible refine Below.trans ?_ (Below.mono (by assumption) ?_)) | (with_reducible exact Nat.le_refl _) | omega | (simp only [World.size_alloc, World.size_setCell, World.size_drew]; omega) | (simp; omega) | (simp; done)))⟩⟩
theorem szPic_no {n : Int} {a : Option Addr} {cap len : Nat} {left : Int} (h : left < (len : Int)) (h0 : 0 ≤ left) (hl : (len : Int) ≤ 9223372036854775807) : SzPic n a cap len left (-1) := ⟨fun w => by
  go_enter Try.func12, Try.ntmps12
  go_wp2_with (go_at_call 37; (with_reducible refine (szCols_no h h0 hl _).mono ?_); rintro e w1 ⟨rfl, rfl⟩)
  go_ret
  exact ⟨rfl, by (repeat' (first | (with_reducible exact Below.refl _ _) | (with_reducible assumption) | (with_reducible refine Below.alloc ?_ ?_ _) | (with_reducible refine Below.drew ?_) | (with_reducible refine Below.setCell ?_ ?_ _) | (with_reducible refine Below.trans ?_ (Below.mono (by assumption) ?_)) | (with_reducible exact Nat.le_refl _) | omega | (simp only [World.size_alloc, World.size_setCell, World.size_drew]; omega) | (simp; omega) | (simp; done)))⟩⟩
structure ToPic (n : Int) (a : Option Addr) (cap : Nat) (l : List Lit) : Prop where
  call : ∀ w : World, LitsAt w a l → Calls Try.prog 14 #[.agg #[.int .i64 n, .slice a l.length cap]] w fun e w' => (∃ g, e = .returned (.agg #[.int .i64 n, .slice (some ⟨g, 0, Option.none⟩) l.length l.length]) ∧ w.heap.size ≤ g ∧ LitBlk w' g l) ∧ Below w.heap.size w w'
set_option maxHeartbeats 8000000 in
theorem toPic {n : Int} {a : Option Addr} {cap : Nat} {l : List Lit} (hn : l.length ≤ 1048576) : ToPic n a cap l := ⟨fun w hrow => by
  have T := toCols (a := a) (cap := cap) hn
  have HR : Hid (LitsAt w a l) := hrow
  clear hrow
  go_enter Try.func14, Try.ntmps14
  go_wp2_with fail
  generalize hV : ((w.alloc (.cells #[.int .i64 n, .slice a l.length cap] 38)).alloc (.cells #[.int .i64 0, .slice Option.none 0 0] 26)).alloc (.cells #[.int .i64 n, .slice Option.none 0 0] 26) = V
  have R0 : Hid (Blk V (w.heap.size + 1) #[.int .i64 0, .slice Option.none 0 0] 26) := by rw [← hV]; exact (Blk.newAt (by simp)).alloc
  have P0 : Hid (Blk V (w.heap.size + 1 + 1) #[.int .i64 n, .slice Option.none 0 0] 26) := by rw [← hV]; exact Blk.newAt (by simp)
  have L0 : Hid (LitsAt V a l) := by rw [← hV]; exact LitsAt.below HR.out (by (repeat' (first | (with_reducible exact Below.refl _ _) | (with_reducible assumption) | (with_reducible refine Below.alloc ?_ ?_ _) | (with_reducible refine Below.drew ?_) | (with_reducible refine Below.setCell ?_ ?_ _) | (with_reducible refine Below.trans ?_ (Below.mono (by assumption) ?_)) | (with_reducible exact Nat.le_refl _) | omega | (simp only [World.size_alloc, World.size_setCell, World.size_drew]; omega) | (simp; omega) | (simp; done))))
  have hB : Below w.heap.size w V := by rw [← hV]; (repeat' (first | (with_reducible exact Below.refl _ _) | (with_reducible assumption) | (with_reducible refine Below.alloc ?_ ?_ _) | (with_reducible refine Below.drew ?_) | (with_reducible refine Below.setCell ?_ ?_ _) | (with_reducible refine Below.trans ?_ (Below.mono (by assumption) ?_)) | (with_reducible exact Nat.le_refl _) | omega | (simp only [World.size_alloc, World.size_setCell, World.size_drew]; omega) | (simp; omega) | (simp; done)))
  have HB : Hid (Below w.heap.size w V) := hB
  have hs : V.heap.size = w.heap.size + 3 := by rw [← hV]; simp
  clear hV hB HR
  refine (T.call _ L0.out).mono ?_
  rintro e w1 ⟨rfl, hblk, hb⟩
  have R1 : Hid (Blk w1 (w.heap.size + 1) #[.int .i64 0, .slice Option.none 0 0] 26) := R0.out.below hb
  have P1 : Hid (Blk w1 (w.heap.size + 1 + 1) #[.int .i64 n, .slice Option.none 0 0] 26) := P0.out.below hb
  have HB1 : Hid (Below w.heap.size w w1) := HB.out.trans (hb.mono (by omega))
  have HL1 : Hid (LitBlk w1 V.heap.size l) := hblk
  have hs1 : w.heap.size + 1 + 1 < w1.heap.size := P1.out.lt
  clear hb hblk R0 P0 L0 HB
  rw [hs] at HL1 ⊢
  have p0 := Blk.cellAt (i := 0) P1.out rfl
  have p1 := Blk.cellAt (i := 1) P1.out rfl
  have p2 := P1.out.free 1
  simp only [List.getElem_toArray, List.getElem_cons_zero, List.getElem_cons_succ] at p0 p1
  have r0 := Blk.cellAt (i := 0) R1.out rfl
  have r1 := Blk.cellAt (i := 1) R1.out rfl
  have f0 := R1.out.free 0
  have f1 := R1.out.free 1
  simp only [List.getElem_toArray, List.getElem_cons_zero, List.getElem_cons_succ] at r0 r1
  generalize hY : ((w1.setCell ⟨w.heap.size + 1 + 1, 1, Option.none⟩ (.slice (some ⟨w.heap.size + 3, 0, Option.none⟩) l.length l.length)).setCell ⟨w.heap.size + 1, 0, Option.none⟩ (.int .i64 n)).setCell ⟨w.heap.size + 1, 1, Option.none⟩ (.slice (some ⟨w.heap.size + 3, 0, Option.none⟩) l.length l.length) = Y
  have RY : Hid (Blk Y (w.heap.size + 1) #[.int .i64 n, .slice (some ⟨w.heap.size + 3, 0, Option.none⟩) l.length l.length] 26) := by
    rw [← hY]
    exact Blk.setAt rfl (Blk.setAt rfl (R1.out.other (by dsimp only; omega)) rfl) rfl
  have LY : Hid (LitBlk Y (w.heap.size + 3) l) := by
    rw [← hY]
    obtain ⟨cur, h1, h2⟩ := HL1.out
    exact ⟨cur, (((Blk.other h1 (by dsimp only; omega)).other (by dsimp only; omega)).other (by dsimp only; omega)), h2⟩
  have BY : Hid (Below w.heap.size w Y) := by
    rw [← hY]
    exact ((HB1.out.setCell (by dsimp only; omega) _).setCell (by dsimp only; omega) _).setCell (by dsimp only; omega) _
  have HY : Hid (((w1.setCell ⟨w.heap.size + 1 + 1, 1, Option.none⟩ (.slice (some ⟨w.heap.size + 3, 0, Option.none⟩) l.length l.length)).setCell ⟨w.heap.size + 1, 0, Option.none⟩ (.int .i64 n)).setCell ⟨w.heap.size + 1, 1, Option.none⟩ (.slice (some ⟨w.heap.size + 3, 0, Option.none⟩) l.length l.length) = Y) := hY
  clear hY
  go_wp2
  rw [HY.out]
  have y0 := Blk.cellAt (i := 0) RY.out rfl
  have y1 := Blk.cellAt (i := 1) RY.out rfl
  simp only [List.getElem_toArray, List.getElem_cons_zero, List.getElem_cons_succ] at y0 y1
  exact bodyPost_ret (v := .agg #[.int .i64 n, .slice (some ⟨w.heap.size + 3, 0, Option.none⟩) l.length l.length]) (by simp [results, Try.results14, go_sem, y0, y1]) rfl ⟨⟨_, rfl, by omega, LY.out⟩, BY.out⟩⟩
structure EqPic (n : Int) (a : Option Addr) (ca : Nat) (b : Option Addr) (cb : Nat) (l : List Lit) : Prop where
  call : ∀ w : World, LitsAt w a l → LitsAt w b l → Calls Try.prog 16 #[.agg #[.int .i64 n, .slice a l.length ca], .agg #[.int .i64 n, .slice b l.length cb]] w fun e w' => e = .returned (.bool true) ∧ Below w.heap.size w w'
set_option maxHeartbeats 8000000 in
theorem eqPic {n : Int} {a : Option Addr} {ca : Nat} {b : Option Addr} {cb : Nat} {l : List Lit} (hw : ∀ c ∈ l, c.W) (hn : l.length ≤ 1048576) : EqPic n a ca b cb l := ⟨fun w hr1 hr2 => by
  have E := eqColsM (a := a) (ca := ca) (b := b) (cb := cb) hw hn
  have R1 : Hid (LitsAt w a l) := hr1
  have R2 : Hid (LitsAt w b l) := hr2
  clear hr1 hr2 hw hn
  go_enter Try.func16, Try.ntmps16
  go_wp2_with fail
  refine (E.call _ ((R1.out.alloc).alloc) ((R2.out.alloc).alloc)).mono ?_
  rintro e w1 ⟨rfl, hb⟩
  have HB : Hid (Below w.heap.size w w1) := by
    show Below w.heap.size w w1
    exact Below.trans (by (repeat' (first | (with_reducible exact Below.refl _ _) | (with_reducible assumption) | (with_reducible refine Below.alloc ?_ ?_ _) | (with_reducible refine Below.drew ?_) | (with_reducible refine Below.setCell ?_ ?_ _) | (with_reducible refine Below.trans ?_ (Below.mono (by assumption) ?_)) | (with_reducible exact Nat.le_refl _) | omega | (simp only [World.size_alloc, World.size_setCell, World.size_drew]; omega) | (simp; omega) | (simp; done)))) (hb.mono (by simp; omega))
  clear hb
  go_wp2
  go_ret
  exact ⟨rfl, HB.out⟩⟩
def mkF (z : Int) : Nat := floatOfInt .f32 z
def MarkPart (W : World) (g n k : Nat) (m : Int) : Prop := ∃ cur, Blk W g cur 47 ∧ n * 3 ≤ cur.size ∧ ∀ j : Nat, j < k → cur[j * 3]? = some (.float .f32 (mkF (m + 3 * j))) ∧ cur[j * 3 + 1]? = some (.float .f32 (mkF (m + 3 * j + 1))) ∧ cur[j * 3 + 2]? = some (.float .f32 (mkF (m + 3 * j + 1 + 1)))
theorem MarkPart.step {W : World} {g n k : Nat} {m : Int} (h : MarkPart W g n k m) (hk : k < n) :
    MarkPart (((W.setCell ⟨g, k * 3, Option.none⟩ (.float .f32 (mkF (m + 3 * k)))).setCell ⟨g, k * 3 + 1, Option.none⟩ (.float .f32 (mkF (m + 3 * k + 1)))).setCell ⟨g, k * 3 + 2, Option.none⟩ (.float .f32 (mkF (m + 3 * k + 1 + 1)))) g n (k + 1) m := by
  obtain ⟨cur, hb, hs, hm⟩ := h
  refine ⟨_, Blk.set (Blk.set (Blk.set hb)), by simpa using hs, fun j hj => ?_⟩
  simp only [Array.getElem?_setIfInBounds, Array.size_setIfInBounds]
  by_cases e : j = k
  · subst e
    simp
    omega
  · obtain ⟨h0, h1, h2⟩ := hm j (by omega)
    have e1 : ¬ k * 3 = j * 3 := by omega
    have e2 : ¬ k * 3 + 1 = j * 3 := by omega
    have e3 : ¬ k * 3 + 2 = j * 3 := by omega
    have e4 : ¬ k * 3 = j * 3 + 1 := by omega
    have e5 : ¬ k * 3 + 1 = j * 3 + 1 := by omega
    have e6 : ¬ k * 3 + 2 = j * 3 + 1 := by omega
    have e7 : ¬ k * 3 = j * 3 + 2 := by omega
    have e8 : ¬ k * 3 + 1 = j * 3 + 2 := by omega
    have e9 : ¬ k * 3 + 2 = j * 3 + 2 := by omega
    simp only [e1, e2, e3, e4, e5, e6, e7, e8, e9, if_false, ite_false]
    exact ⟨h0, h1, h2⟩
theorem MarkPart.of {W : World} {g : Nat} {l : List Lit} (h : LitBlk W g l) (m : Int) : MarkPart W g l.length 0 m := by
  obtain ⟨cur, h1, h2, _⟩ := h
  exact ⟨cur, h1, h2, fun j hj => absurd hj (by omega)⟩
theorem MarkPart.below {W w1 : World} {g n k : Nat} {m : Int} (h : MarkPart W g n k m) (hb : Below W.heap.size W w1) : MarkPart w1 g n k m := by
  obtain ⟨cur, h1, h2⟩ := h
  exact ⟨cur, h1.below hb, h2⟩
structure MarkM (g n c : Nat) (m : Int) : Prop where
  call : ∀ w : World, MarkPart w g n 0 m → Calls Try.prog 42 #[.slice (some ⟨g, 0, Option.none⟩) n c, .int .i64 m] w fun e w' => e = .returned (.int .i64 (m + 3 * n)) ∧ MarkPart w' g n n m ∧ w.grownBy w' (some g)
set_option maxHeartbeats 8000000 in
theorem markM {g n c : Nat} {m : Int} (hn : n ≤ 1048576) (hm0 : 0 ≤ m) (hm1 : m ≤ 1000000) : MarkM g n c m := ⟨fun w hp => by
  go_enter Try.func42, Try.ntmps42
  go_wp2
  go_loopw [1, 5] (fun q i wr => ∃ k : Nat, k ≤ n ∧ i = .int .i64 k ∧ q = .int .i64 (m + 3 * (k : Int)) ∧ MarkPart wr g n k m ∧ w.grownBy wr (some g)) (fun _ i _ => n - (intOf i).toNat)
  case atStart => exact ⟨0, by omega, rfl, by simp, hp, grownBy_refl _ _⟩
  case round =>
    obtain ⟨k, hk, rfl, rfl, hpart, hgr⟩ := hrel
    by_cases hlt : k < n
    · have hst := hpart.step hlt
      obtain ⟨cur, hb, hs, hm⟩ := hpart
      obtain ⟨x0, e0⟩ : ∃ x, wr.cell? ⟨g, k * 3, Option.none⟩ = some x := by rw [hb.cell]; exact ⟨_, Array.getElem?_eq_getElem (by omega)⟩
      obtain ⟨x1, e1⟩ : ∃ x, wr.cell? ⟨g, k * 3 + 1, Option.none⟩ = some x := by rw [hb.cell]; exact ⟨_, Array.getElem?_eq_getElem (by omega)⟩
      obtain ⟨x2, e2⟩ : ∃ x, wr.cell? ⟨g, k * 3 + 2, Option.none⟩ = some x := by rw [hb.cell]; exact ⟨_, Array.getElem?_eq_getElem (by omega)⟩
      have f0 := hb.free (k * 3)
      have f1 := hb.free (k * 3 + 1)
      have f2 := hb.free (k * 3 + 2)
      have HG : Hid (w.grownBy wr (some g)) := hgr
      have HS : Hid (MarkPart (((wr.setCell ⟨g, k * 3, Option.none⟩ (.float .f32 (mkF (m + 3 * k)))).setCell ⟨g, k * 3 + 1, Option.none⟩ (.float .f32 (mkF (m + 3 * k + 1)))).setCell ⟨g, k * 3 + 2, Option.none⟩ (.float .f32 (mkF (m + 3 * k + 1 + 1)))) g n (k + 1) m) := hst
      clear hb hm hs hgr hst hp
      go_wp2
      go_roundw
      case rel => exact ⟨k + 1, by omega, by go_num, by first | (go_num; done) | (simp; omega), HS.out, grownBy_set (grownBy_set (grownBy_set HG.out))⟩
      case measure => simp [intOf]; omega
    · have hkn : k = n := by omega
      subst hkn
      have HP : Hid (MarkPart wr g k k m) := hpart
      have HG : Hid (w.grownBy wr (some g)) := hgr
      clear hpart hgr hp
      go_wp2
      go_ret
      exact ⟨rfl, HP.out, HG.out⟩⟩
end Go.Proofs.Ytfdgijmmgllmgaa
