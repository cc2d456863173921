/-
  The call of FnPictures returns true and writes nothing that was there.
-/
import Derived.Test.YtlnikapkheldeaaK23
import Derived.Test.YtlnikapkheldeaaK09
import Derived.Deep.RegionHeld3
import Derived.Deep.DeepCutAuto
namespace Go.Proofs.Ytlnikapkheldeaa.wFnPictures
open Go.ChangeShapes Go.WideShapes Go.ChangeAt Go.RowKit Go.Joins
set_option linter.unusedSimpArgs false
set_option linter.unusedVariables false
set_option maxRecDepth 100000
attribute [local go_sem] store_f
open Ieee

/-- All that the law asks of a picture and two symmetries. -/
structure Pics (n g0 cap : Nat) (l : List Lit) (t u : Int) (f g : Bool) (m1 m2 : List Lit) (tu bt : Int) (fu bf : Bool) (s s2 : List (Int × Bool)) (c : Int) : Prop where
  a1 : ActPic t f n (some ⟨g0, 0, Option.none⟩) cap l m1
  a2 : ∀ g1 c1, ActPic u g n (some ⟨g1, 0, Option.none⟩) c1 m1 m2
  th : ThenM t f u g tu fu
  a3 : ActPic tu fu n (some ⟨g0, 0, Option.none⟩) cap l m2
  e1 : ∀ g2 c2 g3 c3, SameM n (some ⟨g2, 0, Option.none⟩) c2 m2 n (some ⟨g3, 0, Option.none⟩) c3 m2 true
  bk : BackM t f bt bf
  a4 : ∀ g1 c1, ActPic bt bf n (some ⟨g1, 0, Option.none⟩) c1 m1 l
  e2 : ∀ g5 c5, SameM n (some ⟨g5, 0, Option.none⟩) c5 l n (some ⟨g0, 0, Option.none⟩) cap l true
  sy : PicSymsM n (some ⟨g0, 0, Option.none⟩) cap l s
  mm : MirM n (some ⟨g0, 0, Option.none⟩) cap l c
  s1 : ∀ g1 c1, PicSymsM n (some ⟨g1, 0, Option.none⟩) c1 m1 s2
  len : s2.length = s.length
  few : s.length ≤ 8
  cl : ∀ p ∈ s, ∀ q ∈ s, thenP p q ∈ s
  zero : ((0, false) : Int × Bool) ∈ s
  c0 : 0 ≤ c
  c3 : c ≤ 3
  all : ∀ x ∈ symsTo c 8, x ∈ s
theorem pics_of {n g0 cap t u : Nat} {l : List Lit} (f g : Bool) (h1 : 1 ≤ n) (h8 : n ≤ 8) (hl : l.length = n * n) (hok : Oks l) (ht : t < 4) (hu : u < 4) :
    ∃ m1 m2 tu bt fu bf s s2 c, Pics n g0 cap l t u f g m1 m2 tu bt fu bf s s2 c := by
  have hI := then_in ⟨t, ht⟩ ⟨u, hu⟩ g
  have hJ := back_in ⟨t, ht⟩ f
  dsimp only at hI hJ
  have hp := picB_ok h1 h8 hl hok
  have hm := act_oks (f := f) h8 ht hl hok
  have hpm := picB_ok h1 h8 (act_len n t f l) hm
  have hbnd : ∀ k : List Lit, k.length = n * n → k.length ≤ 1000000000 := fun k hk => by
    have := Nat.mul_le_mul h8 h8; omega
  have same : ∀ (k : List Lit) (a b : Option Addr) (ca cb : Nat), k.length = n * n → Oks k → SameM n a ca k n b cb k true := fun k a b ca cb hk hko => by
    have h := sameM (n := n) (a := a) (ca := ca) (m := n) (b := b) (cb := cb) (k := k) (hbnd k hk)
    rw [(colsEq_ok hko hko rfl).2 rfl] at h
    simpa using h
  have A2 : ∀ g1 c1, ActPic u g n (some ⟨g1, 0, Option.none⟩) c1 (actCols n t f l) _ := fun g1 c1 => actPic g hu hpm
  have A3 := actPic (a := some ⟨g0, 0, Option.none⟩) (cap := cap) (thenF t u f g) hI.2 hp
  have A4 : ∀ g1 c1, ActPic ((backT t f).toNat : Nat) (backF t f) n (some ⟨g1, 0, Option.none⟩) c1 (actCols n t f l) _ := fun g1 c1 => actPic (backF t f) hJ.2 hpm
  simp only [act_back' h8 ht hl] at A4
  rw [← act_act h8 ht hu, ← hI.1] at A3
  rw [← hJ.1] at A4
  have hz := hasAll_zero (picSyms_zero h8 hl hok)
  obtain ⟨k0, k3, kk⟩ := mirN_ge (hasAll (picSyms n l)) hz
  have hle := picSyms_le n l
  exact ⟨_, _, _, _, _, _, _, _, _, actPic f ht hp, A2, ⟨fun w => thenSym_i t u f g w⟩, A3, fun _ _ _ _ => same _ _ _ _ _ (act_len _ _ _ _) (act_oks h8 hu (act_len _ _ _ _) hm), ⟨fun w => backSym_i t f w⟩, A4,
    fun _ _ => same _ _ _ _ _ hl hok, picSymsM hp, mirM (picSymsM hp) (by omega), fun _ _ => picSymsM hpm, picSyms_conj (p := ((t : Int), f)) h8 (all_of f ht) hl hok, hle, fun p hp q hq => picSyms_then h8 hl hok hp hq, picSyms_zero h8 hl hok, k0, k3, hasAll_mem kk⟩

theorem getD_sym {l : List (Int × Bool)} {k : Nat} (h : k < l.length) : l.getD k (0, false) ∈ l := by simp [List.getD, h]
structure HasIs (l : List (Int × Bool)) (g cap : Nat) (t : Int) (f : Bool) : Prop where
  call : ∀ w : World, SymRow w g l → Calls Try.prog 31 #[.slice (some ⟨g, 0, Option.none⟩) l.length cap, .agg #[.int .i64 t, .bool f]] w fun e w' => e = .returned (.bool true) ∧ Below w.heap.size w w'
theorem hasIs {l : List (Int × Bool)} (g cap : Nat) {t : Int} {f : Bool} (hl : l.length ≤ 8) (h : (t, f) ∈ l) : HasIs l g cap t f := ⟨fun w hr => has_yes l g _ cap t f w rfl (by omega) hr h⟩

set_option maxHeartbeats 64000000 in
theorem walk (a : Option Addr) (len cap : Nat) (bs : List Int) (w : World) (hrow : ByteRow w w.heap.size a len bs) :
    Calls Try.prog 4 #[.slice a len cap] w fun e w' => e = .returned (.bool true) ∧ Below w.heap.size w w' := by
  have HBR : Hid (ByteRow w w.heap.size a len bs) := hrow
  clear hrow
  by_cases hl : len ≤ 4096
  · go_enter Try.func4, Try.ntmps4
    go_wp2_with fail
    refine (big_no _ _ _ _ hl).mono ?_
    rintro e w0 ⟨rfl, rfl⟩
    go_wp2_with fail
    refine (drawPicture_s a len cap bs _ HBR.out hl).mono ?_
    rintro e w1 ⟨n, l, g0, cp, ⟨rfl, hrow, hg0, h1, h5, hln, hok, hb1⟩⟩
    have HL1 : Hid (LitRow w1 g0 0 l) := hrow
    have HLN : Hid (l.length = n * n) := hln
    have HOK : Hid (Oks l) := hok
    have B1 : Hid (Below w.heap.size w w1) := hb1
    have s1 := hb1.size
    clear hrow hln hok hb1
    go_wp2_with fail
    generalize hV : w1.alloc (.cells #[.int .i64 n, .slice (some ⟨g0, 0, Option.none⟩) l.length cp] 37) = V
    have PV : Hid (Blk V w1.heap.size #[.int .i64 n, .slice (some ⟨g0, 0, Option.none⟩) l.length cp] 37) := by rw [← hV]; exact Blk.new _ _ _
    have LV : Hid (LitRow V g0 0 l) := by rw [← hV]; exact HL1.out.alloc
    have BV : Hid (Below w.heap.size w V) := by rw [← hV]; exact B1.out.alloc (by omega) _
    have sV : V.heap.size = w1.heap.size + 1 := by rw [← hV]; simp
    have swV : w.heap.size ≤ V.heap.size := by omega
    clear hV HL1 B1
    refine (drawSyms_s a len cap bs _ ((HBR.out.of BV.out).mono swV) hl).mono ?_
    rintro e w2 ⟨i, i2, i3, ⟨rfl, hi, hj, hk, hb2⟩⟩
    have ei : (symK i).1 = ((i % 4 : Nat) : Int) := rfl
    have ej : (symK i2).1 = ((i2 % 4 : Nat) : Int) := rfl
    rw [ei, ej]
    have ht : i % 4 < 4 := by omega
    have hu : i2 % 4 < 4 := by omega
    clear ei ej
    generalize i % 4 = t at ht ⊢
    generalize i2 % 4 = u at hu ⊢
    generalize (symK i).2 = f
    generalize (symK i2).2 = g
    generalize (symK i3).1 = tt3
    generalize (symK i3).2 = ff3
    obtain ⟨m1, m2, tu, bt, fu, bf, s, s2, c, K⟩ := pics_of (g0 := g0) (cap := cp) f g h1 (by omega) HLN.out HOK.out ht hu
    have P2 : Hid (Blk w2 w1.heap.size #[.int .i64 n, .slice (some ⟨g0, 0, Option.none⟩) l.length cp] 37) := PV.out.below hb2
    have L2 : Hid (LitRow w2 g0 0 l) := LV.out.below hb2
    have B2 : Hid (Below w.heap.size w w2) := BV.out.trans (hb2.mono swV)
    have s2' : w1.heap.size + 1 ≤ w2.heap.size := by have := hb2.size; omega
    clear hb2 PV LV BV HBR HOK HLN ht hu hi hj hk sV
    generalize (t : Int) = t at *
    generalize (u : Int) = u at *
    go_wp2_with fail
    generalize hX : ((w2.alloc (.cells #[.int .i64 t, .bool f] 25)).alloc (.cells #[.int .i64 u, .bool g] 25)).alloc (.cells #[.int .i64 tt3, .bool ff3] 25) = X
    have SX : Blk X w2.heap.size #[.int .i64 t, .bool f] 25 := by rw [← hX]; exact ((Blk.new _ _ _).alloc).alloc
    have TX : Blk X (w2.heap.size + 1) #[.int .i64 u, .bool g] 25 := by rw [← hX]; exact (Blk.newAt (by simp)).alloc
    have PX : Hid (Blk X w1.heap.size #[.int .i64 n, .slice (some ⟨g0, 0, Option.none⟩) l.length cp] 37) := by rw [← hX]; exact ((P2.out.alloc).alloc).alloc
    have LX : Hid (LitRow X g0 0 l) := by rw [← hX]; exact ((L2.out.alloc).alloc).alloc
    have BX : Hid (Below w.heap.size w X) := by rw [← hX]; exact ((B2.out.alloc (by omega) _).alloc (by simp; omega) _).alloc (by simp; omega) _
    have sX : X.heap.size = w2.heap.size + 3 := by rw [← hX]; simp
    have SXH : Hid (Blk X w2.heap.size #[.int .i64 t, .bool f] 25) := SX
    have hLX : LitsAt X (some ⟨g0, 0, Option.none⟩) l := Or.inr ⟨g0, 0, rfl, LX.out⟩
    have hBX : Below X.heap.size X X := Below.refl _ _
    have hzX := Nat.le_refl X.heap.size
    have lt1 : w1.heap.size < X.heap.size := by omega
    have lt2 : w2.heap.size < X.heap.size := by omega
    have lt3 : w2.heap.size + 1 < X.heap.size := by omega
    have p0 := Blk.cellAt (i := 0) PX.out rfl
    have p1 := Blk.cellAt (i := 1) PX.out rfl
    have c0 := Blk.cellAt (i := 0) SX rfl
    have c1 := Blk.cellAt (i := 1) SX rfl
    have c2 := Blk.cellAt (i := 0) TX rfl
    have c3 := Blk.cellAt (i := 1) TX rfl
    simp only [List.getElem_toArray, List.getElem_cons_zero, List.getElem_cons_succ] at p0 p1 c0 c1 c2 c3
    clear hX P2 L2 B2 SX TX s1 s2' sX
    generalize w2.heap.size + 1 = n5 at *
    generalize w2.heap.size = n4 at *
    generalize w1.heap.size = n3 at *
    go_cut [45] (fun sl wx => sl = .bool false ∧ Below X.heap.size X wx)
    case first =>
      go_region_held3 (fun wx => LitsAt wx (some ⟨g0, 0, Option.none⟩) l ∧ Below X.heap.size X wx ∧ X.heap.size ≤ wx.heap.size ∧ n3 < wx.heap.size ∧ n4 < wx.heap.size ∧ n5 < wx.heap.size ∧ wx.cell? ⟨n4, 0, Option.none⟩ = some (.int .i64 (t)) ∧ wx.cell? ⟨n4, 1, Option.none⟩ = some (.bool (f)) ∧ wx.cell? ⟨n5, 0, Option.none⟩ = some (.int .i64 (u)) ∧ wx.cell? ⟨n5, 1, Option.none⟩ = some (.bool (g)) ∧ wx.cell? ⟨n3, 0, Option.none⟩ = some (.int .i64 n) ∧ wx.cell? ⟨n3, 1, Option.none⟩ = some (.slice (some ⟨g0, 0, Option.none⟩) l.length cp))
        (((repeat' apply And.intro) <;> first | (with_reducible assumption) | ((repeat (first | (with_reducible assumption) | (with_reducible exact And.left (by assumption)) | (with_reducible refine LitsAt.drew ?_) | (with_reducible refine LitsAt.below ?_ hb) | (with_reducible refine LitsAt.alloc ?_))); done) | (((repeat (first | (with_reducible assumption) | (with_reducible exact cNewAt (by first | rfl | (simp only [World.size_alloc, World.size_setCell, World.size_drew]; done) | omega) rfl) | (with_reducible exact sNewAt (by first | rfl | (simp only [World.size_alloc, World.size_setCell, World.size_drew]; done) | omega) rfl) | (simp; done) | (with_reducible apply cAlloc) | (with_reducible apply cDrew) | (with_reducible refine cSet (by dsimp only; omega) ?_) | (with_reducible refine cSetOff (by dsimp only; omega) ?_) | (with_reducible apply cSame) | (with_reducible refine cBelow (by assumption) ?_) | (with_reducible apply sAlloc) | (with_reducible apply sDrew) | (with_reducible refine sBelow (by assumption) ?_) | (with_reducible refine sSet (by dsimp only; omega) ?_))); first | done | (simp [*]; done)); done) | (simp only [World.size_alloc, World.size_setCell, World.size_drew]; omega) | omega | (go_keep; done) | ((repeat' (first | (with_reducible exact Below.refl _ _) | (with_reducible assumption) | (with_reducible refine Below.alloc ?_ ?_ _) | (with_reducible refine Below.drew ?_) | (with_reducible refine Below.setCell ?_ ?_ _) | (with_reducible refine Below.trans ?_ (Below.mono (by assumption) ?_)) | (with_reducible exact Nat.le_refl _) | omega | (simp only [World.size_alloc, World.size_setCell, World.size_drew]; omega) | (simp; omega) | (simp; done))); done)))
        (first | (go_at_call 29; (with_reducible refine (K.a1.call _ ?_).mono ?_); (next => exact And.left (by assumption)); rintro e wA ⟨⟨gA, cA, ⟨rfl, hoA⟩⟩, hb⟩; have hM1 : LitsAt wA (some ⟨gA, 0, Option.none⟩) m1 := Or.inr ⟨gA, 0, rfl, litRow_of hoA rfl⟩; have hbs := hb.size; try simp only [World.size_alloc, World.size_setCell, World.size_drew] at hbs) | (go_at_call 29; (with_reducible refine ((K.a2 _ _).call _ hM1).mono ?_); rintro e wA ⟨⟨gB, cB, ⟨rfl, hoA⟩⟩, hb⟩; have hM2 : LitsAt wA (some ⟨gB, 0, Option.none⟩) m2 := Or.inr ⟨gB, 0, rfl, litRow_of hoA rfl⟩; have hbs := hb.size; try simp only [World.size_alloc, World.size_setCell, World.size_drew] at hbs) | (go_at_call 29; (with_reducible refine (K.a3.call _ ?_).mono ?_); (next => exact And.left (by assumption)); rintro e wA ⟨⟨gC, cC, ⟨rfl, hoA⟩⟩, hb⟩; have hM3 : LitsAt wA (some ⟨gC, 0, Option.none⟩) m2 := Or.inr ⟨gC, 0, rfl, litRow_of hoA rfl⟩; have hM2 := LitsAt.below hM2 hb; have hbs := hb.size; try simp only [World.size_alloc, World.size_setCell, World.size_drew] at hbs) | (go_at_call 29; (with_reducible refine ((K.a4 _ _).call _ hM1).mono ?_); rintro e wA ⟨⟨gD, cD, ⟨rfl, hoA⟩⟩, hb⟩; have hM4 : LitsAt wA (some ⟨gD, 0, Option.none⟩) l := Or.inr ⟨gD, 0, rfl, litRow_of hoA rfl⟩; have hbs := hb.size; try simp only [World.size_alloc, World.size_setCell, World.size_drew] at hbs) | (go_at_call 25; (with_reducible refine (K.th.call _).mono ?_); rintro e wA ⟨rfl, hb⟩; have hM2 := LitsAt.below hM2 hb; have hbs := hb.size; try simp only [World.size_alloc, World.size_setCell, World.size_drew] at hbs) | (go_at_call 26; (with_reducible refine (K.bk.call _).mono ?_); rintro e wA ⟨rfl, hb⟩; have hbs := hb.size; try simp only [World.size_alloc, World.size_setCell, World.size_drew] at hbs) | (go_at_call 28; (with_reducible refine ((K.e1 _ _ _ _).call _ hM2 hM3).mono ?_); rintro e wA ⟨rfl, hb⟩; have hbs := hb.size; try simp only [World.size_alloc, World.size_setCell, World.size_drew] at hbs) | (go_at_call 28; (with_reducible refine ((K.e2 _ _).call _ hM4 ?_).mono ?_); (next => exact And.left (by assumption)); rintro e wA ⟨rfl, hb⟩; have hbs := hb.size; try simp only [World.size_alloc, World.size_setCell, World.size_drew] at hbs))
      all_goals
        rename_i hHeld
        have hz := hHeld.2.1
        go_wp2_with fail
        go_meet
        exact ⟨rfl, hz⟩
    case rest =>
      obtain ⟨rfl, hbY⟩ := hcut
      clear hLX hBX hzX p0 p1 c0 c1 c2 c3
      have PY : Hid (Blk wc n3 #[.int .i64 n, .slice (some ⟨g0, 0, Option.none⟩) l.length cp] 37) := PX.out.below hbY
      have LY : Hid (LitRow wc g0 0 l) := LX.out.below hbY
      have SY : Hid (Blk wc n4 #[.int .i64 t, .bool f] 25) := SXH.out.below hbY
      have BY : Hid (Below w.heap.size w wc) := BX.out.trans (hbY.mono BX.out.size)
      have p0 := Blk.cellAt (i := 0) PY.out rfl
      have p1 := Blk.cellAt (i := 1) PY.out rfl
      simp only [List.getElem_toArray, List.getElem_cons_zero, List.getElem_cons_succ] at p0 p1
      have sY := BY.out.size
      clear PX LX SXH BX hbY
      go_wp2_with fail
      refine (K.sy.call _ (Or.inr ⟨g0, 0, rfl, LY.out⟩)).mono ?_
      rintro e w3 ⟨⟨gl, cl, ⟨rfl, hown⟩⟩, hb⟩
      have P3 : Hid (Blk w3 n3 #[.int .i64 n, .slice (some ⟨g0, 0, Option.none⟩) l.length cp] 37) := PY.out.below hb
      have L3 : Hid (LitRow w3 g0 0 l) := LY.out.below hb
      have S3 : Hid (Blk w3 n4 #[.int .i64 t, .bool f] 25) := SY.out.below hb
      have R3 : Hid (SymRow w3 gl s) := symRow_of hown rfl
      have B3 : Hid (Below w.heap.size w w3) := BY.out.trans (hb.mono sY)
      have s3 := B3.out.size
      have hfew := K.few
      have HCL : Hid (∀ p ∈ s, ∀ q ∈ s, HasIs s gl cl (thenT p.1 q.1 q.2) (thenF p.1 q.1 p.2 q.2)) := fun p hp q hq => hasIs gl cl K.few (K.cl p hp q hq)
      have HZ : Hid (HasIs s gl cl 0 false) := hasIs gl cl K.few K.zero
      have HALL : Hid (∀ x ∈ symsTo c 8, HasIs s gl cl x.1 x.2) := fun x hx => hasIs gl cl K.few (K.all x hx)
      clear hb hown PY LY SY BY sY p0 p1
      go_wp2_with fail
      go_loopw [8] (fun i wr => ∃ k : Nat, k ≤ s.length ∧ i = .int .i64 k ∧ Below w3.heap.size w3 wr) (fun i _ => s.length - (intOf i).toNat)
      case atStart => exact ⟨0, by omega, rfl, by have := Below.refl w3.heap.size w3; exact this⟩
      case round =>
        obtain ⟨k, hk, rfl, hbel⟩ := hrel
        have HB : Hid (Below w3.heap.size w3 wr) := hbel
        have hbs := hbel.size
        clear hbel
        by_cases hlt : k < s.length
        · have hpm := getD_sym hlt
          go_wp2_with fail
          obtain ⟨wo, hwo⟩ : ∃ wo : World, wo = wr := ⟨_, rfl⟩
          go_loopw [9] (fun i wq => ∃ j : Nat, j ≤ s.length ∧ i = .int .i64 j ∧ Below w3.heap.size w3 wq) (fun i _ => s.length - (intOf i).toNat)
          case atStart => exact ⟨0, by omega, rfl, HB.out⟩
          case round =>
            obtain ⟨j, hj, rfl, hbel⟩ := hrel
            have HB3 : Hid (Below w3.heap.size w3 wr) := hbel
            have hbs3 := hbel.size
            have HS3 : Hid (SymRow wr gl s) := R3.out.below hbel
            clear hbel
            by_cases hjt : j < s.length
            · have hqm := getD_sym hjt
              obtain ⟨p0, p1⟩ := HS3.out k hlt
              obtain ⟨q0, q1⟩ := HS3.out j hjt
              generalize hp : s.getD k (0, false) = p at hpm p0 p1
              generalize hq : s.getD j (0, false) = q at hqm q0 q1
              clear hp hq
              have HT := HCL.out p hpm q hqm
              have hk0 : (0 : Int) ≤ (k : Int) := by omega
              have hk1 : (k : Int) < (s.length : Int) := by omega
              have hj0 : (0 : Int) ≤ (j : Int) := by omega
              have hj1 : (j : Int) < (s.length : Int) := by omega
              go_wp2_with fail
              go_region_with (first | (go_at_call 25; refine (thenSym_i _ _ _ _ _).mono ?_; rintro e w5 ⟨rfl, hb5⟩; have HS5 : Hid (SymRow w5 gl s) := (show SymRow wr.drew gl s from HS3.out).below hb5; have HB5 : Hid (Below w3.heap.size w3 w5) := HB3.out.drew.trans (hb5.mono hbs3); have hd5 := HB5.out.size; clear hb5) | (go_at_call 31; refine (HT.call _ HS5.out).mono ?_; rintro e w6 ⟨rfl, hb6⟩; have HB6 : Hid (Below w3.heap.size w3 w6) := HB5.out.trans (hb6.mono hd5); clear hb6))
              all_goals
                go_wp2
                go_roundw
                case rel => exact ⟨j + 1, by omega, by go_num, HB6.out⟩
                case measure => simp [intOf]; omega
            · have hjl : ¬ (j : Int) < (s.length : Int) := by omega
              go_wp2
              go_roundw
              case rel => exact ⟨k + 1, by omega, by go_num, HB3.out⟩
              case measure => simp [intOf]; omega
        · have hkl : ¬ (k : Int) < (s.length : Int) := by omega
          have P4 := P3.out.below HB.out
          have L4 := L3.out.below HB.out
          have p0 := Blk.cellAt (i := 0) P4 rfl
          have p1 := Blk.cellAt (i := 1) P4 rfl
          simp only [List.getElem_toArray, List.getElem_cons_zero, List.getElem_cons_succ] at p0 p1
          clear P4
          go_wp2_with fail
          refine (K.mm.call _ (Or.inr ⟨g0, 0, rfl, L4⟩)).mono ?_
          rintro e w4 ⟨rfl, hb⟩
          have HB4 : Hid (Below w3.heap.size w3 w4) := HB.out.trans (hb.mono hbs)
          have hs4 := HB4.out.size
          have R4 : Hid (SymRow w4 gl s) := R3.out.below HB4.out
          have hc0 := K.c0
          have hc3 := K.c3
          clear hb L4 p0 p1
          go_wp2_with fail
          refine (HZ.out.call _ R4.out).mono ?_
          rintro e w5 ⟨rfl, hb⟩
          have HB5 : Hid (Below w3.heap.size w3 w5) := HB4.out.trans (hb.mono hs4)
          have hs5 := HB5.out.size
          clear hb R4
          go_wp2_with fail
          refine (symsOf_i c _).mono ?_
          rintro e w6 ⟨gm, cm, rfl, own, hb⟩
          have HM : Hid (SymRow w6 gm (symsTo c 8)) := symRow_of own rfl
          have HB6 : Hid (Below w3.heap.size w3 w6) := HB5.out.trans (hb.mono hs5)
          have hs6 := HB6.out.size
          have hm8 := symsTo_le c 8
          generalize symsTo c 8 = m at *
          clear hb own
          go_wp2_with fail
          go_loopw [12] (fun i wq => ∃ j : Nat, j ≤ m.length ∧ i = .int .i64 j ∧ Below w6.heap.size w6 wq) (fun i _ => m.length - (intOf i).toNat)
          case atStart => exact ⟨0, by omega, rfl, by have := Below.refl w6.heap.size w6; exact this⟩
          case round =>
            obtain ⟨j, hj, rfl, hbel⟩ := hrel
            have HB7 : Hid (Below w6.heap.size w6 wr) := hbel
            have hbs7 := hbel.size
            have HB73 : Hid (Below w3.heap.size w3 wr) := HB6.out.trans (hbel.mono hs6)
            by_cases hjt : j < m.length
            · have hqm := getD_sym hjt
              obtain ⟨q0, q1⟩ := HM.out.below hbel j hjt
              generalize m.getD j (0, false) = q at hqm q0 q1
              have HT := HALL.out q hqm
              have R7 : Hid (SymRow wr gl s) := R3.out.below HB73.out
              clear hbel
              go_wp2_with fail
              refine (HT.call _ R7.out).mono ?_
              rintro e w8 ⟨rfl, hb⟩
              have HB8 : Hid (Below w6.heap.size w6 w8) := HB7.out.trans (hb.mono hbs7)
              clear hb q0 q1
              go_wp2
              go_roundw
              case rel => exact ⟨j + 1, by omega, by go_num, HB8.out⟩
              case measure => simp [intOf]; omega
            · have hjl : ¬ (j : Int) < (m.length : Int) := by omega
              have P8 := P3.out.below HB73.out
              have L8 := L3.out.below HB73.out
              have S8 := S3.out.below HB73.out
              have p0 := Blk.cellAt (i := 0) P8 rfl
              have p1 := Blk.cellAt (i := 1) P8 rfl
              have t0 := Blk.cellAt (i := 0) S8 rfl
              have t1 := Blk.cellAt (i := 1) S8 rfl
              simp only [List.getElem_toArray, List.getElem_cons_zero, List.getElem_cons_succ] at p0 p1 t0 t1
              have B8 : Hid (Below w.heap.size w wr) := B3.out.trans (HB73.out.mono s3)
              have s8 := B8.out.size
              clear P8 S8 hbel
              go_wp2_with fail
              refine (K.a1.call _ (Or.inr ⟨g0, 0, rfl, L8⟩)).mono ?_
              rintro e w9 ⟨⟨g9, c9, ⟨rfl, hown9⟩⟩, hb⟩
              have L9 : LitsAt w9 (some ⟨g9, 0, Option.none⟩) m1 := Or.inr ⟨g9, 0, rfl, litRow_of hown9 rfl⟩
              have B9 : Hid (Below w.heap.size w w9) := B8.out.trans (hb.mono s8)
              have s9 := B9.out.size
              clear hb hown9 L8 p0 p1 t0 t1
              go_wp2_with fail
              refine ((K.s1 _ _).call _ L9).mono ?_
              rintro e w10 ⟨⟨g10, c10, ⟨rfl, hown10⟩⟩, hb⟩
              have B10 : Hid (Below w.heap.size w w10) := B9.out.trans (hb.mono s9)
              have hlen := K.len
              have heq : ((s2.length : Int) == (s.length : Int)) = true := by rw [hlen]; simp
              have heq2 : decide (s2.length = s.length) = true := by simp [hlen]
              clear hb hown10 L9 hlen
              go_wp2
              go_ret
              exact ⟨rfl, B10.out⟩
  · go_enter Try.func4, Try.ntmps4
    go_wp2_with fail
    refine (big_yes _ _ _ _ hl).mono ?_
    rintro e w0 ⟨rfl, rfl⟩
    go_wp2
    all_goals (go_returns; exact ⟨rfl, by (repeat' (first | (with_reducible exact Below.refl _ _) | (with_reducible assumption) | (with_reducible refine Below.alloc ?_ ?_ _) | (with_reducible refine Below.drew ?_) | (with_reducible refine Below.setCell ?_ ?_ _) | (with_reducible refine Below.trans ?_ (Below.mono (by assumption) ?_)) | (with_reducible exact Nat.le_refl _) | omega | (simp only [World.size_alloc, World.size_setCell, World.size_drew]; omega) | (simp; omega) | (simp; done)))⟩)
end Go.Proofs.Ytlnikapkheldeaa.wFnPictures
