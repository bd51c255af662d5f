/- MendOften holds: however often it crashes while it is mended, it comes to the same. -/
import Derived.Test.YtlpodahldpaniaaOften1
import Derived.Test.YtlpodahldpaniaaAnsB
import Derived.Test.YtlpodahldpaniaaChoose
namespace Go.Proofs.Ytlpodahldpaniaa.B
set_option maxRecDepth 100000
open Go.ChangeShapes Go.WideShapes Go.ChangeAt Go.RowKit

set_option maxHeartbeats 32000000 in
theorem mendOften_go (w : World) (p q r : Pg) (a : Option Addr) (len cap : Nat) (l : List Rc) (safe : Int) (h : LogIn w a len cap l) (sa : Option Addr) (slen scap : Nat) (ns : List Int) (hN : NumsAt w sa slen ns ∧ slen ≤ maxLen) (lay : Int) (hlay : IntKind.i64.has lay) :
    Calls Try.prog 8 #[wdVal p q r (.slice a len cap) safe, .slice sa slen scap, .int .i64 lay] w fun e w' => e = .returned (.bool true) ∧ Ext w w' := by
  have H1 := fun w' (e : Ext w w') => (mendAll_any p q r a len cap l safe w' (h.ext e)).mono fun _ _ ⟨h1, h2⟩ => And.intro h1 h2.all
  have H2 := fun w' (e : Ext w w') => worldError_any p q r a len cap l safe w' (h.recs.ext e) h.le h.max
  have E0 := (Ext.refl w).alloc (.cells (wdCells p q r (.slice a len cap) safe) 28)
  have B0 := Blk.new w w.heap.size (wdCells p q r (.slice a len cap) safe) 28 rfl
  have b0 := B0.cell
  by_cases hx : errOf (worldErr p q r l safe) (mendErr (l.take safe.toNat)) = 0
  · obtain ⟨hz, hme⟩ := errOf_zero hx
    have HC0 : Hid (Comes p q r l safe (mendR (l.take safe.toNat))) := ⟨hz, hme, rfl⟩
    have hm60 := (mend_all hz hme).2.2.1
    rw [hx] at H1
    rw [hz] at H2
    simp only [ansP, ansL, ansS, if_true] at H1
    have hsl := hN.1.1
    have hmaxs := hN.2
    clear hx hz hme
    generalize needR (l.take safe.toNat) = nn at *
    generalize mendR (l.take safe.toNat) = m at *
    have HAll : Hid (∀ P Q R L S a' cap' W, Comes P Q R L S m → LogIn W a' L.length cap' L → Calls Try.prog 20 #[wdVal P Q R (.slice a' L.length cap') S] W fun e w' => Ext W w' ∧ ∃ a2 cap2 n2, e = .returned (.tuple #[wdVal (pgAt (pagesR m) 0) (pgAt (pagesR m) 1) (pgAt (pagesR m) 2) (.slice a2 m.length cap2) (m.length : Nat), .int .i64 n2, .int .i64 0]) ∧ LogIn w' a2 m.length cap2 m) := fun P Q R L S a' cap' W hc hW => by
      have := mendAll_any P Q R a' L.length cap' L S W hW
      rw [hc.all, hc.same] at this
      exact this.mono fun e w' ⟨h1, h2⟩ => ⟨h1, by rcases h2 with ⟨_, a2, cap2, h3, h4, _⟩ | ⟨h3, _⟩; exact ⟨a2, cap2, _, h3, h4⟩; exact absurd rfl h3⟩
    generalize pgAt (pagesR m) 0 = p2 at *
    generalize pgAt (pagesR m) 1 = q2 at *
    generalize pgAt (pagesR m) 2 = r2 at *
    go_enter Try.func8, Try.ntmps8
    go_wp2_with fail
    refine (H1 _ E0).mono ?_
    rintro e w1 ⟨hw, a1, cap1, rfl, L1⟩
    have o1 := (Ext.refl w1).alloc (.cells (wdCells p2 q2 r2 (.slice a1 m.length cap1) (m.length : Nat)) 28)
    have X1 := Blk.new w1 w1.heap.size (wdCells p2 q2 r2 (.slice a1 m.length cap1) (m.length : Nat)) 28 rfl
    have E1 := (E0.trans hw).trans o1
    have B1 := (B0.ext hw).ext o1
    have R1 := L1.ext o1
    have LA1 := LogIn.lt L1
    clear hw o1 b0 B0 E0 H1 L1
    have b1 := B1.cell
    go_wp2_with fail
    refine (H2 _ E1).mono ?_
    rintro e w2 ⟨rfl, hw⟩
    have o2 := hw.alloc (.cells (wdCells p q r (.slice a len cap) safe) 28)
    have E2 := E1.trans o2
    have X2 := X1.ext o2
    have R2 := R1.ext o2
    have Y2 := Blk.new w2 w2.heap.size (wdCells p q r (.slice a len cap) safe) 28 rfl
    have b2 := (B1.ext hw).cell
    have hxy : w1.heap.size < w2.heap.size := (X1.ext hw).lt
    have hye : w.heap.size ≤ w2.heap.size := (E1.trans hw).size
    clear hw o2 b1 B1 E1 H2 X1 R1
    obtain rfl := h.recs.len
    have L2 := h.ext E2
    have HA1 : Hid (∀ ad, a1 = some ad → m ≠ [] → ad.block < w2.heap.size) := fun ad e hm => Nat.lt_of_lt_of_le (LA1 ad e hm) (Nat.le_of_lt hxy)
    go_wp2_with fail
    clear b2 LA1 h
    generalize w2.heap.size = by_ at *
    generalize w1.heap.size = bx at *
    go_loopw [11] (fun i wr => ∃ (k : Nat) (P Q R : Pg) (L : List Rc) (S : Int) (a' : Option Addr) (cap' : Nat), k ≤ ns.length ∧ k ≤ 12 ∧ i = .int .i64 k ∧ Ext w wr ∧ Blk wr bx (wdCells p2 q2 r2 (.slice a1 m.length cap1) (m.length : Nat)) 28 ∧ LogIn wr a1 m.length cap1 m ∧ Blk wr by_ (wdCells P Q R (.slice a' L.length cap') S) 28 ∧ LogIn wr a' L.length cap' L ∧ Hid (Comes P Q R L S m)) (fun i _ => 13 - (intOf i).toNat)
    case atStart => exact ⟨0, p, q, r, l, safe, a, cap, Nat.zero_le _, by omega, rfl, E2, X2, R2, Y2, L2, HC0⟩
    case round =>
      obtain ⟨k, P, Q, R, L, S, a', cap', hk, hk12, rfl, hE, X, RX, Y, LY, HC⟩ := hrel
      by_cases hlt : k < ns.length ∧ k < 12
      · obtain ⟨hl1, hl2⟩ := hlt
        obtain ⟨sb, soff, rfl, hsc, hsk⟩ := (hN.1.ext hE).at hl1
        generalize ns[k] = sk at *
        have i1 : ((k : Int) < (slen : Int)) := by omega
        have i2 : ((k : Int) < 12) := by omega
        go_wp2_with fail
        refine (choose_any lay 8 wr hlay (by decide) (by decide)).mono ?_
        rintro e w3 ⟨rfl, rfl⟩
        have hcn := chooseN_lt lay (n := 8) (by decide)
        generalize chooseN lay 8 = cn at *
        go_wp2_with fail
        have KC : Hid (∀ W', Ext w3 W' → (∀ o, W'.cell? ⟨by_, o, none⟩ = (wdCells P Q R (.slice a' L.length cap') S)[o]?) ∧ W'.cell? ⟨sb, soff + k, none⟩ = some (.int .i64 sk)) := fun W' e => ⟨(Y.ext e).cell, e.cell hsc⟩
        have HCh := fun W' => choose_any sk 4 W' hsk (by decide) (by decide)
        obtain ⟨g1, g2, g3⟩ := HC.out.half (chooseN sk 4) ((((cn : Nat) : Int) + ((k : Nat) : Int)).tmod 2 == 0) ((IntKind.i64.wrap ((((cn : Nat) : Int) + ((k : Nat) : Int)).tdiv 2)).tmod 2 == 0) ((IntKind.i64.wrap ((((cn : Nat) : Int) + ((k : Nat) : Int)).tdiv 4)).tmod 2 == 0)
        have HHalf : Hid (∀ W', Ext w3 W' → ∀ bt, Bools W' (some ⟨bt, 0, none⟩) 3 [((((cn : Nat) : Int) + ((k : Nat) : Int)).tmod 2 == 0), ((IntKind.i64.wrap ((((cn : Nat) : Int) + ((k : Nat) : Int)).tdiv 2)).tmod 2 == 0), ((IntKind.i64.wrap ((((cn : Nat) : Int) + ((k : Nat) : Int)).tdiv 4)).tmod 2 == 0)] → Calls Try.prog 25 #[wdVal P Q R (.slice a' L.length cap') S, .int .i64 (chooseN sk 4 : Nat), .slice (some ⟨bt, 0, none⟩) 3 3] W' fun e w' => Ext W' w' ∧ ∃ a3 cap3, e = .returned (.tuple #[wdVal (laidPg (mendN (chooseN sk 4) (L.take S.toNat)) ((((cn : Nat) : Int) + ((k : Nat) : Int)).tmod 2 == 0) 0 P) (laidPg (mendN (chooseN sk 4) (L.take S.toNat)) ((IntKind.i64.wrap ((((cn : Nat) : Int) + ((k : Nat) : Int)).tdiv 2)).tmod 2 == 0) 1 Q) (laidPg (mendN (chooseN sk 4) (L.take S.toNat)) ((IntKind.i64.wrap ((((cn : Nat) : Int) + ((k : Nat) : Int)).tdiv 4)).tmod 2 == 0) 2 R) (.slice a3 (mendN (chooseN sk 4) (L.take S.toNat)).length cap3) ((mendN (chooseN sk 4) (L.take S.toNat)).length : Nat), .int .i64 0]) ∧ LogIn w' a3 (mendN (chooseN sk 4) (L.take S.toNat)).length cap3 (mendN (chooseN sk 4) (L.take S.toNat)) ∧ ∀ ad, a3 = some ad → W'.heap.size ≤ ad.block) := fun W' e bt hT => by
          have := mendHalf_any P Q R a' L.length cap' L S (chooseN sk 4 : Nat) (some ⟨bt, 0, none⟩) 3 3 [((((cn : Nat) : Int) + ((k : Nat) : Int)).tmod 2 == 0), ((IntKind.i64.wrap ((((cn : Nat) : Int) + ((k : Nat) : Int)).tdiv 2)).tmod 2 == 0), ((IntKind.i64.wrap ((((cn : Nat) : Int) + ((k : Nat) : Int)).tdiv 4)).tmod 2 == 0)] W' (LY.ext e) hT (by decide)
          rw [g1, Int.toNat_natCast] at this
          exact this.mono fun e w' ⟨h1, h2⟩ => ⟨h1, by rcases h2 with ⟨_, a3, cap3, h3, h4, h5⟩ | ⟨h3, _⟩; exact ⟨a3, cap3, h3, h4, h5⟩; exact absurd rfl h3⟩
        have HC2 := (show Hid _ from g2)
        clear g1 g2 HC
        generalize laidPg (mendN (chooseN sk 4) (L.take S.toNat)) ((((cn : Nat) : Int) + ((k : Nat) : Int)).tmod 2 == 0) 0 P = P' at *
        generalize laidPg (mendN (chooseN sk 4) (L.take S.toNat)) ((IntKind.i64.wrap ((((cn : Nat) : Int) + ((k : Nat) : Int)).tdiv 2)).tmod 2 == 0) 1 Q = Q' at *
        generalize laidPg (mendN (chooseN sk 4) (L.take S.toNat)) ((IntKind.i64.wrap ((((cn : Nat) : Int) + ((k : Nat) : Int)).tdiv 4)).tmod 2 == 0) 2 R = R' at *
        generalize mendN (chooseN sk 4) (L.take S.toNat) = m' at *
        generalize chooseN sk 4 = ck at *
        obtain ⟨s', hs'⟩ : ∃ s' : Int, ((m'.length : Nat) : Int) = s' := ⟨_, rfl⟩
        rw [hs'] at HHalf HC2
        clear hs'
        go_cut [13, 14] (fun s13 s14 wx => ∃ (bz : Nat) (az : Option Addr) (cz : Nat), s13 = .pointer (some ⟨bz, 0, none⟩) ∧ s14 = .int .i64 0 ∧ Blk wx bz (wdCells P' Q' R' (.slice az m'.length cz) s') 28 ∧ LogIn wx az m'.length cz m' ∧ Ext w3 wx ∧ (∀ ad, az = some ad → w3.heap.size ≤ ad.block) ∧ w3.heap.size ≤ bz)
        case first =>
          refine often_0 _ _ (fun _ _ d _ _ h => by cases d <;> exact h) w3 P Q R P' Q' R' L m' S s' sk a' cap' by_ sb soff slen scap k cn ck _ _ _ _ _ _ _ _ _ _ _ _ _ _ _ _ _ _ _ _ _ _ _ _ _ _ _ _ _ _ _ _ _ _ _ _ _ _ _ _ _ _ _ _ _ _ _ _ _ _ _ _ _ _ _ _ _ _ _ _ _ _ _ _ _ _ _ _ _ _ _ _ _ _ _ _ _ _ _ _ _ _ _ _ _ _ _ _ (fun s13 s14 u51 u52 u53 u54 u55 u56 u57 u58 u59 u60 u61 u62 u63 u64 u65 u66 u67 u68 u69 u70 u71 u72 wx hrel => ?_) KC.out HHalf.out HCh (by omega)
          dsimp only
          go_step
          go_meet
          case rel => exact hrel
        case rest =>
          obtain ⟨bz, az, cz, rfl, rfl, Zz, Lz, hx, hfz, hbz⟩ := hcut
          have Ey := hE.trans hx
          have Yx := Y.ext hx
          have hyl : by_ < w3.heap.size := Y.lt
          have hxb : bx ≠ by_ := by omega
          have V14 := put14_gr wc by_ (.int .i64 P'.c0) (.int .i64 P'.c1) (.int .i64 P'.c2) (.int .i64 P'.last) (.int .i64 Q'.c0) (.int .i64 Q'.c1) (.int .i64 Q'.c2) (.int .i64 Q'.last) (.int .i64 R'.c0) (.int .i64 R'.c1) (.int .i64 R'.c2) (.int .i64 R'.last) (.slice az m'.length cz) (.int .i64 s')
          have X9 := (X.ext hx).gr V14 (by simpa using hxb)
          have R9 := (RX.ext hx).gr2 V14 (fun ad e hm e2 => by injection e2 with e2; have := HA1.out ad e hm; omega)
          have L9 := Lz.gr2 V14 (fun ad e _ e2 => by injection e2 with e2; have := hfz ad e; omega)
          have Y9 := put14_blk Yx (.int .i64 P'.c0) (.int .i64 P'.c1) (.int .i64 P'.c2) (.int .i64 P'.last) (.int .i64 Q'.c0) (.int .i64 Q'.c1) (.int .i64 Q'.c2) (.int .i64 Q'.last) (.int .i64 R'.c0) (.int .i64 R'.c1) (.int .i64 R'.c2) (.int .i64 R'.last) (.slice az m'.length cz) (.int .i64 s')
          have E9 := put14_ext Ey by_ hye (.int .i64 P'.c0) (.int .i64 P'.c1) (.int .i64 P'.c2) (.int .i64 P'.last) (.int .i64 Q'.c0) (.int .i64 Q'.c1) (.int .i64 Q'.c2) (.int .i64 Q'.last) (.int .i64 R'.c0) (.int .i64 R'.c1) (.int .i64 R'.c2) (.int .i64 R'.last) (.slice az m'.length cz) (.int .i64 s')
          have zc := Zz.cell
          have yc := Yx.cell
          have yf := Yx.fr
          have hzy : bz ≠ by_ := by omega
          clear KC HCh HHalf X RX Y LY Lz hfz V14 Yx
          go_wp2_with fail
          go_roundw
          case rel => exact ⟨k + 1, P', Q', R', m', s', az, cz, by omega, by omega, by go_num, E9, X9, R9, Y9, L9, HC2⟩
          case measure => simp [intOf]; omega
      · have HRest : Calls Try.prog 20 #[wdVal P Q R (.slice a' L.length cap') S] wr _ := HAll.out P Q R L S a' cap' wr HC.out LY
        have yc := Y.cell
        have hsplit : (((k : Int) < (slen : Int)) ∧ ¬ ((k : Int) < 12)) ∨ ¬ ((k : Int) < (slen : Int)) := by omega
        rcases hsplit with ⟨i1, i2⟩ | i1
        all_goals
          go_wp2_with fail
          refine HRest.mono ?_
          rintro e w4 ⟨hw, a4, cap4, n4, rfl, L4⟩
          have o4 := hw.alloc (.cells (wdCells p2 q2 r2 (.slice a4 m.length cap4) (m.length : Nat)) 28)
          have E4 := hE.trans o4
          have X4 := X.ext o4
          have R4 := RX.ext o4
          have V4 := Blk.new w4 w4.heap.size (wdCells p2 q2 r2 (.slice a4 m.length cap4) (m.length : Nat)) 28 rfl
          have L4' := L4.ext ((Ext.refl w4).alloc (.cells (wdCells p2 q2 r2 (.slice a4 m.length cap4) (m.length : Nat)) 28))
          clear hw o4 HRest yc L4
          go_wp2_with fail
          refine (mendBegun_any _).mono ?_
          rintro e w5 ⟨rfl, hw⟩
          have E5 := E4.trans hw
          have x5 := (X4.ext hw).cell
          have v5 := (V4.ext hw).cell
          have R5 := (R4.ext hw).recs
          have L5 := (L4'.ext hw).recs
          clear hw E4 X4 R4 V4 L4'
          go_wp2_with fail
          refine (sameWorlds_eq p2 q2 r2 (m.length : Nat) a4 a1 m.length cap4 cap1 m _ L5 R5 (by omega)).mono ?_
          rintro e w6 ⟨rfl, hw⟩
          go_wp2_with fail
          go_ret
          exact ⟨by simp, E5.trans hw⟩
  · generalize errOf (worldErr p q r l safe) (mendErr (l.take safe.toNat)) = x1 at *
    have hb1 : (x1 != 0) = true := by simpa using hx
    generalize ansP x1 (pgAt (pagesR (mendR (l.take safe.toNat))) 0) = p2 at *
    generalize ansP x1 (pgAt (pagesR (mendR (l.take safe.toNat))) 1) = q2 at *
    generalize ansP x1 (pgAt (pagesR (mendR (l.take safe.toNat))) 2) = r2 at *
    generalize ansS x1 ((mendR (l.take safe.toNat)).length : Nat) = s2 at *
    generalize ansS x1 (needR (l.take safe.toNat) : Nat) = n2 at *
    generalize ansL x1 (mendR (l.take safe.toNat)) = l2 at *
    go_enter Try.func8, Try.ntmps8
    go_wp2_with fail
    refine (H1 _ E0).mono ?_
    rintro e w1 ⟨hw, a1, cap1, rfl, L1⟩
    have o1 := hw.alloc (.cells (wdCells p2 q2 r2 (.slice a1 l2.length cap1) s2) 28)
    have E1 := E0.trans o1
    clear hw o1 b0 B0 E0 H1 L1
    go_wp2_with fail
    refine (mendBegun_any _).mono ?_
    rintro e w3 ⟨rfl, hw⟩
    go_wp2_with fail
    go_ret
    exact ⟨by first | rfl | simp, E1.trans hw⟩

set_option maxRecDepth 100000 in
theorem mendOften_lifted (os : Os) (started : os.Started) (H : Type) (enc : TypeId × Value → H) :
    ReturnsInHanded {} Try.checked os 8 .any (Rows.mendOftenSpec.pre6 enc Try.prog Try.f8 Rows.mendOftenRow.domain false) (Rows.mendOftenSpec.post enc Try.prog Try.f8 false true false false) := by
  refine returnsInHanded_of_change (C := Try.checked) own started (by kernel_rfl) Try.func8
    (ChangeSpec.witness6 (enc := enc) (C := Try.checked) false ⟨#[], #[.agg #[.int .i64 0, .int .i64 0, .int .i64 0, .int .i64 0, .int .i64 0, .int .i64 0, .int .i64 0, .int .i64 0, .int .i64 0, .int .i64 0, .int .i64 0, .int .i64 0, .slice none 0 0, .int .i64 0], .slice none 0 0, .int .i64 0], []⟩ 8 (by kernel_rfl) (by kernel_rfl) (by kernel_rfl) (by kernel_rfl)) ?_
  intro W base args ds gs before hval0 hW hcnd _
  have hval : ∀ (j : Nat) t v, Try.f8.params[j]? = some t → args[j]? = some v → Value.okWide Try.prog W .any base t v := hval0
  have hW' := hW
  obtain ⟨p, q, hA0, hV, rfl, hfz, hnd⟩ := hW
  have hA : DataW.TrodAll enc Try.prog W 0 (fun _ => true) true Try.f8.params.toList args.toList ds p := hA0
  rw [Try.params8] at hA hval
  obtain ⟨v0, vs0, d0, ds0, p0, q0, hargs, rfl, rfl, h0, r0⟩ := trodAll_cons hA
  obtain ⟨v1, vs1, d1, ds1, p1, q1, rfl, rfl, rfl, h1, r1⟩ := trodAll_cons r0
  obtain ⟨v2, vs2, d2, ds2, p2, q2, rfl, rfl, rfl, h2, r2⟩ := trodAll_cons r1
  obtain ⟨rfl, rfl, rfl⟩ := trodAll_nil r2
  obtain rfl : args = #[v0, v1, v2] := by cases args; simp_all
  obtain ⟨rfl, rfl⟩ := trodVars_none hV
  obtain ⟨P0, Q0, R0, x0, len0, cap0, l0, safe0, rfl, s0⟩ := open_wd (hval 0 28 v0 rfl rfl) h0
  obtain ⟨x1, len1, cap1, l1, rfl, s1⟩ := open_ints (hval 1 32 v1 rfl rfl) h1
  obtain ⟨a2, rfl, b2⟩ := open_num (hval 2 3 v2 rfl rfl)
  clear hA0 hval0
  refine (mendOften_go W P0 Q0 R0 x0 len0 cap0 l0 safe0 s0 x1 len1 cap1 l1 s1 a2 b2).mono fun e W' ⟨he, bel⟩ => ?_
  subst he
  exact ⟨_, rfl, _, _, _, [], _, [], hW', trodAll_mk1 (shut_bool Try.underlying4 _),
    (trodAll_cons_mk (Below.trod laidOut (by kernel_rfl) (of_decide_eq_true (by kernel_rfl)) h0 bel (lt_of_trod h0))
    (trodAll_cons_mk (Below.trod laidOut (by kernel_rfl) (of_decide_eq_true (by kernel_rfl)) h1 bel (lt_of_trod h1))
    (trodAll_cons_mk (Below.trod laidOut (by kernel_rfl) (of_decide_eq_true (by kernel_rfl)) h2 bel (lt_of_trod h2))
    trodAll_mk0))), rfl, bel.frame _, fun h => by cases h⟩

theorem mendOften_over : Rows.mendOftenRow.holds Try.pinned (OpenSpec.ofChange Rows.mendOftenSpec) :=
  OpenClaim.holds_of_wide 8 Try.f8 rfl rfl rfl rfl rfl rfl rfl ⟨rfl, rfl, rfl, rfl, rfl⟩ rfl rfl rfl rfl rfl (by kernel_rfl) Try.func8 (by kernel_rfl)
    (of_decide_eq_true (by kernel_rfl)) (by unfold Func.isWrapper; first | (rw [if_pos (by decide +kernel)]; kernel_rfl) | (rw [if_neg (by decide +kernel)]; exact ⟨rfl, rfl⟩))
    (fun os started H enc _ => mendOften_lifted os started H enc)
end Go.Proofs.Ytlpodahldpaniaa.B
namespace Go.Proofs.Ytlpodahldpaniaa
theorem mendOften_holds : Rows.MendOftenSaid := B.mendOften_over
#print axioms mendOften_holds
end Go.Proofs.Ytlpodahldpaniaa

