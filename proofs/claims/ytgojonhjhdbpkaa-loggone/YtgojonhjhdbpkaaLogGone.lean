/- LogGone holds: a Txn that is over without a Commit has turned nothing. -/
import Derived.Test.YtgojonhjhdbpkaaStateAns
import Derived.Test.YtgojonhjhdbpkaaMapSeen
namespace Go.Proofs.Ytgojonhjhdbpkaa.B
set_option maxRecDepth 100000
open Go.ChangeShapes Go.WideShapes Go.ChangeAt Go.RowKit

theorem Blk.only {w w' : World} {k r : Nat} {c : Array Value} {t : TypeId} (h : Blk w k c t) (o : Only r w w') (hn : k ≠ r) : Blk w' k c t := by
  unfold Blk at h ⊢
  rw [o.block k hn]; exact h
theorem stateAns_in {l : List Rc} (h : logErr l = 0) {t : Int} (h1 : 1 ≤ t ∧ t ≤ 9) : stateAns l t = (stateR l t, ((lastR l t : Nat) : Int), 0) := by
  unfold stateAns
  rw [if_pos h, out_one]
  have : wi t 1 9 = true := by simp [wi, h1.1, h1.2]
  rw [this]; rfl
set_option maxHeartbeats 1000000 in
set_option maxRecDepth 100000 in
theorem logGone_bad (w : World) (a : Option Addr) (len cap : Nat) (l : List Rc) (hR : Recs w a len l) (hm : len ≤ maxLen) (c : Int) (h0 : logErr l ≠ 0 ∨ len = 0) :
    Calls Try.prog 7 #[.slice a len cap, .int .i64 c] w fun e w' => e = .returned (.bool true) ∧ Ext w w' := by
  have H1 := fun w' (e : Ext w w') => logCheck_any a len cap l w' (hR.ext e) hm
  by_cases hz : logErr l = 0
  · have hl : len = 0 := by rcases h0 with h | h; exact absurd hz h; exact h
    rw [hz] at H1
    subst hl
    go_enter Try.func7, Try.ntmps7
    go_wp2_with fail
    refine (H1 w (Ext.refl w)).mono ?_
    rintro e w1 ⟨rfl, E1⟩
    go_wp2_with fail
    refine (logBegun_any _).mono ?_
    rintro e w3 ⟨rfl, hw3⟩
    go_wp2_with fail
    go_ret
    exact ⟨rfl, E1.trans hw3⟩
  · have hb : (logErr l != 0) = true := by simpa using hz
    generalize logErr l = x at *
    go_enter Try.func7, Try.ntmps7
    go_wp2_with fail
    refine (H1 w (Ext.refl w)).mono ?_
    rintro e w1 ⟨rfl, E1⟩
    go_wp2_with fail
    refine (logBegun_any _).mono ?_
    rintro e w3 ⟨rfl, hw3⟩
    go_wp2_with fail
    go_ret
    exact ⟨rfl, E1.trans hw3⟩
set_option maxHeartbeats 1000000 in
set_option maxRecDepth 100000 in
theorem logGone_go (w : World) (a : Option Addr) (len cap : Nat) (l : List Rc) (h : Recs w a len l ∧ len ≤ cap ∧ len ≤ maxLen) (c : Int) (bc : IntKind.i64.has c) :
    Calls Try.prog 7 #[.slice a len cap, .int .i64 c] w fun e w' => e = .returned (.bool true) ∧ Ext w w' := by
  obtain ⟨hR, hc, hm⟩ := h
  by_cases h0 : logErr l = 0
  case neg => exact logGone_bad w a len cap l hR hm c (Or.inl h0)
  by_cases hl0 : len = 0
  · exact logGone_bad w a len cap l hR hm c (Or.inr hl0)
  have H1 := fun w' (e : Ext w w') => logCheck_any a len cap l w' (hR.ext e) hm
  rw [h0] at H1
  obtain ⟨h60, hRt⟩ := logErr_zero h0
  have HRt := (show Hid _ from hRt)
  have hlen := hR.len
  have hn := chooseN_lt c (n := len) (by omega)
  have HC1 := choose_any c len
  generalize chooseN c len = m at *
  have hml : m < l.length := by omega
  have HZ := (show Hid (l[m]? = some l[m]) from List.getElem?_eq_getElem hml)
  have htx := right_txn l hRt l[m] (List.getElem_mem hml)
  have S1 := stateAns_in (logErr_pre h0 m) htx
  have H3 := fun w' (e : Ext w w') => logState_any a m cap (l.take m) l[m].txn w' ((hR.ext e).take m (by omega)) (by omega)
  rw [S1] at H3
  clear S1
  have H4 := fun w' (e : Ext w w') => logPages_any a (m + 1) cap (l.take (m + 1)) w' ((hR.ext e).take (m + 1) (by omega)) (by omega)
  have hps : pagesOrNone (l.take (m + 1)) = pagesR (l.take (m + 1)) := by unfold pagesOrNone; rw [if_pos (logErr_pre h0 (m + 1))]
  rw [hps, logErr_pre h0 (m + 1)] at H4
  clear hps
  obtain ⟨a0, a1, a2, a3, a4, a5, a6, a7, a8, a9, a10, a11, hps⟩ := list12 _ (pagesR_len (l.take (m + 1)))
  have HPQ := (show Hid _ from hps)
  rw [hps] at H4
  clear hps
  have hq : ints [a0, a1, a2, a3, a4, a5, a6, a7, a8, a9, a10, a11] = #[.int .i64 a0, .int .i64 a1, .int .i64 a2, .int .i64 a3, .int .i64 a4, .int .i64 a5, .int .i64 a6, .int .i64 a7, .int .i64 a8, .int .i64 a9, .int .i64 a10, .int .i64 a11] := rfl
  rw [hq, Nat.add_comm m 1] at H4
  clear hq h0 hRt
  have HR2 := (show Hid _ from hR)
  obtain ⟨bl, ol, rfl, _, z0, z1, z2, z3, z4, z5, z6, z7⟩ := hR.at hn
  generalize l[m] = z at *
  obtain ⟨zk, zt, zp, zg, zc, zo, zn, zx⟩ := z
  dsimp only at z0 z1 z2 z3 z4 z5 z6 z7 H3 htx
  have HS : Hid (stateR (l.take m) zt = stateR (l.take m) zt) := rfl
  generalize hst : stateR (l.take m) zt = st at *
  have HST := (show Hid _ from hst)
  clear hst HS
  have q1 : ((len : Int) == 0) = false := by simp; omega
  have q2 : ¬ (60 < (len : Int)) := by omega
  go_enter Try.func7, Try.ntmps7
  go_wp2_with fail
  refine (H1 w (Ext.refl w)).mono ?_
  rintro e w1 ⟨rfl, E1⟩
  go_wp2_with fail
  refine (HC1 _ bc (by omega) (by omega)).mono ?_
  rintro e w2 ⟨rfl, rfl⟩
  have z0' := E1.cell z0
  have z1' := E1.cell z1
  have z2' := E1.cell z2
  have z3' := E1.cell z3
  have z4' := E1.cell z4
  have z5' := E1.cell z5
  have z6' := E1.cell z6
  have z7' := E1.cell z7
  clear z0 z1 z2 z3 z4 z5 z6 z7
  go_wp2_with fail
  have T := Blk.new w2 w2.heap.size #[.int .i64 zk, .int .i64 zt, .int .i64 zp, .int .i64 zg, .int .i64 zc, .int .i64 zo, .int .i64 zn, .int .i64 zx] 39 rfl
  replace E1 := E1.alloc (.cells #[.int .i64 zk, .int .i64 zt, .int .i64 zp, .int .i64 zg, .int .i64 zc, .int .i64 zo, .int .i64 zn, .int .i64 zx] 39)
  generalize hzb : w2.heap.size = zb at *
  generalize w2.alloc (.cells #[.int .i64 zk, .int .i64 zt, .int .i64 zp, .int .i64 zg, .int .i64 zc, .int .i64 zo, .int .i64 zn, .int .i64 zx] 39) = W at *
  clear z0' z1' z2' z3' z4' z5' z6' z7' hzb
  obtain ⟨F, hF⟩ := calm_there W
  have KC : Hid (∀ w', Ext W w' → ∃ v, w' = F v) := fun w' e => ⟨w', (hF.same w' e).symm⟩
  have tc := hF.cell T
  refine wp_region_line (S := fun w' => ∃ v, w' = F v) [6] (by kernel_rfl) (by kernel_rfl) (fun c a d v w h => by cases d <;> exact h) (by kernel_rfl) (KC.out _ (Ext.refl W).drew) ?_
  simp only [cutL, List.drop_succ_cons, List.drop_zero, List.take_succ_cons, List.take_zero]
  have F0 := (Ext.refl W).drew
  refine wpLine_cons ?_
  repeat (go_big_quiet_step (fail))
  refine wpQuiet_nil ?_
  intro K hK
  rw [if_pos (by kernel_rfl)]
  go_simp
  refine (H3 _ (E1.trans F0)).mono ?_
  rintro e v1 ⟨rfl, hw⟩
  have F1 := F0.trans hw
  go_wp2_with fail
  refine hK.out _ _ (KC.out _ F1) (fun _ => ?_)
  clear hK K
  refine wpLine_nil ?_
  repeat (go_big_quiet_step (fail))
  refine wpQuiet_nil ?_
  replace T := T.ext F1
  have E2 := E1.trans F1
  clear KC tc hF F0 F1 hw E1 H3 H1 HC1
  go_wp2_with fail
  refine (H4 _ E2).mono ?_
  rintro e w3 ⟨rfl, hw⟩
  replace T := T.ext hw
  have E3 := E2.trans hw
  have P := Blk.new w3 w3.heap.size #[.int .i64 a0, .int .i64 a1, .int .i64 a2, .int .i64 a3, .int .i64 a4, .int .i64 a5, .int .i64 a6, .int .i64 a7, .int .i64 a8, .int .i64 a9, .int .i64 a10, .int .i64 a11] 30 rfl
  replace E3 := E3.alloc (.cells #[.int .i64 a0, .int .i64 a1, .int .i64 a2, .int .i64 a3, .int .i64 a4, .int .i64 a5, .int .i64 a6, .int .i64 a7, .int .i64 a8, .int .i64 a9, .int .i64 a10, .int .i64 a11] 30)
  replace T := T.alloc (.cells #[.int .i64 a0, .int .i64 a1, .int .i64 a2, .int .i64 a3, .int .i64 a4, .int .i64 a5, .int .i64 a6, .int .i64 a7, .int .i64 a8, .int .i64 a9, .int .i64 a10, .int .i64 a11] 30)
  clear E2 hw H4
  have tc := T.cell
  by_cases hz1 : zk = 4
  case neg =>
    have b1 : (zk != 4) = true := by simpa using hz1
    go_wp2_with fail
    refine (logBegun_any _).mono ?_
    rintro e w9 ⟨rfl, hw⟩
    go_wp2_with fail
    go_ret
    exact ⟨rfl, E3.trans hw⟩
  by_cases hz2 : st = 3
  case neg =>
    have b1 : (zk != 4) = false := by simpa using hz1
    have b2 : (st != 3) = true := by simpa using hz2
    clear hz1
    go_wp2_with fail
    refine (logBegun_any _).mono ?_
    rintro e w9 ⟨rfl, hw⟩
    go_wp2_with fail
    go_ret
    exact ⟨rfl, E3.trans hw⟩
  subst hz1
  subst hz2
  have HG : Hid (∀ i r, l[i]? = some r → i < m → r.kind = 1 → r.txn = zt → (∀ j x, j < i → l[j]? = some x → ¬ (x.txn = r.txn ∧ x.kind = 1 ∧ x.page = r.page ∧ x.cell = r.cell)) →
      (∀ j x, i < j → j < m → l[j]? = some x → ¬ (x.kind = 1 ∧ x.txn ≠ r.txn ∧ x.page = r.page ∧ x.cell = r.cell)) → InP (r.page, r.cell) ∧ [a0, a1, a2, a3, a4, a5, a6, a7, a8, a9, a10, a11].getD (r.page.toNat * 4 + r.cell.toNat) 0 = r.old) := by
    intro i r hi him hk ht hf ho
    refine ⟨right_fits l HRt.out r (List.mem_of_getElem? hi) (turns_of.2 (Or.inl hk)), ?_⟩
    obtain ⟨hml2, hz⟩ := List.getElem?_eq_some_iff.1 HZ.out
    have e := take_snoc l m hml2
    rw [hz] at e
    have hRm := right_pre HRt.out (m + 1)
    have hps := HPQ.out
    rw [e] at hRm hps
    have := right_gone hRm rfl HST.out (i := i) (r := r) (by rw [List.getElem?_take_of_lt him]; exact hi) hk ht
      (fun j x hj hx => hf j x hj (by rw [List.getElem?_take_of_lt (by omega)] at hx; exact hx))
      (fun j x hj hx => by
        have hjm : j < m := by
          have := (List.getElem?_eq_some_iff.1 hx).1
          rw [List.length_take] at this
          omega
        exact ho j x hj hjm (by rw [List.getElem?_take_of_lt hjm] at hx; exact hx))
    unfold cellR at this
    rw [hps] at this
    exact this
  have HK : Hid (∀ r, l[m]? = some r → r.kind = 4) := fun r hr => by rw [HZ.out] at hr; injection hr with hr; rw [← hr]
  have HI : Hid (∀ (i : Nat) (r : Rc), l[i]? = some r → r.kind = 1 → InP (r.page, r.cell)) := fun i r hi hk => right_fits l HRt.out r (List.mem_of_getElem? hi) (turns_of.2 (Or.inl hk))
  have hmk : ∀ t w, (Instr.makeMap t none).run Try.prog w = .ok (.map (some w.heap.size)) (w.alloc (.map #[] 0)) := fun t w => rfl
  go_wp2_with fail
  clear hmk tc
  have M0 : MapAt keyP ((w3.alloc (.cells #[.int .i64 a0, .int .i64 a1, .int .i64 a2, .int .i64 a3, .int .i64 a4, .int .i64 a5, .int .i64 a6, .int .i64 a7, .int .i64 a8, .int .i64 a9, .int .i64 a10, .int .i64 a11] 30)).alloc (.map #[] 0)) (w3.heap.size + 1) (([] : List (Int × Int)).map fun k => (k, .bool true)) := by
    have := mapAt_new (w3.alloc (.cells #[.int .i64 a0, .int .i64 a1, .int .i64 a2, .int .i64 a3, .int .i64 a4, .int .i64 a5, .int .i64 a6, .int .i64 a7, .int .i64 a8, .int .i64 a9, .int .i64 a10, .int .i64 a11] 30)) keyP
    simpa using this
  have hmr : (w3.alloc (.cells #[.int .i64 a0, .int .i64 a1, .int .i64 a2, .int .i64 a3, .int .i64 a4, .int .i64 a5, .int .i64 a6, .int .i64 a7, .int .i64 a8, .int .i64 a9, .int .i64 a10, .int .i64 a11] 30)).heap.size = w3.heap.size + 1 := by simp
  generalize w3.alloc (.cells #[.int .i64 a0, .int .i64 a1, .int .i64 a2, .int .i64 a3, .int .i64 a4, .int .i64 a5, .int .i64 a6, .int .i64 a7, .int .i64 a8, .int .i64 a9, .int .i64 a10, .int .i64 a11] 30) = W0 at *
  generalize w3.heap.size + 1 = mr at *
  generalize w3.heap.size = pb at *
  have EW := (Ext.refl W0).alloc (.map #[] 0)
  generalize W0.alloc (.map #[] 0) = W1 at *
  clear HRt HPQ HZ HST HR2
  go_loopw [13] (fun i wr => ∃ (k : Nat) (ks : List (Int × Int)), k ≤ m + 1 ∧ i = .int .i64 k ∧ Ext W0 wr ∧ MapAt keyP wr mr (ks.map fun k => (k, .bool true)) ∧ Hid (∀ j x, j < k → l[j]? = some x → x.txn = zt → x.kind = 1 → (x.page, x.cell) ∈ ks)) (fun i _ => m + 1 - (intOf i).toNat)
  case atStart => exact ⟨0, [], Nat.zero_le _, rfl, EW, M0, fun j x hj => by omega⟩
  case round =>
    obtain ⟨k, ks, hk, rfl, hE, hM, hks⟩ := hrel
    clear M0 EW
    by_cases hlt : k < m + 1
    · obtain ⟨b2, o2, hbo, hkl, r0, r1, r2, r3, r4, r5, r6, r7⟩ := (hR.ext (E3.trans hE)).at (show k < len by omega)
      obtain ⟨rfl, rfl⟩ : bl = b2 ∧ ol = o2 := by injection hbo with hbo; injection hbo with h1 h2; exact ⟨h1, h2⟩
      have hlk := List.getElem?_eq_getElem hkl
      have HL := (show Hid _ from hlk)
      generalize l[k] = r at *
      obtain ⟨rk, rt, rp, rg, rc, ro, rn, rx⟩ := r
      dsimp only at r0 r1 r2 r3 r4 r5 r6 r7
      clear hlk hbo
      have hE2 := hE.alloc (.cells #[.int .i64 rk, .int .i64 rt, .int .i64 rp, .int .i64 rg, .int .i64 rc, .int .i64 ro, .int .i64 rn, .int .i64 rx] 39)
      have M2 := hM.ext ((Ext.refl wr).alloc (.cells #[.int .i64 rk, .int .i64 rt, .int .i64 rp, .int .i64 rg, .int .i64 rc, .int .i64 ro, .int .i64 rn, .int .i64 rx] 39))
      have tc := (T.ext hE2).cell
      by_cases c1 : rt = zt
      case neg =>
        have b1 : (rt != zt) = true := by simpa using c1
        have C1 := (show Hid _ from c1)
        clear c1
        go_wp2_with fail
        go_roundw
        case rel => exact ⟨k + 1, ks, by omega, by go_num, hE2, M2, fun j x hj hx h1 h2 => by
          rcases Nat.lt_or_ge j k with h | h
          · exact hks j x h hx h1 h2
          · have : j = k := by omega
            subst this
            rw [HL.out] at hx
            injection hx with hx
            subst hx
            exact absurd h1 C1.out⟩
        case measure => simp [intOf]; omega

      subst c1
      by_cases c2 : rk = 1
      case neg =>
        have b2 : (rk != 1) = true := by simpa using c2
        have C2 := (show Hid _ from c2)
        clear c2
        go_wp2_with fail
        go_roundw
        case rel => exact ⟨k + 1, ks, by omega, by go_num, hE2, M2, fun j x hj hx h1 h2 => by
          rcases Nat.lt_or_ge j k with h | h
          · exact hks j x h hx h1 h2
          · have : j = k := by omega
            subst this
            rw [HL.out] at hx
            injection hx with hx
            subst hx
            exact absurd h2 C2.out⟩
        case measure => simp [intOf]; omega

      subst c2
      have hlook := run_lookSeen M2 (rg, rc)
      by_cases c3 : (rg, rc) ∈ ks
      · have C3 := (show Hid _ from c3)
        rw [decide_eq_true c3] at hlook
        clear c3
        dsimp only [keyP] at hlook
        go_wp2_with fail
        go_roundw
        case rel => exact ⟨k + 1, ks, by omega, by go_num, hE2, M2, fun j x hj hx h1 h2 => by
          rcases Nat.lt_or_ge j k with h | h
          · exact hks j x h hx h1 h2
          · have : j = k := by omega
            subst this
            rw [HL.out] at hx
            injection hx with hx
            subst hx
            exact C3.out⟩
        case measure => simp [intOf]; omega

      · have C3 := (show Hid _ from c3)
        rw [decide_eq_false c3] at hlook
        clear c3
        dsimp only [keyP] at hlook
        obtain ⟨g1, g2, g3, g4⟩ := HI.out k _ HL.out rfl
        dsimp only at g1 g2 g3 g4
        obtain ⟨w5, hput, M5, O5⟩ := run_putSeen M2 (rg, rc) C3.out
        dsimp only [keyP] at hput
        have g5 : ¬ rg < 0 := by omega
        have g6 : ¬ 3 ≤ rg := by omega
        have g7 : ¬ rc < 0 := by omega
        have g8 : ¬ 3 ≤ rc := by omega
        have R2 := Blk.new wr wr.heap.size #[.int .i64 1, .int .i64 rt, .int .i64 rp, .int .i64 rg, .int .i64 rc, .int .i64 ro, .int .i64 rn, .int .i64 rx] 39 rfl
        have hrb : wr.heap.size ≠ mr := fun e => by have := hM.lt; omega
        have R5 := R2.only O5 hrb
        have hE5 := O5.ext hE2 (by omega)
        clear R2 hrb
        go_wp2_with fail
        clear hput hlook tc O5 M2 hE2 hM r0 r1 r2 r3 r4 r5 r6 r7
        go_loopw [15, 16] (fun o i wq => ∃ (q : Nat) (b : Bool), k + 1 ≤ q ∧ q ≤ m + 1 ∧ i = .int .i64 q ∧ o = .bool b ∧ Ext w5 wq ∧ Hid (b = false → ∀ j x, k < j → j < q → l[j]? = some x → ¬ (x.kind = 1 ∧ x.txn ≠ rt ∧ x.page = rg ∧ x.cell = rc))) (fun _ i _ => m + 1 - (intOf i).toNat)
        case atStart => exact ⟨k + 1, false, by omega, by omega, by go_num, rfl, Ext.refl _, fun _ j x h1 h2 => by omega⟩
        case round =>
          rename_i wq
          obtain ⟨q, b, hq1, hq2, rfl, rfl, hQ, hNo⟩ := hrel
          have rr := (R5.ext hQ).cell
          by_cases hltq : q < m + 1
          · obtain ⟨b2, o2, hbo, hql, x0, x1, x2, x3, x4, x5, x6, x7⟩ := (hR.ext (E3.trans (hE5.trans hQ))).at (show q < len by omega)
            obtain ⟨rfl, rfl⟩ : bl = b2 ∧ ol = o2 := by injection hbo with hbo; injection hbo with h1 h2; exact ⟨h1, h2⟩
            have hlq := List.getElem?_eq_getElem hql
            have HX := (show Hid _ from hlq)
            generalize l[q] = x at *
            obtain ⟨xk, xt, xp, xg, xc, xo, xn, xx⟩ := x
            dsimp only at x0 x1 x2 x3 x4 x5 x6 x7
            clear hlq hbo
            cases b
            · have HNo : Hid (∀ j x, k < j → j < q → l[j]? = some x → ¬ (x.kind = 1 ∧ x.txn ≠ rt ∧ x.page = rg ∧ x.cell = rc)) := hNo rfl
              clear hNo
              by_cases c4 : xk = 1
              case neg =>
                have b4 : (xk == 1) = false := by simpa using c4
                have C4 := (show Hid _ from c4)
                clear c4
                go_wp2_with fail
                go_quiet (fail)
                go_wp2_with fail
                go_roundw
                case rel => exact ⟨q + 1, false, by omega, by omega, by go_num, rfl, hQ.drewN _, fun _ j x h1 h2 hx => by
                rcases Nat.lt_or_ge j q with h | h
                · exact HNo.out j x h1 h hx
                · have : j = q := by omega
                  subst this
                  rw [HX.out] at hx
                  injection hx with hx
                  subst hx
                  exact fun h => C4.out h.1⟩
                case measure => simp [intOf]; omega
              subst c4
              by_cases c5 : xt = rt
              · have b5 : (xt != rt) = false := by simpa using c5
                have C5 := (show Hid _ from c5)
                clear c5
                go_wp2_with fail
                go_quiet (fail)
                go_wp2_with fail
                go_roundw
                case rel => exact ⟨q + 1, false, by omega, by omega, by go_num, rfl, hQ.drewN _, fun _ j x h1 h2 hx => by
                rcases Nat.lt_or_ge j q with h | h
                · exact HNo.out j x h1 h hx
                · have : j = q := by omega
                  subst this
                  rw [HX.out] at hx
                  injection hx with hx
                  subst hx
                  exact fun h => h.2.1 C5.out⟩
                case measure => simp [intOf]; omega
              have b5 : (xt != rt) = true := by simpa using c5
              have C5 := (show Hid _ from c5)
              clear c5
              by_cases c6 : xg = rg
              case neg =>
                have b6 : (xg == rg) = false := by simpa using c6
                have C6 := (show Hid _ from c6)
                clear c6
                go_wp2_with fail
                go_quiet (fail)
                go_wp2_with fail
                go_roundw
                case rel => exact ⟨q + 1, false, by omega, by omega, by go_num, rfl, hQ.drewN _, fun _ j x h1 h2 hx => by
                rcases Nat.lt_or_ge j q with h | h
                · exact HNo.out j x h1 h hx
                · have : j = q := by omega
                  subst this
                  rw [HX.out] at hx
                  injection hx with hx
                  subst hx
                  exact fun h => C6.out h.2.2.1⟩
                case measure => simp [intOf]; omega
              subst c6
              by_cases c7 : xc = rc
              case neg =>
                have b7 : (xc == rc) = false := by simpa using c7
                have C7 := (show Hid _ from c7)
                clear c7
                go_wp2_with fail
                go_quiet (fail)
                go_wp2_with fail
                go_roundw
                case rel => exact ⟨q + 1, false, by omega, by omega, by go_num, rfl, hQ.drewN _, fun _ j x h1 h2 hx => by
                rcases Nat.lt_or_ge j q with h | h
                · exact HNo.out j x h1 h hx
                · have : j = q := by omega
                  subst this
                  rw [HX.out] at hx
                  injection hx with hx
                  subst hx
                  exact fun h => C7.out h.2.2.2⟩
                case measure => simp [intOf]; omega
              subst c7
              go_wp2_with fail
              go_quiet (fail)
              go_wp2_with fail
              go_roundw
              case rel => exact ⟨q + 1, true, by omega, by omega, by go_num, rfl, hQ.drewN _, fun h => by cases h⟩
              case measure => simp [intOf]; omega
            · clear x0 x1 x2 x3 x4 x5 x6 x7
              go_wp2_with fail
              go_quiet (fail)
              go_wp2_with fail
              go_roundw
              case rel => exact ⟨q + 1, true, by omega, by omega, by go_num, rfl, hQ.drewN _, fun h => by cases h⟩
              case measure => simp [intOf]; omega
          · have M6 := M5.ext hQ
            have hE6 := hE5.trans hQ
            have hks2 : Hid (∀ j x, j < k + 1 → l[j]? = some x → x.txn = rt → x.kind = 1 → (x.page, x.cell) ∈ ks ++ [(rg, rc)]) := fun j x hj hx h1 h2 => by
              rcases Nat.lt_or_ge j k with h | h
              · exact List.mem_append.2 (Or.inl (hks j x h hx h1 h2))
              · have : j = k := by omega
                subst this
                rw [HL.out] at hx
                injection hx with hx
                subst hx
                simp
            have pc := (P.ext hE6).cell
            cases b
            · have hkm : k < m := by
                by_cases h : k = m
                · subst h; have := HK.out _ HL.out; cases this
                · omega
              obtain ⟨_, hcell⟩ := HG.out k _ HL.out hkm rfl rfl (fun j x hj hx h => C3.out (by have := hks j x hj hx h.1 h.2.1; rw [h.2.2.1, h.2.2.2] at this; exact this)) (fun j x h1 h2 hx => hNo rfl j x h1 (by omega) hx)
              dsimp only at hcell
              have hpg : rg = 0 ∨ rg = 1 ∨ rg = 2 := by omega
              have hce : rc = 0 ∨ rc = 1 ∨ rc = 2 := by omega
              clear HG HK HI HL C3 hNo hks
              rcases hpg with rfl | rfl | rfl <;> rcases hce with rfl | rfl | rfl
              all_goals
                simp at hcell
                subst hcell
                go_wp2_with fail
                go_quiet (fail)
                go_wp2_with fail
                go_roundw
                case rel => exact ⟨k + 1, _, by omega, by go_num, hE6.drewN _, M6, hks2⟩
                case measure => simp [intOf]; omega
            · clear HG HK HI HL C3 hNo hks
              go_wp2_with fail
              go_quiet (fail)
              go_wp2_with fail
              go_roundw
              case rel => exact ⟨k + 1, _, by omega, by go_num, hE6.drewN _, M6, hks2⟩
              case measure => simp [intOf]; omega
    · go_wp2_with fail
      refine (logBegun_any _).mono ?_
      rintro e w9 ⟨rfl, hw⟩
      go_wp2_with fail
      go_ret
      exact ⟨rfl, (E3.trans hE).trans hw⟩

set_option maxRecDepth 100000 in
theorem logGone_lifted (os : Os) (started : os.Started) (H : Type) (enc : TypeId × Value → H) :
    ReturnsInHanded {} Try.checked os 7 .any (Rows.logGoneSpec.pre6 enc Try.prog Try.f7 Rows.logGoneRow.domain false) (Rows.logGoneSpec.post enc Try.prog Try.f7 false true false false) := by
  refine returnsInHanded_of_change (C := Try.checked) own started (by kernel_rfl) Try.func7
    (ChangeSpec.witness6 (enc := enc) (C := Try.checked) false ⟨#[], #[.slice none 0 0, .int .i64 0], []⟩ 8 (by kernel_rfl) (by kernel_rfl) (by kernel_rfl) (by kernel_rfl)) ?_
  intro W base args ds gs before hval0 hW hcnd _
  have hval : ∀ (j : Nat) t v, Try.f7.params[j]? = some t → args[j]? = some v → Value.okWide Try.prog W .any base t v := hval0
  have hW' := hW
  obtain ⟨p, q, hA0, hV, rfl, hfz, hnd⟩ := hW
  have hA : DataW.TrodAll enc Try.prog W 0 (fun _ => true) true Try.f7.params.toList args.toList ds p := hA0
  rw [Try.params7] at hA hval
  obtain ⟨v0, vs0, d0, ds0, p0, q0, hargs, rfl, rfl, h0, r0⟩ := trodAll_cons hA
  obtain ⟨v1, vs1, d1, ds1, p1, q1, rfl, rfl, rfl, h1, r1⟩ := trodAll_cons r0
  obtain ⟨rfl, rfl, rfl⟩ := trodAll_nil r1
  obtain rfl : args = #[v0, v1] := by cases args; simp_all
  obtain ⟨rfl, rfl⟩ := trodVars_none hV
  obtain ⟨x0, len0, cap0, l0, rfl, s0⟩ := open_recs (hval 0 22 v0 rfl rfl) h0
  obtain ⟨a1, rfl, b1⟩ := open_num (hval 1 3 v1 rfl rfl)
  clear hA0 hval0
  refine (logGone_go W x0 len0 cap0 l0 s0 a1 b1).mono fun e W' ⟨he, bel⟩ => ?_
  subst he
  exact ⟨_, rfl, _, _, _, [], _, [], hW', trodAll_mk1 (shut_bool Try.underlying4 _),
    (trodAll_cons_mk (Below.trod laidOut (by kernel_rfl) (of_decide_eq_true (by kernel_rfl)) h0 bel (lt_of_trod h0))
    (trodAll_cons_mk (Below.trod laidOut (by kernel_rfl) (of_decide_eq_true (by kernel_rfl)) h1 bel (lt_of_trod h1))
    trodAll_mk0)), rfl, bel.frame _, fun h => by cases h⟩

theorem logGone_over : Rows.logGoneRow.holds Try.pinned (OpenSpec.ofChange Rows.logGoneSpec) :=
  OpenClaim.holds_of_wide 7 Try.f7 rfl rfl rfl rfl rfl rfl rfl ⟨rfl, rfl, rfl, rfl, rfl⟩ rfl rfl rfl rfl rfl (by kernel_rfl) Try.func7 (by kernel_rfl)
    (of_decide_eq_true (by kernel_rfl)) (by unfold Func.isWrapper; first | (rw [if_pos (by decide +kernel)]; kernel_rfl) | (rw [if_neg (by decide +kernel)]; exact ⟨rfl, rfl⟩))
    (fun os started H enc _ => logGone_lifted os started H enc)
end Go.Proofs.Ytgojonhjhdbpkaa.B
namespace Go.Proofs.Ytgojonhjhdbpkaa
theorem logGone_holds : Rows.LogGoneSaid := B.logGone_over
#print axioms logGone_holds
end Go.Proofs.Ytgojonhjhdbpkaa

