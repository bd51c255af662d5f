/- LogAlone holds: no two Txns that are not over have Writes of one cell that stand; and the last one that stands is what the cell is. -/
import Derived.Test.YtgojonhjhdbpkaaStateAns
namespace Go.Proofs.Ytgojonhjhdbpkaa.B
set_option maxRecDepth 100000
open Go.ChangeShapes Go.WideShapes Go.ChangeAt Go.RowKit

set_option maxHeartbeats 1000000 in
set_option maxRecDepth 100000 in
theorem logAlone_go (w : World) (a : Option Addr) (len cap : Nat) (l : List Rc) (h : Recs w a len l ∧ len ≤ cap ∧ len ≤ maxLen) (c : Int) (bc : IntKind.i64.has c) (d : Int) (bd : IntKind.i64.has d) :
    Calls Try.prog 8 #[.slice a len cap, .int .i64 c, .int .i64 d] w fun e w' => e = .returned (.bool true) ∧ Ext w w' := by
  obtain ⟨hR, hc, hm⟩ := h
  have H1 := fun w' (e : Ext w w') => logPages_any a len cap l w' (hR.ext e) hm
  have H2 := fun w' (e : Ext w w') => logError_any a len cap l w' (hR.ext e) hc hm
  have HP : Hid (logErr l = 0 → pagesOrNone l = pagesR l) := fun h0 => by unfold pagesOrNone; rw [if_pos h0]
  have hl : (pagesOrNone l).length = 12 := by unfold pagesOrNone; split; exact pagesR_len l; rfl
  obtain ⟨a0, a1, a2, a3, a4, a5, a6, a7, a8, a9, a10, a11, hps⟩ := list12 _ hl
  rw [hps] at H1
  have HQ := (show Hid _ from hps)
  clear hps hl
  have hq : ints [a0, a1, a2, a3, a4, a5, a6, a7, a8, a9, a10, a11] = #[.int .i64 a0, .int .i64 a1, .int .i64 a2, .int .i64 a3, .int .i64 a4, .int .i64 a5, .int .i64 a6, .int .i64 a7, .int .i64 a8, .int .i64 a9, .int .i64 a10, .int .i64 a11] := rfl
  rw [hq] at H1
  clear hq
  by_cases h0 : logErr l = 0
  · rw [h0] at H1 H2
    obtain ⟨h60, hRt⟩ := logErr_zero h0
    have HRt := (show Hid _ from hRt)
    have hlen := hR.len
    have hn := chooseN_lt c (n := 9) (by omega)
    have ht := chooseN_lt d (n := 9) (by omega)
    have HC1 := choose_any c 9
    have HC2 := choose_any d 9
    have S1 := stateAns_ok h0 hn
    have S2 := stateAns_ok h0 ht
    have H3 := fun w' (e : Ext w w') => logState_any a len cap l (1 + (chooseN c 9 : Int)) w' (hR.ext e) hm
    have H4 := fun w' (e : Ext w w') => logState_any a len cap l (1 + (chooseN d 9 : Int)) w' (hR.ext e) hm
    rw [S1] at H3
    rw [S2] at H4
    dsimp only at H3 H4
    clear S1 S2
    have H5 := fun w' (e : Ext w w') => standing_any a len cap l (1 + (chooseN c 9 : Int)) w' (hR.ext e) (by omega)
    have H6 := fun w' (e : Ext w w') => standing_any a len cap l (1 + (chooseN d 9 : Int)) w' (hR.ext e) (by omega)
    have L1 := stackR_le (1 + (chooseN c 9 : Int)) l
    have L2 := stackR_le (1 + (chooseN d 9 : Int)) l
    generalize chooseN c 9 = m at *
    generalize chooseN d 9 = n at *
    go_enter Try.func8, Try.ntmps8
    go_wp2_with fail
    refine (H1 w (Ext.refl w)).mono ?_
    rintro e w1 ⟨rfl, E1⟩
    have P := Blk.new w1 w1.heap.size #[.int .i64 a0, .int .i64 a1, .int .i64 a2, .int .i64 a3, .int .i64 a4, .int .i64 a5, .int .i64 a6, .int .i64 a7, .int .i64 a8, .int .i64 a9, .int .i64 a10, .int .i64 a11] 30 rfl
    replace E1 := E1.alloc (.cells #[.int .i64 a0, .int .i64 a1, .int .i64 a2, .int .i64 a3, .int .i64 a4, .int .i64 a5, .int .i64 a6, .int .i64 a7, .int .i64 a8, .int .i64 a9, .int .i64 a10, .int .i64 a11] 30)
    go_wp2_with fail
    refine (H2 _ E1).mono ?_
    rintro e w2 ⟨rfl, hw⟩
    replace P := P.ext hw
    have E2 := E1.trans hw
    clear E1 hw
    go_wp2_with fail
    refine (HC1 _ bc (by omega) (by omega)).mono ?_
    rintro e w3 ⟨rfl, rfl⟩
    go_wp2_with fail
    refine (HC2 _ bd (by omega) (by omega)).mono ?_
    rintro e w4 ⟨rfl, rfl⟩
    go_wp2_with fail
    refine (H3 _ E2).mono ?_
    rintro e w5 ⟨rfl, hw⟩
    replace P := P.ext hw
    have E5 := E2.trans hw
    clear E2 hw
    go_wp2_with fail
    refine (H4 _ E5).mono ?_
    rintro e w6 ⟨rfl, hw⟩
    replace P := P.ext hw
    have E6 := E5.trans hw
    clear E5 hw
    go_wp2_with fail
    refine (H5 _ E6).mono ?_
    rintro e w7 ⟨⟨ax, cx, rfl, X⟩, hw⟩
    replace P := P.ext hw
    have E7 := E6.trans hw
    clear E6 hw
    go_wp2_with fail
    refine (H6 _ E7).mono ?_
    rintro e w8 ⟨⟨ay, cy, rfl, Y⟩, hw⟩
    replace P := P.ext hw
    replace X := X.ext hw
    have E8 := E7.trans hw
    clear E7 hw
    go_wp2_with fail
    have HA : Hid (∀ x ∈ stackR l (1 + (m : Int)), ∀ y ∈ stackR l (1 + (n : Int)), stateR l (1 + (m : Int)) ≠ 4 → stateR l (1 + (n : Int)) ≠ 4 → (1 + (m : Int)) ≠ 1 + (n : Int) → ¬ (x.page = y.page ∧ x.cell = y.cell)) := fun x hx y hy h1 h2 h3 => stack_alone HRt.out h1 h2 h3 hx hy
    have HT : Hid (∀ st x, stackR l (1 + (m : Int)) = st ++ [x] → stateR l (1 + (m : Int)) ≠ 4 → cellR l (x.page, x.cell) = x.new ∧ InP (x.page, x.cell)) := fun st x hx h1 => ⟨stack_top HRt.out h1 hx, stack_in HRt.out h1 (by rw [hx]; simp)⟩
    clear H1 H2 H3 H4 H5 H6 HC1 HC2 hn ht
    have HPQ : Hid (pagesR l = [a0, a1, a2, a3, a4, a5, a6, a7, a8, a9, a10, a11]) := by rw [Hid, ← HP.out h0]; exact HQ.out
    clear HP HQ
    generalize (1 + (m : Int)) = s at *
    generalize (1 + (n : Int)) = t at *
    generalize stackR l s = xs at *
    generalize stackR l t = ys at *
    generalize stateR l s = si at *
    generalize stateR l t = sj at *
    go_loopw [19] (fun i wr => ∃ k : Nat, k ≤ xs.length ∧ i = .int .i64 k ∧ Ext w8 wr) (fun i _ => xs.length - (intOf i).toNat)
    case atStart => exact ⟨0, Nat.zero_le _, rfl, Ext.refl _⟩
    case round =>
      obtain ⟨k, hk, rfl, hE⟩ := hrel
      by_cases hlt : k < xs.length
      · go_wp2_with fail
        go_loopw [20] (fun i wr => ∃ q : Nat, q ≤ ys.length ∧ i = .int .i64 q ∧ Ext w8 wr) (fun i _ => ys.length - (intOf i).toNat)
        case atStart => exact ⟨0, Nat.zero_le _, rfl, hE⟩
        case round =>
          obtain ⟨q, hq, rfl, hF⟩ := hrel
          by_cases hltq : q < ys.length
          · obtain ⟨bx, ox, rfl, hkx, x0, x1, x2, x3, x4, x5, x6, x7⟩ := (X.ext hF).at hlt
            obtain ⟨by_, oy, rfl, hky, y0, y1, y2, y3, y4, y5, y6, y7⟩ := (Y.ext hF).at hltq
            have HA2 : Hid _ := HA.out xs[k] (List.getElem_mem hkx) ys[q] (List.getElem_mem hky)
            clear x0 x1 x2 x5 x6 x7 y0 y1 y2 y5 y6 y7
            generalize xs[k] = x at *
            generalize ys[q] = y at *
            have n1 : xs.length ≤ 1000 := by omega
            have n2 : ys.length ≤ 1000 := by omega
            by_cases c1 : s = t
            · have b1 : (s != t) = false := by simpa using c1
              have C1 := (show Hid _ from c1)
              clear c1
              go_wp2_with fail
              go_quiet (fail)
              go_wp2_with fail
              go_roundw
              case rel => exact ⟨q + 1, by omega, by go_num, hF.drewN _⟩
              case measure => simp [intOf]; omega
            have b1 : (s != t) = true := by simpa using c1
            have C1 := (show Hid _ from c1)
            clear c1
            by_cases c2 : si = 4
            · have b2 : (si != 4) = false := by simpa using c2
              clear c2
              go_wp2_with fail
              go_quiet (fail)
              go_wp2_with fail
              go_roundw
              case rel => exact ⟨q + 1, by omega, by go_num, hF.drewN _⟩
              case measure => simp [intOf]; omega
            have b2 : (si != 4) = true := by simpa using c2
            have C2 := (show Hid _ from c2)
            clear c2
            by_cases c3 : sj = 4
            · have b3 : (sj != 4) = false := by simpa using c3
              clear c3
              go_wp2_with fail
              go_quiet (fail)
              go_wp2_with fail
              go_roundw
              case rel => exact ⟨q + 1, by omega, by go_num, hF.drewN _⟩
              case measure => simp [intOf]; omega
            have b3 : (sj != 4) = true := by simpa using c3
            have C3 := (show Hid _ from c3)
            clear c3
            by_cases c4 : x.page = y.page
            · have b4 : (x.page == y.page) = true := by simpa using c4
              have b5 : (x.cell == y.cell) = false := by
                have := HA2.out C2.out C3.out C1.out
                simp only [c4, true_and] at this
                simpa using this
              clear c4
              go_wp2_with fail
              go_quiet (fail)
              go_wp2_with fail
              go_roundw
              case rel => exact ⟨q + 1, by omega, by go_num, hF.drewN _⟩
              case measure => simp [intOf]; omega
            have b4 : (x.page == y.page) = false := by simpa using c4
            clear c4
            go_wp2_with fail
            go_quiet (fail)
            go_wp2_with fail
            go_roundw
            case rel => exact ⟨q + 1, by omega, by go_num, hF.drewN _⟩
            case measure => simp [intOf]; omega
          · go_wp2_with fail
            go_roundw
            case rel => exact ⟨k + 1, by omega, by go_num, hF⟩
            case measure => simp [intOf]; omega
      · have hE9 := E8.trans hE
        clear HA
        by_cases h4 : si = 4
        · subst h4
          go_wp2_with fail
          refine (logBegun_any _).mono ?_
          rintro e w9 ⟨rfl, hw⟩
          go_wp2_with fail
          go_ret
          exact ⟨rfl, hE9.trans hw⟩
        · have b4 : (si == 4) = false := by simpa using h4
          rcases List.eq_nil_or_concat xs with h | ⟨st, x, h⟩
          · subst h
            simp only [List.length_nil]
            go_wp2_with fail
            refine (logBegun_any _).mono ?_
            rintro e w9 ⟨rfl, hw⟩
            go_wp2_with fail
            go_ret
            exact ⟨rfl, hE9.trans hw⟩
          · rw [List.concat_eq_append] at h
            obtain ⟨hcell, hin⟩ := HT.out st x h h4
            have hxl : xs.length = st.length + 1 := by rw [h]; simp
            obtain ⟨bx, ox, rfl, hkx, x0, x1, x2, x3, x4, x5, x6, x7⟩ := (X.ext hE).at (show st.length < xs.length by omega)
            have hxx : xs[st.length] = x := by simp [h]
            rw [hxx] at x0 x1 x2 x3 x4 x5 x6 x7
            have P2 := P.ext hE
            unfold cellR at hcell
            rw [HPQ.out] at hcell
            clear P E8 hE h hxx hkx HT
            rw [hxl]
            obtain ⟨kind, txn, prev, page, cell, old, new, next⟩ := x
            dsimp only at x0 x1 x2 x3 x4 x5 x6 x7 hcell hin
            have n1 : st.length ≤ 1000 := by omega
            go_wp2_with fail
            have T := Blk.new wr wr.heap.size #[.int .i64 kind, .int .i64 txn, .int .i64 prev, .int .i64 page, .int .i64 cell, .int .i64 old, .int .i64 new, .int .i64 next] 39 rfl
            replace P2 := P2.alloc (.cells #[.int .i64 kind, .int .i64 txn, .int .i64 prev, .int .i64 page, .int .i64 cell, .int .i64 old, .int .i64 new, .int .i64 next] 39)
            replace hE9 := hE9.alloc (.cells #[.int .i64 kind, .int .i64 txn, .int .i64 prev, .int .i64 page, .int .i64 cell, .int .i64 old, .int .i64 new, .int .i64 next] 39)
            generalize wr.alloc (.cells #[.int .i64 kind, .int .i64 txn, .int .i64 prev, .int .i64 page, .int .i64 cell, .int .i64 old, .int .i64 new, .int .i64 next] 39) = W at *
            obtain ⟨F, hF⟩ := calm_there W
            have KC : Hid (∀ w', Ext W w' → ∃ v, w' = F v) := fun w' e => ⟨w', (hF.same w' e).symm⟩
            have pc := hF.cell P2
            have tc := hF.cell T
            refine wp_region_line (S := fun w' => ∃ v, w' = F v) [0] (by kernel_rfl) (by kernel_rfl) (fun c a d v w h => by cases d <;> exact h) (by kernel_rfl) (KC.out _ (Ext.refl W).drew) ?_
            simp only [cutL, List.drop_zero, List.take_zero]
            have F0 := (Ext.refl W).drew
            refine wpLine_cons ?_
            refine wpQuiet_nil ?_
            intro K hK
            rw [if_pos (by kernel_rfl)]
            go_simp
            refine (logBegun_any _).mono ?_
            rintro e v1 ⟨rfl, hw⟩
            have F1 := F0.trans hw
            go_wp2_with fail
            refine hK.out _ _ (KC.out _ F1) (fun _ => ?_)
            clear hK K
            refine wpLine_nil ?_
            have E10 := hE9.trans F1
            have hpg : page = 0 ∨ page = 1 ∨ page = 2 := by omega
            have hce : cell = 0 ∨ cell = 1 ∨ cell = 2 := by omega
            clear hin
            rcases hpg with rfl | rfl | rfl <;> rcases hce with rfl | rfl | rfl
            all_goals
              simp at hcell
              subst hcell
              repeat (go_big_quiet_step (fail))
              refine wpQuiet_nil ?_
              go_wp2_with fail
              go_ret
              exact ⟨by simp, E10⟩
  · have hb : (logErr l != 0) = true := by simpa using h0
    generalize logErr l = x at *
    go_enter Try.func8, Try.ntmps8
    go_wp2_with fail
    refine (H1 w (Ext.refl w)).mono ?_
    rintro e w1 ⟨rfl, E1⟩
    go_wp2_with fail
    refine (logBegun_any _).mono ?_
    rintro e w3 ⟨rfl, hw3⟩
    go_wp2_with fail
    go_ret
    exact ⟨by simp, (E1.alloc _).trans hw3⟩

set_option maxRecDepth 100000 in
theorem logAlone_lifted (os : Os) (started : os.Started) (H : Type) (enc : TypeId × Value → H) :
    ReturnsInHanded {} Try.checked os 8 .any (Rows.logAloneSpec.pre6 enc Try.prog Try.f8 Rows.logAloneRow.domain false) (Rows.logAloneSpec.post enc Try.prog Try.f8 false true false false) := by
  refine returnsInHanded_of_change (C := Try.checked) own started (by kernel_rfl) Try.func8
    (ChangeSpec.witness6 (enc := enc) (C := Try.checked) false ⟨#[], #[.slice none 0 0, .int .i64 0, .int .i64 0], []⟩ 8 (by kernel_rfl) (by kernel_rfl) (by kernel_rfl) (by kernel_rfl)) ?_
  intro W base args ds gs before hval0 hW hcnd _
  have hval : ∀ (j : Nat) t v, Try.f8.params[j]? = some t → args[j]? = some v → Value.okWide Try.prog W .any base t v := hval0
  have hW' := hW
  obtain ⟨p, q, hA0, hV, rfl, hfz, hnd⟩ := hW
  have hA : DataW.TrodAll enc Try.prog W 0 (fun _ => true) true Try.f8.params.toList args.toList ds p := hA0
  rw [Try.params8] at hA hval
  obtain ⟨v0, vs0, d0, ds0, p0, q0, hargs, rfl, rfl, h0, r0⟩ := trodAll_cons hA
  obtain ⟨v1, vs1, d1, ds1, p1, q1, rfl, rfl, rfl, h1, r1⟩ := trodAll_cons r0
  obtain ⟨v2, vs2, d2, ds2, p2, q2, rfl, rfl, rfl, h2, r2⟩ := trodAll_cons r1
  obtain ⟨rfl, rfl, rfl⟩ := trodAll_nil r2
  obtain rfl : args = #[v0, v1, v2] := by cases args; simp_all
  obtain ⟨rfl, rfl⟩ := trodVars_none hV
  obtain ⟨x0, len0, cap0, l0, rfl, s0⟩ := open_recs (hval 0 22 v0 rfl rfl) h0
  obtain ⟨a1, rfl, b1⟩ := open_num (hval 1 3 v1 rfl rfl)
  obtain ⟨a2, rfl, b2⟩ := open_num (hval 2 3 v2 rfl rfl)
  clear hA0 hval0
  refine (logAlone_go W x0 len0 cap0 l0 s0 a1 b1 a2 b2).mono fun e W' ⟨he, bel⟩ => ?_
  subst he
  exact ⟨_, rfl, _, _, _, [], _, [], hW', trodAll_mk1 (shut_bool Try.underlying4 _),
    (trodAll_cons_mk (Below.trod laidOut (by kernel_rfl) (of_decide_eq_true (by kernel_rfl)) h0 bel (lt_of_trod h0))
    (trodAll_cons_mk (Below.trod laidOut (by kernel_rfl) (of_decide_eq_true (by kernel_rfl)) h1 bel (lt_of_trod h1))
    (trodAll_cons_mk (Below.trod laidOut (by kernel_rfl) (of_decide_eq_true (by kernel_rfl)) h2 bel (lt_of_trod h2))
    trodAll_mk0))), rfl, bel.frame _, fun h => by cases h⟩

theorem logAlone_over : Rows.logAloneRow.holds Try.pinned (OpenSpec.ofChange Rows.logAloneSpec) :=
  OpenClaim.holds_of_wide 8 Try.f8 rfl rfl rfl rfl rfl rfl rfl ⟨rfl, rfl, rfl, rfl, rfl⟩ rfl rfl rfl rfl rfl (by kernel_rfl) Try.func8 (by kernel_rfl)
    (of_decide_eq_true (by kernel_rfl)) (by unfold Func.isWrapper; first | (rw [if_pos (by decide +kernel)]; kernel_rfl) | (rw [if_neg (by decide +kernel)]; exact ⟨rfl, rfl⟩))
    (fun os started H enc _ => logAlone_lifted os started H enc)
end Go.Proofs.Ytgojonhjhdbpkaa.B
namespace Go.Proofs.Ytgojonhjhdbpkaa
theorem logAlone_holds : Rows.LogAloneSaid := B.logAlone_over
#print axioms logAlone_holds
end Go.Proofs.Ytgojonhjhdbpkaa

