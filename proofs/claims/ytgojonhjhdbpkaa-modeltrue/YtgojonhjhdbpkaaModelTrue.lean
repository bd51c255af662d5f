/- ModelTrue holds: if no Txn hangs, the pages are what must be. -/
import Derived.Test.YtgojonhjhdbpkaaMod4
import Derived.Test.YtgojonhjhdbpkaaOpen2
namespace Go.Proofs.Ytgojonhjhdbpkaa.B
set_option maxRecDepth 100000
open Go.ChangeShapes Go.WideShapes Go.ChangeAt Go.RowKit

theorem stateAns_in {l : List Rc} (h : logErr l = 0) {t : Int} (h1 : 1 ≤ t) (h9 : t ≤ 9) : stateAns l t = (stateR l t, ((lastR l t : Nat) : Int), 0) := by
  unfold stateAns
  rw [if_pos h, out_one]
  have : wi t 1 9 = true := by simp [wi]; omega
  rw [this]; rfl
/-- The nine equations. -/
theorem calm_nine {l : List Rc} (hR : Right l) (h : ∀ t, 1 ≤ t → t ≤ 9 → ¬ Hangs l t) {a0 a1 a2 a3 a4 a5 a6 a7 a8 a9 a10 a11 x0 x1 x2 x3 x4 x5 x6 x7 x8 : Int} (hp : pagesR l = [a0, a1, a2, a3, a4, a5, a6, a7, a8, a9, a10, a11]) (hc : cellsR l = [x0, x1, x2, x3, x4, x5, x6, x7, x8]) :
    x0 = a0 ∧ x1 = a1 ∧ x2 = a2 ∧ x3 = a4 ∧ x4 = a5 ∧ x5 = a6 ∧ x6 = a8 ∧ x7 = a9 ∧ x8 = a10 := by
  have g : ∀ p, InP p → (cellsR l).getD (p.1.toNat * 3 + p.2.toNat) 0 = (pagesR l).getD (p.1.toNat * 4 + p.2.toNat) 0 := fun p hp => right_calm hR h hp
  rw [hp, hc] at g
  refine ⟨g (0, 0) (by decide), g (0, 1) (by decide), g (0, 2) (by decide), g (1, 0) (by decide), g (1, 1) (by decide), g (1, 2) (by decide), g (2, 0) (by decide), g (2, 1) (by decide), g (2, 2) (by decide)⟩
set_option maxHeartbeats 4000000 in
theorem modelTrue_go (w : World) (a : Option Addr) (len cap : Nat) (l : List Rc) (h : Recs w a len l ∧ len ≤ cap ∧ len ≤ maxLen) :
    Calls Try.prog 10 #[.slice a len cap] w fun e w' => e = .returned (.bool true) ∧ Ext w w' := by
  obtain ⟨hR, hc, hm⟩ := h
  have H1 := fun w' (e : Ext w w') => logPages_any a len cap l w' (hR.ext e) hm
  have H2 := fun w' (e : Ext w w') => cells_any a len cap l w' (hR.ext e) hm
  have hl : (pagesOrNone l).length = 12 := by unfold pagesOrNone; split; exact pagesR_len l; rfl
  obtain ⟨a0, a1, a2, a3, a4, a5, a6, a7, a8, a9, a10, a11, hps⟩ := list12 _ hl
  obtain ⟨x0, x1, x2, x3, x4, x5, x6, x7, x8, hcs⟩ := len9 (cellsOr_len l)
  have HNine : Hid (logErr l = 0 → (∀ t, 1 ≤ t → t ≤ 9 → ¬ Hangs l t) → x0 = a0 ∧ x1 = a1 ∧ x2 = a2 ∧ x3 = a4 ∧ x4 = a5 ∧ x5 = a6 ∧ x6 = a8 ∧ x7 = a9 ∧ x8 = a10) := fun h0 hh => by
    refine calm_nine (logErr_zero h0).2 hh (a3 := a3) (a7 := a7) (a11 := a11) ?_ ?_
    · rw [← hps]; unfold pagesOrNone; rw [if_pos h0]
    · rw [← hcs, cellsOr_ok h0]
  rw [hps] at H1
  rw [hcs] at H2
  clear hps hcs hl
  rw [show ints [a0, a1, a2, a3, a4, a5, a6, a7, a8, a9, a10, a11] = #[.int .i64 a0, .int .i64 a1, .int .i64 a2, .int .i64 a3, .int .i64 a4, .int .i64 a5, .int .i64 a6, .int .i64 a7, .int .i64 a8, .int .i64 a9, .int .i64 a10, .int .i64 a11] from rfl] at H1
  rw [show ints [x0, x1, x2, x3, x4, x5, x6, x7, x8] = #[.int .i64 x0, .int .i64 x1, .int .i64 x2, .int .i64 x3, .int .i64 x4, .int .i64 x5, .int .i64 x6, .int .i64 x7, .int .i64 x8] from rfl] at H2
  have H3 := fun w' (e : Ext w w') (t : Int) => logState_any a len cap l t w' (hR.ext e) hm
  have HS : Hid (logErr l = 0 → ∀ t, 1 ≤ t → t ≤ 9 → stateAns l t = (stateR l t, ((lastR l t : Nat) : Int), 0)) := fun h0 t h1 h9 => stateAns_in h0 h1 h9
  generalize logErr l = z at *
  go_enter Try.func10, Try.ntmps10
  go_wp2_with fail
  refine (H1 w (Ext.refl w)).mono ?_
  rintro e w1 ⟨rfl, hw⟩
  have P := Blk.new w1 w1.heap.size #[.int .i64 a0, .int .i64 a1, .int .i64 a2, .int .i64 a3, .int .i64 a4, .int .i64 a5, .int .i64 a6, .int .i64 a7, .int .i64 a8, .int .i64 a9, .int .i64 a10, .int .i64 a11] 30 rfl
  have E1 := hw.alloc (.cells #[.int .i64 a0, .int .i64 a1, .int .i64 a2, .int .i64 a3, .int .i64 a4, .int .i64 a5, .int .i64 a6, .int .i64 a7, .int .i64 a8, .int .i64 a9, .int .i64 a10, .int .i64 a11] 30)
  clear hw
  go_wp2_with fail
  refine (H2 _ E1).mono ?_
  rintro e w2 ⟨rfl, hw⟩
  replace P := (P.ext hw).alloc (.cells #[.int .i64 x0, .int .i64 x1, .int .i64 x2, .int .i64 x3, .int .i64 x4, .int .i64 x5, .int .i64 x6, .int .i64 x7, .int .i64 x8] 43)
  have C := Blk.new w2 w2.heap.size #[.int .i64 x0, .int .i64 x1, .int .i64 x2, .int .i64 x3, .int .i64 x4, .int .i64 x5, .int .i64 x6, .int .i64 x7, .int .i64 x8] 43 rfl
  have E2 := (E1.trans hw).alloc (.cells #[.int .i64 x0, .int .i64 x1, .int .i64 x2, .int .i64 x3, .int .i64 x4, .int .i64 x5, .int .i64 x6, .int .i64 x7, .int .i64 x8] 43)
  clear hw E1 H1 H2
  by_cases h0 : z = 0
  · subst h0
    have HS2 := (show Hid _ from HS.out rfl)
    have HN2 := (show Hid _ from HNine.out rfl)
    clear HS HNine
    go_wp2_with fail
    generalize w2.alloc (.cells #[.int .i64 x0, .int .i64 x1, .int .i64 x2, .int .i64 x3, .int .i64 x4, .int .i64 x5, .int .i64 x6, .int .i64 x7, .int .i64 x8] 43) = W at *
    go_loopw [7] (fun i wr => ∃ k : Nat, k ≤ 9 ∧ i = .int .i64 ((k : Int) + 1) ∧ Ext W wr ∧ ∀ t : Int, 1 ≤ t → t ≤ k → ¬ Hangs l t) (fun i _ => 10 - (intOf i).toNat)
    case atStart => exact ⟨0, by omega, rfl, Ext.refl _, fun t h1 h2 => by omega⟩
    case round =>
      obtain ⟨k, hk, rfl, hE, hg⟩ := hrel
      have HG := (show Hid (∀ t : Int, 1 ≤ t → t ≤ k → ¬ Hangs l t) from hg)
      clear hg
      by_cases hlt : k < 9
      · have hkk : ((k : Int) + 1) ≤ 9 := by omega
        have H4 := H3 _ (E2.trans hE) ((k : Int) + 1)
        rw [HS2.out ((k : Int) + 1) (by omega) (by omega)] at H4
        dsimp only at H4
        have HR := stateR_range l ((k : Int) + 1)
        have HH : Hid (Hangs l ((k : Int) + 1) ↔ stateR l ((k : Int) + 1) = 1 ∨ stateR l ((k : Int) + 1) = 3) := Iff.rfl
        generalize stateR l ((k : Int) + 1) = s at *
        generalize lastR l ((k : Int) + 1) = la at *
        go_wp2_with fail
        refine H4.mono ?_
        rintro e w3 ⟨rfl, hw⟩
        have hE3 := hE.trans hw
        clear hw H4
        by_cases h1 : s = 1
        · subst h1
          go_wp2_with fail
          refine (modelBegun_any _).mono ?_
          rintro e w4 ⟨rfl, hw4⟩
          go_wp2_with fail
          go_ret
          exact ⟨rfl, (E2.trans hE3).trans hw4⟩
        · by_cases h3 : s = 3
          · subst h3
            go_wp2_with fail
            refine (modelBegun_any _).mono ?_
            rintro e w4 ⟨rfl, hw4⟩
            go_wp2_with fail
            go_ret
            exact ⟨rfl, (E2.trans hE3).trans hw4⟩
          · have b1 : (s == 1) = false := by simpa using h1
            have b3 : (s == 3) = false := by simpa using h3
            have HQ : Hid (¬ Hangs l ((k : Int) + 1)) := fun x => by rcases HH.out.1 x with h | h; exact h1 h; exact h3 h
            clear h1 h3 HR
            go_wp2_with fail
            go_roundw
            case rel => exact ⟨k + 1, by omega, by go_num, hE3, fun t h1 h2 => by
                          by_cases e : t = (k : Int) + 1
                          · rw [e]; exact HQ.out
                          · exact HG.out t h1 (by omega)⟩
            case measure => simp [intOf]; omega
      · have hk9 : k = 9 := by omega
        subst hk9
        obtain ⟨g0, g1, g2, g3, g4, g5, g6, g7, g8⟩ := HN2.out (fun t h1 h9 => HG.out t h1 (by omega))
        subst g0 g1 g2 g3 g4 g5 g6 g7 g8
        have P2 := P.ext hE
        have C2 := C.ext hE
        have E3 := E2.trans hE
        clear P C E2 hE HG HN2 HS2 H3 hlt
        go_wp2_with fail
        go_loopw [11] (fun i wx => ∃ k : Nat, k ≤ 3 ∧ i = .int .i64 k ∧ Ext wr wx) (fun i _ => 3 - (intOf i).toNat)
        case atStart => exact ⟨0, by omega, rfl, Ext.refl _⟩
        case round =>
          obtain ⟨k, hk, rfl, hF⟩ := hrel
          have p := (P2.ext hF).cell
          have cc := (C2.ext hF).cell
          have e0 := eql_arr x0 x1 x2 x0 x1 x2
          have e1 := eql_arr x3 x4 x5 x3 x4 x5
          have e2 := eql_arr x6 x7 x8 x6 x7 x8
          simp only [beq_self_eq_true, Bool.and_self] at e0 e1 e2
          have hkc : k = 0 ∨ k = 1 ∨ k = 2 ∨ k = 3 := by omega
          rcases hkc with rfl | rfl | rfl | rfl
          · go_wp2_with fail
            go_quiet (fail)
            go_wp2_with fail
            go_roundw
            case rel => exact ⟨1, by omega, by go_num, hF.drewN _⟩
            case measure => simp [intOf]
          · go_wp2_with fail
            go_quiet (fail)
            go_wp2_with fail
            go_roundw
            case rel => exact ⟨2, by omega, by go_num, hF.drewN _⟩
            case measure => simp [intOf]
          · go_wp2_with fail
            go_quiet (fail)
            go_wp2_with fail
            go_roundw
            case rel => exact ⟨3, by omega, by go_num, hF.drewN _⟩
            case measure => simp [intOf]
          · go_wp2_with fail
            refine (modelBegun_any _).mono ?_
            rintro e w4 ⟨rfl, hw4⟩
            go_wp2_with fail
            go_ret
            exact ⟨rfl, (E3.trans hF).trans hw4⟩
  · have hb : (z != 0) = true := by simpa using h0
    go_wp2_with fail
    refine (modelBegun_any _).mono ?_
    rintro e w3 ⟨rfl, hw3⟩
    go_wp2_with fail
    go_ret
    exact ⟨by simp, E2.trans hw3⟩

set_option maxRecDepth 100000 in
theorem modelTrue_lifted (os : Os) (started : os.Started) (H : Type) (enc : TypeId × Value → H) :
    ReturnsInHanded {} Try.checked os 10 .any (Rows.modelTrueSpec.pre6 enc Try.prog Try.f10 Rows.modelTrueRow.domain false) (Rows.modelTrueSpec.post enc Try.prog Try.f10 false true false false) := by
  refine returnsInHanded_of_change (C := Try.checked) own started (by kernel_rfl) Try.func10
    (ChangeSpec.witness6 (enc := enc) (C := Try.checked) false ⟨#[], #[.slice none 0 0], []⟩ 8 (by kernel_rfl) (by kernel_rfl) (by kernel_rfl) (by kernel_rfl)) ?_
  intro W base args ds gs before hval0 hW hcnd _
  have hval : ∀ (j : Nat) t v, Try.f10.params[j]? = some t → args[j]? = some v → Value.okWide Try.prog W .any base t v := hval0
  have hW' := hW
  obtain ⟨p, q, hA0, hV, rfl, hfz, hnd⟩ := hW
  have hA : DataW.TrodAll enc Try.prog W 0 (fun _ => true) true Try.f10.params.toList args.toList ds p := hA0
  rw [Try.params10] at hA hval
  obtain ⟨v0, vs0, d0, ds0, p0, q0, hargs, rfl, rfl, h0, r0⟩ := trodAll_cons hA
  obtain ⟨rfl, rfl, rfl⟩ := trodAll_nil r0
  obtain rfl : args = #[v0] := by cases args; simp_all
  obtain ⟨rfl, rfl⟩ := trodVars_none hV
  obtain ⟨x0, len0, cap0, l0, rfl, s0⟩ := open_recs (hval 0 22 v0 rfl rfl) h0
  clear hA0 hval0
  refine (modelTrue_go W x0 len0 cap0 l0 s0).mono fun e W' ⟨he, bel⟩ => ?_
  subst he
  exact ⟨_, rfl, _, _, _, [], _, [], hW', trodAll_mk1 (shut_bool Try.underlying4 _),
    (trodAll_cons_mk (Below.trod laidOut (by kernel_rfl) (of_decide_eq_true (by kernel_rfl)) h0 bel (lt_of_trod h0))
    trodAll_mk0), rfl, bel.frame _, fun h => by cases h⟩

theorem modelTrue_over : Rows.modelTrueRow.holds Try.pinned (OpenSpec.ofChange Rows.modelTrueSpec) :=
  OpenClaim.holds_of_wide 10 Try.f10 rfl rfl rfl rfl rfl rfl rfl ⟨rfl, rfl, rfl, rfl, rfl⟩ rfl rfl rfl rfl rfl (by kernel_rfl) Try.func10 (by kernel_rfl)
    (of_decide_eq_true (by kernel_rfl)) (by unfold Func.isWrapper; first | (rw [if_pos (by decide +kernel)]; kernel_rfl) | (rw [if_neg (by decide +kernel)]; exact ⟨rfl, rfl⟩))
    (fun os started H enc _ => modelTrue_lifted os started H enc)
end Go.Proofs.Ytgojonhjhdbpkaa.B
namespace Go.Proofs.Ytgojonhjhdbpkaa
theorem modelTrue_holds : Rows.ModelTrueSaid := B.modelTrue_over
#print axioms modelTrue_holds
end Go.Proofs.Ytgojonhjhdbpkaa

