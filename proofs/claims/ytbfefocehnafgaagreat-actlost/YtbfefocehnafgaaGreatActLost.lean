/- ActLost holds: who has not committed is gone behind a crash: it has not won, and its state is 0 or 4. -/
import Derived.Test.YtbfefocehnafgaaGreatAct5
import Derived.Test.YtbfefocehnafgaaGreatBaseA
namespace Go.Proofs.YtbfefocehnafgaaGreat.B
set_option maxRecDepth 100000
open Go.ChangeShapes Go.WideShapes Go.ChangeAt Go.RowKit

theorem stateAns_ok {l : List Rc} {t : Int} (h : logErr l = 0) (ht : 1 ≤ t ∧ t ≤ 9) : stateAns l t = (stateR l t, ((lastR l t : Nat) : Int), 0) := by
  have ho : out 1 9 [t] = false := by
    unfold out
    simp
    omega
  unfold stateAns
  rw [if_pos h, ho]
  rfl
set_option maxHeartbeats 16000000 in
theorem actLost_ok (w : World) (p q r : Pg) (a : Option Addr) (len cap : Nat) (l : List Rc) (safe : Int) (h : LogIn w a len cap l) (c : Int) (hc : IntKind.i64.has c) (hz : worldErr p q r l safe = 0) :
    Calls Tryz.prog 7 #[wdVal p q r (.slice a len cap) safe, .int .i64 c] w fun e w' => e = .returned (.bool true) ∧ Ext w w' := by
  have hch := chooseN_lt c (n := 9) (by decide)
  have HCh := fun W => choose_any c 9 W hc (by decide) (by decide)
  have HK := fun w' (e : Ext w w') => worldCheck_any p q r a len cap l safe w' (h.recs.ext e) h.nil h.max
  rw [hz] at HK
  have ht : (1 : Int) ≤ 1 + (chooseN c 9 : Nat) ∧ 1 + (chooseN c 9 : Nat) ≤ (9 : Int) := by omega
  have HS := fun w' (e : Ext w w') => logState_any a len cap l (1 + (chooseN c 9 : Nat)) w' (h.recs.ext e) h.max
  rw [stateAns_ok (worldErr_zero hz).1 ht] at HS
  have H1 := fun W (e : Ext w W) => actDo_any ⟨p, q, r, l, safe⟩ a len cap ⟨6, 0, 0, 0, 0⟩ W (h.ext e)
  obtain ⟨e1, e2⟩ := do_k6 (W := ⟨p, q, r, l, safe⟩) (x := ⟨6, 0, 0, 0, 0⟩) rfl
  unfold doV at H1
  rw [e1, e2, show errOf (⟨p, q, r, l, safe⟩ : Wd).err (mendErr (⟨p, q, r, l, safe⟩ : Wd).cut) = mendErr (l.take safe.toNat) from by unfold errOf; rw [if_pos (show (⟨p, q, r, l, safe⟩ : Wd).err = 0 from hz)]; rfl] at H1
  clear e1 e2
  have HL : Hid (mendErr (l.take safe.toNat) = 0 → _) := fun x => lost_all hz x ht
  have HM : Hid (mendErr (l.take safe.toNat) ≠ 0 → mendErr (l.take safe.toNat) = 2) := mendErr_many
  have hll := h.recs.len
  have h60 : len ≤ 60 := by have := right_len _ (logErr_zero (worldErr_zero hz).1).2; omega
  generalize stateR l (1 + (chooseN c 9 : Nat)) = st at *
  generalize ((lastR l (1 + (chooseN c 9 : Nat)) : Nat) : Int) = la at *
  generalize mendErr (l.take safe.toNat) = x1 at *
  have E0 := (Ext.refl w).alloc (.cells (wdCells p q r (.slice a len cap) safe) 28)
  have B0 := Blk.new w w.heap.size (wdCells p q r (.slice a len cap) safe) 28 rfl
  have b0 := B0.cell
  by_cases hx : x1 = 0
  · obtain ⟨k1, k2, k3, k4⟩ := HL.out hx
    rw [if_pos hx] at H1
    subst hx
    unfold DoW mendWd Wd.cut at H1
    dsimp only at H1
    generalize hm : mendR (l.take safe.toNat) = m at *
    generalize pgAt (pagesR m) 0 = p2 at *
    generalize pgAt (pagesR m) 1 = q2 at *
    generalize pgAt (pagesR m) 2 = r2 at *
    have HS2 : Hid (∀ W a1 cap1, LogIn W a1 m.length cap1 m → Calls Tryz.prog 25 #[.slice a1 m.length cap1, .int .i64 (1 + (chooseN c 9 : Nat))] W fun e w' => e = .returned (.tuple #[.int .i64 (stateR m (1 + (chooseN c 9 : Nat))), .int .i64 (lastR m (1 + (chooseN c 9 : Nat)) : Nat), .int .i64 0]) ∧ Ext W w') := fun W a1 cap1 i => by
      have := logState_any a1 m.length cap1 m (1 + (chooseN c 9 : Nat)) W i.recs i.max
      rw [stateAns_ok k2 ht] at this
      exact this
    have HW : Hid (∀ W a1 cap1, LogIn W a1 m.length cap1 m → Calls Tryz.prog 20 #[.slice a1 m.length cap1] W fun e w' => (∃ a' cap', e = .returned (.tuple #[.slice a' (winsR m).length cap', .int .i64 0]) ∧ (winsR m).length ≤ cap' ∧ Ints W.heap.size w' a' (winsR m)) ∧ Ext W w') := fun W a1 cap1 i => by
      have := wins_any a1 m.length cap1 m W i.recs i.max
      rw [winsOr_ok k2, k2] at this
      exact this
    have hwl : (winsR m).length ≤ 60 := Nat.le_trans (winsR_le m) k3
    have HW4 : Hid (∀ y ∈ winsR m, y = 1 + ((chooseN c 9 : Nat) : Int) → st = 2 ∨ st = 4) := fun y hy e => k4 (e ▸ hy)
    have hst0 : Hid (st = 2 ∨ st = 4 → (st == 0) = false ∧ (st == 1) = false ∧ (st == 3) = false) := fun y => by rcases y with rfl | rfl <;> decide
    have hnow : (stateR m (1 + (chooseN c 9 : Nat)) != 0) = false ∨ ((stateR m (1 + (chooseN c 9 : Nat)) != 0) = true ∧ (stateR m (1 + (chooseN c 9 : Nat)) != 4) = false) := by
      rcases k1 with e | e
      · left; rw [e]; rfl
      · right; rw [e]; exact ⟨rfl, rfl⟩
    generalize stateR m (1 + (chooseN c 9 : Nat)) = sn at *
    generalize ((lastR m (1 + (chooseN c 9 : Nat)) : Nat) : Int) = la2 at *
    generalize winsR m = ws at *
    generalize ((m.length : Nat) : Int) = s2 at *
    clear k1 k2 k4 HL HM hm ht
    go_enter Tryz.func7, Tryz.ntmps7
    go_wp2_with fail
    refine (HK _ E0).mono ?_
    rintro e w1 ⟨rfl, hw⟩
    have E1 := E0.trans hw
    have B1 := B0.ext hw
    clear hw B0 b0 E0 HK
    go_wp2_with fail
    refine (HCh _).mono ?_
    rintro e w2 ⟨rfl, rfl⟩
    clear HCh
    have b1 := B1.cell
    have hadd : (1 : Int) + ((chooseN c 9 : Nat) : Int) ≤ 9 := by omega
    go_wp2_with fail
    refine (HS _ E1).mono ?_
    rintro e w3 ⟨rfl, hw⟩
    have E3 := E1.trans hw
    have B3 := B1.ext hw
    clear hw B1 b1 E1 HS
    have b3 := B3.cell
    go_wp2_with fail
    refine (H1 _ E3).mono ?_
    rintro e w4 ⟨hw, a4, cap4, rfl, L4, _⟩
    have o4 := (Ext.refl w4).alloc (.cells (wdCells p2 q2 r2 (.slice a4 m.length cap4) s2) 28)
    have X4 := Blk.new w4 w4.heap.size (wdCells p2 q2 r2 (.slice a4 m.length cap4) s2) 28 rfl
    have E4 := (E3.trans hw).trans o4
    have R4 := L4.ext o4
    clear hw o4 b3 B3 E3 H1 L4
    have x4 := X4.cell
    go_wp2_with fail
    refine (HS2.out _ _ _ R4).mono ?_
    rintro e w5 ⟨rfl, hw⟩
    have E5 := E4.trans hw
    have R5 := R4.ext hw
    have X5 := X4.ext hw
    clear hw x4 X4 E4 R4 HS2
    generalize w4.heap.size = bx at *
    have x5 := X5.cell
    go_wp2_with fail
    refine (HW.out _ _ _ R5).mono ?_
    rintro e w6 ⟨⟨a6, cap6, rfl, hwc, hI⟩, hw⟩
    have E6 := E5.trans hw
    clear hw x5 X5 E5 R5 HW
    rcases hnow with hn | ⟨hn, hn4⟩
    all_goals
      go_wp2_with fail
      go_loopw [16] (fun i wr => ∃ k : Nat, k ≤ ws.length ∧ i = .int .i64 k ∧ Ext w6 wr) (fun i _ => ws.length - (intOf i).toNat)
      case atStart => exact ⟨0, Nat.zero_le _, rfl, Ext.refl _⟩
      case round =>
        obtain ⟨k, hk, rfl, hE⟩ := hrel
        by_cases hlt : k < ws.length
        · obtain ⟨bi, rfl, ci⟩ := (hI.ext hE).at hlt
          have HWk : Hid (ws[k] = 1 + ((chooseN c 9 : Nat) : Int) → st = 2 ∨ st = 4) := HW4.out _ (List.getElem_mem hlt)
          generalize ws[k] = y at *
          by_cases hy : y = 1 + ((chooseN c 9 : Nat) : Int)
          · obtain ⟨s0, s1, s3⟩ := hst0.out (HWk.out hy)
            have hyb : (y == 1 + ((chooseN c 9 : Nat) : Int)) = true := by simp [hy]
            clear HWk hy
            go_wp2_with fail
            go_roundw
            case rel => exact ⟨k + 1, by omega, by go_num, hE⟩
            case measure => simp [intOf]; omega
          · have hyb : (y == 1 + ((chooseN c 9 : Nat) : Int)) = false := by simp [hy]
            clear HWk hy
            go_wp2_with fail
            go_roundw
            case rel => exact ⟨k + 1, by omega, by go_num, hE⟩
            case measure => simp [intOf]; omega
        · go_wp2_with fail
          refine (actBegun_any _).mono ?_
          rintro e w9 ⟨rfl, hw⟩
          go_wp2_with fail
          go_ret
          exact ⟨by first | rfl | simp, (E6.trans hE).trans hw⟩
  · have hx2 := HM.out hx
    rw [if_neg hx] at H1
    subst hx2
    clear HL HM hx
    unfold DoW noWd at H1
    dsimp only [List.length_nil] at H1
    go_enter Tryz.func7, Tryz.ntmps7
    go_wp2_with fail
    refine (HK _ E0).mono ?_
    rintro e w1 ⟨rfl, hw⟩
    have E1 := E0.trans hw
    have B1 := B0.ext hw
    clear hw B0 b0 E0 HK
    go_wp2_with fail
    refine (HCh _).mono ?_
    rintro e w2 ⟨rfl, rfl⟩
    clear HCh
    have b1 := B1.cell
    have hadd : (1 : Int) + ((chooseN c 9 : Nat) : Int) ≤ 9 := by omega
    go_wp2_with fail
    refine (HS _ E1).mono ?_
    rintro e w3 ⟨rfl, hw⟩
    have E3 := E1.trans hw
    have B3 := B1.ext hw
    clear hw B1 b1 E1 HS
    have b3 := B3.cell
    go_wp2_with fail
    refine (H1 _ E3).mono ?_
    rintro e w4 ⟨hw, a4, cap4, rfl, L4, _⟩
    have o4 := hw.alloc (.cells (wdCells noPg noPg noPg (.slice a4 0 cap4) 0) 28)
    have E4 := E3.trans o4
    clear hw o4 b3 B3 E3 H1 L4
    go_wp2_with fail
    refine (actBegun_any _).mono ?_
    rintro e w5 ⟨rfl, hw⟩
    go_wp2_with fail
    go_ret
    exact ⟨by first | rfl | simp, E4.trans hw⟩
set_option maxHeartbeats 4000000 in
theorem actLost_go (w : World) (p q r : Pg) (a : Option Addr) (len cap : Nat) (l : List Rc) (safe : Int) (h : LogIn w a len cap l) (c : Int) (hc : IntKind.i64.has c) :
    Calls Tryz.prog 7 #[wdVal p q r (.slice a len cap) safe, .int .i64 c] w fun e w' => e = .returned (.bool true) ∧ Ext w w' := by
  by_cases hz : worldErr p q r l safe = 0
  · exact actLost_ok w p q r a len cap l safe h c hc hz
  · have HK := fun w' (e : Ext w w') => worldCheck_any p q r a len cap l safe w' (h.recs.ext e) h.nil h.max
    have hb : (worldErr p q r l safe != 0) = true := by simpa using hz
    generalize worldErr p q r l safe = x1 at *
    have E0 := (Ext.refl w).alloc (.cells (wdCells p q r (.slice a len cap) safe) 28)
    have b0 := (Blk.new w w.heap.size (wdCells p q r (.slice a len cap) safe) 28 rfl).cell
    go_enter Tryz.func7, Tryz.ntmps7
    go_wp2_with fail
    refine (HK _ E0).mono ?_
    rintro e w1 ⟨rfl, hw⟩
    have E1 := E0.trans hw
    clear hw b0 E0 HK
    go_wp2_with fail
    refine (actBegun_any _).mono ?_
    rintro e w3 ⟨rfl, hw⟩
    go_wp2_with fail
    go_ret
    exact ⟨rfl, E1.trans hw⟩

set_option maxRecDepth 100000 in
theorem actLost_lifted (os : Os) (started : os.Started) (H : Type) (enc : TypeId × Value → H) :
    ReturnsInHanded {} Tryz.checked os 7 .any (Rows.actLostSpec.pre6 enc Tryz.prog Tryz.f7 Rows.actLostRow.domain false) (Rows.actLostSpec.post enc Tryz.prog Tryz.f7 false true false false) := by
  refine returnsInHanded_of_change (C := Tryz.checked) own started (by kernel_rfl) Tryz.func7
    (ChangeSpec.witness6 (enc := enc) (C := Tryz.checked) false ⟨#[], #[.agg #[.int .i64 0, .int .i64 0, .int .i64 0, .int .i64 0, .int .i64 0, .int .i64 0, .int .i64 0, .int .i64 0, .int .i64 0, .int .i64 0, .int .i64 0, .int .i64 0, .slice none 0 0, .int .i64 0], .int .i64 0], []⟩ 8 (by kernel_rfl) (by kernel_rfl) (by kernel_rfl) (by kernel_rfl)) ?_
  intro W base args ds gs before hval0 hW hcnd _
  have hval : ∀ (j : Nat) t v, Tryz.f7.params[j]? = some t → args[j]? = some v → Value.okWide Tryz.prog W .any base t v := hval0
  have hW' := hW
  obtain ⟨p, q, hA0, hV, rfl, hfz, hnd⟩ := hW
  have hA : DataW.TrodAll enc Tryz.prog W 0 (fun _ => true) true Tryz.f7.params.toList args.toList ds p := hA0
  rw [Tryz.params7] at hA hval
  obtain ⟨v0, vs0, d0, ds0, p0, q0, hargs, rfl, rfl, h0, r0⟩ := trodAll_cons hA
  obtain ⟨v1, vs1, d1, ds1, p1, q1, rfl, rfl, rfl, h1, r1⟩ := trodAll_cons r0
  obtain ⟨rfl, rfl, rfl⟩ := trodAll_nil r1
  obtain rfl : args = #[v0, v1] := by cases args; simp_all
  obtain ⟨rfl, rfl⟩ := trodVars_none hV
  obtain ⟨P0, Q0, R0, x0, len0, cap0, l0, safe0, rfl, s0⟩ := open_wd (hval 0 28 v0 rfl rfl) h0
  obtain ⟨a1, rfl, b1⟩ := open_num (hval 1 3 v1 rfl rfl)
  clear hA0 hval0
  refine (actLost_go W P0 Q0 R0 x0 len0 cap0 l0 safe0 s0 a1 b1).mono fun e W' ⟨he, bel⟩ => ?_
  subst he
  exact ⟨_, rfl, _, _, _, [], _, [], hW', trodAll_mk1 (shut_bool Tryz.underlying4 _),
    (trodAll_cons_mk (Below.trod laidOut (by kernel_rfl) (of_decide_eq_true (by kernel_rfl)) h0 bel (lt_of_trod h0))
    (trodAll_cons_mk (Below.trod laidOut (by kernel_rfl) (of_decide_eq_true (by kernel_rfl)) h1 bel (lt_of_trod h1))
    trodAll_mk0)), rfl, bel.frame _, fun h => by cases h⟩

theorem actLost_over : Rows.actLostRow.holds Tryz.pinned (OpenSpec.ofChange Rows.actLostSpec) :=
  OpenClaim.holds_of_wide 7 Tryz.f7 rfl rfl rfl rfl rfl rfl rfl ⟨rfl, rfl, rfl, rfl, rfl⟩ rfl rfl rfl rfl rfl (by kernel_rfl) Tryz.func7 (by kernel_rfl)
    (of_decide_eq_true (by kernel_rfl)) (by unfold Func.isWrapper; first | (rw [if_pos (by decide +kernel)]; kernel_rfl) | (rw [if_neg (by decide +kernel)]; exact ⟨rfl, rfl⟩))
    (fun os started H enc _ => actLost_lifted os started H enc)
end Go.Proofs.YtbfefocehnafgaaGreat.B
namespace Go.Proofs.YtbfefocehnafgaaGreat
theorem actLost_holds : Rows.ActLostSaid := B.actLost_over
#print axioms actLost_holds
end Go.Proofs.YtbfefocehnafgaaGreat

