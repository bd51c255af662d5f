/- MendFew holds: just so many records are put as there are Writes that stand, of Txns that hang, and an End for each of these, and for each that has its Commit alone. -/
import Derived.Test.YtlpodahldpaniaaMend2
import Derived.Test.YtlpodahldpaniaaAnsB
import Derived.Test.YtlpodahldpaniaaStateAns
namespace Go.Proofs.Ytlpodahldpaniaa.B
set_option maxRecDepth 100000
open Go.ChangeShapes Go.WideShapes Go.ChangeAt Go.RowKit

/-- How many records the first k Txns still want. -/
def needTo (l : List Rc) : Nat → Nat
  | 0 => 0
  | k + 1 => needTo l k + needAt l (1 + (k : Int))
theorem needTo_all (l : List Rc) : needTo l 9 = needR l := by
  show 0 + needAt l 1 + needAt l 2 + needAt l 3 + needAt l 4 + needAt l 5 + needAt l 6 + needAt l 7 + needAt l 8 + needAt l 9 = _
  rw [Nat.zero_add]
  rfl
theorem need_stack {l : List Rc} (hR : Right l) {t : Int} (h : stateR l t ≠ 4) : (stackR l t).length = (standB l t).length := by rw [stack_eq t l hR h]
theorem needAt_le {l : List Rc} (hR : Right l) (t : Int) : needAt l t ≤ 1001 := by
  have := stand_len hR t
  unfold needAt
  split
  · omega
  · split <;> omega
theorem needTo_le {l : List Rc} (hR : Right l) : ∀ k, needTo l k ≤ k * 1001 := by
  intro k
  induction k with
  | zero => exact Nat.le_refl _
  | succ k ih => have := needAt_le hR (1 + (k : Int)); show needTo l k + _ ≤ _; omega
set_option maxHeartbeats 16000000 in
theorem mendFew_go (w : World) (p q r : Pg) (a : Option Addr) (len cap : Nat) (l : List Rc) (safe : Int) (h : LogIn w a len cap l) :
    Calls Try.prog 6 #[wdVal p q r (.slice a len cap) safe] w fun e w' => e = .returned (.bool true) ∧ Ext w w' := by
  have hll := h.recs.len
  have H1 := fun w' (e : Ext w w') => (mendAll_any p q r a len cap l safe w' (h.ext e)).mono fun _ _ ⟨h1, h2⟩ => And.intro h1 h2.all
  have H2 := fun w' (e : Ext w w') => worldError_any p q r a len cap l safe w' (h.recs.ext e) h.le h.max
  have HA : Hid (errOf (worldErr p q r l safe) (mendErr (l.take safe.toNat)) = 0 → worldErr p q r l safe = 0 ∧ ∃ (n : Nat) (c m : List Rc) (nn : Nat), safe = (n : Nat) ∧ n ≤ len ∧ len ≤ 60 ∧ l.take safe.toNat = c ∧ c = l.take n ∧ Right c ∧ logErr c = 0 ∧ mendR (l.take safe.toNat) = m ∧ needR (l.take safe.toNat) = nn ∧ nn = needR c ∧ m.length = n + nn ∧ m.length ≤ 60) := fun x => by
    obtain ⟨hz, hme⟩ := errOf_zero x
    obtain ⟨n, e1, e2, e3⟩ := safe_nat hz
    obtain ⟨hc, _⟩ := world_cut hz
    have hl := (worldErr_zero hc).1
    obtain ⟨_, k2, k3, _⟩ := mend_all hz hme
    refine ⟨hz, n, _, _, _, e1, by omega, by omega, rfl, by rw [e1, Int.toNat_natCast], (logErr_zero hl).2, hl, rfl, rfl, rfl, ?_, k3⟩
    rw [k2, e1, Int.toNat_natCast]
  generalize errOf (worldErr p q r l safe) (mendErr (l.take safe.toNat)) = x1 at *
  have E0 := (Ext.refl w).alloc (.cells (wdCells p q r (.slice a len cap) safe) 28)
  have B0 := Blk.new w w.heap.size (wdCells p q r (.slice a len cap) safe) 28 rfl
  have b0 := B0.cell
  by_cases hx : x1 = 0
  · obtain ⟨hz, n, c, m, nn, rfl, hnl, h60, d1, d2, hR, hlc, d3, d4, d5, hml, hm60⟩ := HA.out hx
    subst hx
    rw [d3, d4] at H1
    simp only [ansP, ansL, ansS, if_true] at H1
    rw [hz] at H2
    have hnn : nn ≤ 60 := by omega
    have hnc : n ≤ cap := by have := h.le; omega
    have HRc : Hid (∀ W, Ext w W → Recs W a n c) := fun W e => by rw [d2]; exact (h.recs.ext e).take n hnl
    have HNA : Hid (needTo c 9 = nn) := by rw [Hid, needTo_all, d5]
    have HS1 : Hid (∀ m : Nat, m < 9 → stateAns c (1 + (m : Int)) = (stateR c (1 + (m : Int)), ((lastR c (1 + (m : Int)) : Nat) : Int), 0)) := fun m hm => stateAns_ok hlc hm
    have HNS : Hid (∀ k, needTo c (k + 1) = needTo c k + needAt c (1 + (k : Int))) := fun _ => rfl
    have HNL : Hid (∀ k, needTo c k ≤ k * 1001) := needTo_le hR
    have HLen := (show Hid (m.length = n + nn) from hml)
    generalize pgAt (pagesR m) 0 = p2 at *
    generalize pgAt (pagesR m) 1 = q2 at *
    generalize pgAt (pagesR m) 2 = r2 at *
    have HSt : Hid (∀ k : Nat, stateR c (1 + (k : Int)) = 1 ∨ stateR c (1 + (k : Int)) = 3 → needAt c (1 + (k : Int)) = 1 + (stackR c (1 + (k : Int))).length) := fun k hk => by
      rw [need_stack hR (by omega)]
      unfold needAt
      rw [if_neg (by omega), if_pos hk]
    have HSt2 : Hid (∀ k : Nat, stateR c (1 + (k : Int)) = 2 → needAt c (1 + (k : Int)) = 1) := fun k hk => by unfold needAt; rw [if_pos hk]
    have HSt0 : Hid (∀ k : Nat, ¬ stateR c (1 + (k : Int)) = 2 → ¬ (stateR c (1 + (k : Int)) = 1 ∨ stateR c (1 + (k : Int)) = 3) → needAt c (1 + (k : Int)) = 0) := fun k h1 h2 => by unfold needAt; rw [if_neg h1, if_neg h2]
    have HSL : Hid (∀ k : Nat, (stackR c (1 + (k : Int))).length ≤ 1000) := fun k => Nat.le_trans (stackR_le _ c) (by have := right_len c hR; omega)
    clear HA d1 d3 d4 d5 hz hml
    go_enter Try.func6, Try.ntmps6
    go_wp2_with fail
    refine (H1 _ E0).mono ?_
    rintro e w1 ⟨hw, a1, cap1, rfl, L1⟩
    have o1 := (Ext.refl w1).alloc (.cells (wdCells p2 q2 r2 (.slice a1 m.length cap1) (m.length : Nat)) 28)
    have X1 := Blk.new w1 w1.heap.size (wdCells p2 q2 r2 (.slice a1 m.length cap1) (m.length : Nat)) 28 rfl
    have E1 := (E0.trans hw).trans o1
    have B1 := (B0.ext hw).ext o1
    clear hw o1 b0 B0 E0 H1 L1
    have b1 := B1.cell
    go_wp2_with fail
    refine (H2 _ E1).mono ?_
    rintro e w2 ⟨rfl, hw⟩
    have E2 := E1.trans hw
    have B2 := B1.ext hw
    have X2 := X1.ext hw
    clear hw b1 B1 E1 H2 X1
    have b2 := B2.cell
    go_wp2_with fail
    go_loopw [7, 8] (fun d i wr => ∃ k : Nat, k ≤ 9 ∧ i = .int .i64 (1 + (k : Int)) ∧ d = .int .i64 (needTo c k : Nat) ∧ Ext w2 wr) (fun _ i _ => 10 - (intOf i).toNat)
    case atStart => exact ⟨0, by omega, rfl, rfl, Ext.refl _⟩
    case round =>
      obtain ⟨k, hk, rfl, rfl, hE⟩ := hrel
      by_cases hlt : k < 9
      · have HN := HNS.out k
        have hs := HS1.out k hlt
        have HL := logState_any a n cap c (1 + (k : Int)) wr (HRc.out _ (E2.trans hE)) (by unfold maxLen; omega)
        have HStand := fun W (e : Ext w W) => standing_any a n cap c (1 + (k : Int)) W (HRc.out _ e) (by omega)
        rw [hs] at HL
        have t1 := HSt.out k
        have t2 := HSt2.out k
        have t0 := HSt0.out k
        have tl := HNL.out k
        have ts := HSL.out k
        clear HSt HSt2 HSt0 HSL hs
        generalize needAt c (1 + (k : Int)) = na at *
        generalize stateR c (1 + (k : Int)) = s at *
        generalize needTo c k = nk at *
        have T1 := (show Hid (s = 1 ∨ s = 3 → na = 1 + (stackR c (1 + (k : Int))).length) from t1)
        have T2 := (show Hid (s = 2 → na = 1) from t2)
        have T0 := (show Hid (¬ s = 2 → ¬ (s = 1 ∨ s = 3) → na = 0) from t0)
        have HNk := (show Hid (needTo c (k + 1) = nk + na) from HN)
        clear t0 t1 t2 HN
        have hkl : (1 + (k : Int)) ≤ 9 := by omega
        go_wp2_with fail
        refine HL.mono ?_
        rintro e w3 ⟨rfl, hw⟩
        have E3 := hE.trans hw
        clear hw HL
        by_cases hs2 : s = 2
        · subst hs2
          have HNa : Hid (na = 1) := T2.out rfl
          clear T0 T1 T2
          go_wp2_with fail
          go_roundw
          case rel => exact ⟨k + 1, by omega, by go_num, by rw [HNk.out, HNa.out]; go_num, E3⟩
          case measure => simp [intOf]; omega
        · have hb2 : (s == 2) = false := by simpa using hs2
          by_cases hs : s = 1 ∨ s = 3
          · have HNa := (show Hid (na = 1 + (stackR c (1 + (k : Int))).length) from T1.out hs)
            clear T0 T1 T2 hs2
            generalize stackR c (1 + (k : Int)) = st at *
            rcases hs with rfl | rfl
            · go_wp2_with fail
              refine (HStand _ (E2.trans E3)).mono ?_
              rintro e w4 ⟨⟨a4, cap4, rfl, _⟩, hw⟩
              have E4 := E3.trans hw
              go_wp2_with fail
              go_roundw
              case rel => exact ⟨k + 1, by omega, by go_num, by rw [HNk.out, HNa.out]; go_num, E4⟩
              case measure => simp [intOf]; omega
            · go_wp2_with fail
              refine (HStand _ (E2.trans E3)).mono ?_
              rintro e w4 ⟨⟨a4, cap4, rfl, _⟩, hw⟩
              have E4 := E3.trans hw
              go_wp2_with fail
              go_roundw
              case rel => exact ⟨k + 1, by omega, by go_num, by rw [HNk.out, HNa.out]; go_num, E4⟩
              case measure => simp [intOf]; omega
          · have HNa := (show Hid (na = 0) from T0.out hs2 hs)
            have hb1 : (s == 1) = false := by simp; omega
            have hb3 : (s == 3) = false := by simp; omega
            clear T0 T1 T2 hs hs2
            go_wp2_with fail
            go_roundw
            case rel => exact ⟨k + 1, by omega, by go_num, by rw [HNk.out, HNa.out]; go_num, E3⟩
            case measure => simp [intOf]; omega
      · obtain rfl : k = 9 := by omega
        rw [HNA.out]
        clear HS1 HNS HNL HSt HSt2 HSt0 HSL HRc HNA
        go_wp2_with fail
        refine (mendBegun_any _).mono ?_
        rintro e w3 ⟨rfl, hw⟩
        have o3 := hE.trans hw
        have b3 := (B2.ext o3).cell
        have x3 := (X2.ext o3).cell
        have hbn : ((nn : Int) == (nn : Int)) = true := by simp
        have hbl : ((m.length : Int) == (n : Int) + (nn : Int)) = true := by have := HLen.out; simp; omega
        go_wp2_with fail
        go_ret
        exact ⟨by simp, E2.trans o3⟩
  · clear HA
    have hb1 : (x1 != 0) = true := by simpa using hx
    generalize ansP x1 (pgAt (pagesR (mendR (l.take safe.toNat))) 0) = p2 at *
    generalize ansP x1 (pgAt (pagesR (mendR (l.take safe.toNat))) 1) = q2 at *
    generalize ansP x1 (pgAt (pagesR (mendR (l.take safe.toNat))) 2) = r2 at *
    generalize ansS x1 ((mendR (l.take safe.toNat)).length : Nat) = s2 at *
    generalize ansS x1 (needR (l.take safe.toNat) : Nat) = n2 at *
    generalize ansL x1 (mendR (l.take safe.toNat)) = l2 at *
    go_enter Try.func6, Try.ntmps6
    go_wp2_with fail
    refine (H1 _ E0).mono ?_
    rintro e w1 ⟨hw, a1, cap1, rfl, L1⟩
    have o1 := hw.alloc (.cells (wdCells p2 q2 r2 (.slice a1 l2.length cap1) s2) 28)
    have E1 := E0.trans o1
    clear hw o1 b0 B0 E0 H1 L1
    go_wp2_with fail
    refine (mendBegun_any _).mono ?_
    rintro e w3 ⟨rfl, hw⟩
    go_wp2_with fail
    go_ret
    exact ⟨by first | rfl | simp, E1.trans hw⟩

set_option maxRecDepth 100000 in
theorem mendFew_lifted (os : Os) (started : os.Started) (H : Type) (enc : TypeId × Value → H) :
    ReturnsInHanded {} Try.checked os 6 .any (Rows.mendFewSpec.pre6 enc Try.prog Try.f6 Rows.mendFewRow.domain false) (Rows.mendFewSpec.post enc Try.prog Try.f6 false true false false) := by
  refine returnsInHanded_of_change (C := Try.checked) own started (by kernel_rfl) Try.func6
    (ChangeSpec.witness6 (enc := enc) (C := Try.checked) false ⟨#[], #[.agg #[.int .i64 0, .int .i64 0, .int .i64 0, .int .i64 0, .int .i64 0, .int .i64 0, .int .i64 0, .int .i64 0, .int .i64 0, .int .i64 0, .int .i64 0, .int .i64 0, .slice none 0 0, .int .i64 0]], []⟩ 8 (by kernel_rfl) (by kernel_rfl) (by kernel_rfl) (by kernel_rfl)) ?_
  intro W base args ds gs before hval0 hW hcnd _
  have hval : ∀ (j : Nat) t v, Try.f6.params[j]? = some t → args[j]? = some v → Value.okWide Try.prog W .any base t v := hval0
  have hW' := hW
  obtain ⟨p, q, hA0, hV, rfl, hfz, hnd⟩ := hW
  have hA : DataW.TrodAll enc Try.prog W 0 (fun _ => true) true Try.f6.params.toList args.toList ds p := hA0
  rw [Try.params6] at hA hval
  obtain ⟨v0, vs0, d0, ds0, p0, q0, hargs, rfl, rfl, h0, r0⟩ := trodAll_cons hA
  obtain ⟨rfl, rfl, rfl⟩ := trodAll_nil r0
  obtain rfl : args = #[v0] := by cases args; simp_all
  obtain ⟨rfl, rfl⟩ := trodVars_none hV
  obtain ⟨P0, Q0, R0, x0, len0, cap0, l0, safe0, rfl, s0⟩ := open_wd (hval 0 28 v0 rfl rfl) h0
  clear hA0 hval0
  refine (mendFew_go W P0 Q0 R0 x0 len0 cap0 l0 safe0 s0).mono fun e W' ⟨he, bel⟩ => ?_
  subst he
  exact ⟨_, rfl, _, _, _, [], _, [], hW', trodAll_mk1 (shut_bool Try.underlying4 _),
    (trodAll_cons_mk (Below.trod laidOut (by kernel_rfl) (of_decide_eq_true (by kernel_rfl)) h0 bel (lt_of_trod h0))
    trodAll_mk0), rfl, bel.frame _, fun h => by cases h⟩

theorem mendFew_over : Rows.mendFewRow.holds Try.pinned (OpenSpec.ofChange Rows.mendFewSpec) :=
  OpenClaim.holds_of_wide 6 Try.f6 rfl rfl rfl rfl rfl rfl rfl ⟨rfl, rfl, rfl, rfl, rfl⟩ rfl rfl rfl rfl rfl (by kernel_rfl) Try.func6 (by kernel_rfl)
    (of_decide_eq_true (by kernel_rfl)) (by unfold Func.isWrapper; first | (rw [if_pos (by decide +kernel)]; kernel_rfl) | (rw [if_neg (by decide +kernel)]; exact ⟨rfl, rfl⟩))
    (fun os started H enc _ => mendFew_lifted os started H enc)
end Go.Proofs.Ytlpodahldpaniaa.B
namespace Go.Proofs.Ytlpodahldpaniaa
theorem mendFew_holds : Rows.MendFewSaid := B.mendFew_over
#print axioms mendFew_holds
end Go.Proofs.Ytlpodahldpaniaa

