/- MendTrue holds: behind a crash the cells are what must be of the log that was safe; no Txn hangs; all lies on the disk; mended once more, nothing is put. -/
import Derived.Test.YtlpodahldpaniaaGreatIs1
namespace Go.Proofs.YtlpodahldpaniaaGreat.B
set_option maxRecDepth 100000
open Go.ChangeShapes Go.WideShapes Go.ChangeAt Go.RowKit

theorem nine_cells {m c : List Rc} (h : ∀ i j, i < 3 → j < 3 → (pagesR m).getD (i * 4 + j) 0 = (cellsR c).getD (i * 3 + j) 0) :
    ints (cellsR c) = val9 (pgAt (pagesR m) 0) (pgAt (pagesR m) 1) (pgAt (pagesR m) 2) := by
  obtain ⟨x0, x1, x2, x3, x4, x5, x6, x7, x8, hx⟩ := len9 (cellsR_len c)
  rw [hx] at h ⊢
  have a0 := h 0 0 (by decide) (by decide)
  have a1 := h 0 1 (by decide) (by decide)
  have a2 := h 0 2 (by decide) (by decide)
  have b0 := h 1 0 (by decide) (by decide)
  have b1 := h 1 1 (by decide) (by decide)
  have b2 := h 1 2 (by decide) (by decide)
  have c0 := h 2 0 (by decide) (by decide)
  have c1 := h 2 1 (by decide) (by decide)
  have c2 := h 2 2 (by decide) (by decide)
  simp only [val9, pgAt]
  show ints _ = #[.int .i64 ((pagesR m).getD (0 * 4 + 0) 0), .int .i64 ((pagesR m).getD (0 * 4 + 1) 0), .int .i64 ((pagesR m).getD (0 * 4 + 2) 0), .int .i64 ((pagesR m).getD (1 * 4 + 0) 0), .int .i64 ((pagesR m).getD (1 * 4 + 1) 0), .int .i64 ((pagesR m).getD (1 * 4 + 2) 0), .int .i64 ((pagesR m).getD (2 * 4 + 0) 0), .int .i64 ((pagesR m).getD (2 * 4 + 1) 0), .int .i64 ((pagesR m).getD (2 * 4 + 2) 0)]
  rw [a0, a1, a2, b0, b1, b2, c0, c1, c2]
  rfl
theorem twelve {m : List Rc} : ints (pagesR m) = val12 (pgAt (pagesR m) 0) (pgAt (pagesR m) 1) (pgAt (pagesR m) 2) := by
  have h : pagesR m = numsOf (pgAt (pagesR m) 0) (pgAt (pagesR m) 1) (pgAt (pagesR m) 2) := pages_ext (pagesR_len m) rfl fun i hi => by
    rw [numsOf_at _ _ _ hi]
    have hc : i = 0 ∨ i = 1 ∨ i = 2 := by omega
    rcases hc with rfl | rfl | rfl <;> rfl
  exact congrArg ints h
set_option maxHeartbeats 16000000 in
theorem mendTrue_go (w : World) (p q r : Pg) (a : Option Addr) (len cap : Nat) (l : List Rc) (safe : Int) (h : LogIn w a len cap l) :
    Calls Tryz.prog 5 #[wdVal p q r (.slice a len cap) safe] w fun e w' => e = .returned (.bool true) ∧ Ext w w' := by
  have hll := h.recs.len
  have H1 := fun w' (e : Ext w w') => (mendAll_any p q r a len cap l safe w' (h.ext e)).mono fun _ _ ⟨h1, h2⟩ => And.intro h1 h2.all
  have H2 := fun w' (e : Ext w w') => worldError_any p q r a len cap l safe w' (h.recs.ext e) h.le h.max
  have HA : Hid (errOf (worldErr p q r l safe) (mendErr (l.take safe.toNat)) = 0 → worldErr p q r l safe = 0 ∧ ∃ (n : Nat) (c m : List Rc) (nn : Nat), safe = (n : Nat) ∧ n ≤ len ∧ len ≤ 60 ∧ c = l.take n ∧ logErr c = 0 ∧ mendR (l.take safe.toNat) = m ∧ needR (l.take safe.toNat) = nn ∧ m.length ≤ 60 ∧ nn ≤ 60 ∧
      worldErr (pgAt (pagesR m) 0) (pgAt (pagesR m) 1) (pgAt (pagesR m) 2) m (m.length : Nat) = 0 ∧ losersOr m = [] ∧ needR m = 0 ∧ mendR m = m ∧ logErr m = 0 ∧ mendErr m = 0 ∧ ints (cellsOr c) = val9 (pgAt (pagesR m) 0) (pgAt (pagesR m) 1) (pgAt (pagesR m) 2)) := fun x => by
    obtain ⟨hz, hme⟩ := errOf_zero x
    obtain ⟨n, e1, e2, e3⟩ := safe_nat hz
    obtain ⟨hc, _⟩ := world_cut hz
    have hl := (worldErr_zero hc).1
    obtain ⟨k1, k2, k3, k4, k5, k6, k7, k8⟩ := mend_all hz hme
    have hlm := (worldErr_zero k4).1
    refine ⟨hz, n, l.take safe.toNat, _, _, e1, by omega, by omega, by rw [e1, Int.toNat_natCast], hl, rfl, rfl, k3, by omega, k4, ?_, k6, k7, hlm, mendErr_zero.2 (by rw [k6]; exact k3), ?_⟩
    · rw [losersOr_ok hlm, k5]
    · rw [cellsOr_ok hl]; exact nine_cells k8
  generalize errOf (worldErr p q r l safe) (mendErr (l.take safe.toNat)) = x1 at *
  have E0 := (Ext.refl w).alloc (.cells (wdCells p q r (.slice a len cap) safe) 28)
  have B0 := Blk.new w w.heap.size (wdCells p q r (.slice a len cap) safe) 28 rfl
  have b0 := B0.cell
  by_cases hx : x1 = 0
  · obtain ⟨hz, n, c, m, nn, rfl, hnl, h60, d2, hlc, d3, d4, hm60, hnn, hwm, hlo, hnm, hmm, hlm, hme, h9⟩ := HA.out hx
    subst hx
    rw [d3, d4] at H1
    simp only [ansP, ansL, ansS, if_true] at H1
    rw [hz] at H2
    have hnc : n ≤ cap := by have := h.le; omega
    have HCe : Hid (∀ W, Ext w W → Calls Tryz.prog 13 #[.slice a n cap] W fun e w' => e = .returned (.tuple #[.agg (val9 (pgAt (pagesR m) 0) (pgAt (pagesR m) 1) (pgAt (pagesR m) 2)), .int .i64 0]) ∧ Ext W w') := fun W e => by
      have := cells_any a n cap c W (by rw [d2]; exact (h.recs.ext e).take n hnl) (by unfold maxLen; omega)
      rw [h9, hlc] at this
      exact this
    have HNo : Hid (∀ W a1 cap1, LogIn W a1 m.length cap1 m → Calls Tryz.prog 14 #[wdVal (pgAt (pagesR m) 0) (pgAt (pagesR m) 1) (pgAt (pagesR m) 2) (.slice a1 m.length cap1) (m.length : Nat)] W fun e w' => e = .returned (.tuple #[val3 (pgAt (pagesR m) 0) (pgAt (pagesR m) 1) (pgAt (pagesR m) 2), .int .i64 0]) ∧ Ext W w') := fun W a1 cap1 hin => by
      have := now_any (pgAt (pagesR m) 0) (pgAt (pagesR m) 1) (pgAt (pagesR m) 2) a1 m.length cap1 m (m.length : Nat) W hin.recs hin.nil hin.max
      rw [nowOr, if_pos hwm, hwm, twelve] at this
      exact this
    have HLo : Hid (∀ W a1 cap1, LogIn W a1 m.length cap1 m → Calls Tryz.prog 15 #[.slice a1 m.length cap1] W fun e w' => (∃ a' cap', e = .returned (.tuple #[.slice a' 0 cap', .int .i64 0])) ∧ Ext W w') := fun W a1 cap1 hin => by
      have := losers_any a1 m.length cap1 m W hin.recs hin.max
      rw [hlo, hlm] at this
      exact this.mono fun e w' ⟨⟨a', cap', h1, _⟩, h2⟩ => ⟨⟨a', cap', h1⟩, h2⟩
    have HAg : Hid (∀ W a1 cap1, LogIn W a1 m.length cap1 m → Calls Tryz.prog 6 #[wdVal (pgAt (pagesR m) 0) (pgAt (pagesR m) 1) (pgAt (pagesR m) 2) (.slice a1 m.length cap1) (m.length : Nat)] W fun e w' => Ext W w' ∧ ∃ a' cap', e = .returned (.tuple #[wdVal (pgAt (pagesR m) 0) (pgAt (pagesR m) 1) (pgAt (pagesR m) 2) (.slice a' m.length cap') (m.length : Nat), .int .i64 0, .int .i64 0]) ∧ LogIn w' a' m.length cap' m) := fun W a1 cap1 hin => by
      have := mendAll_any (pgAt (pagesR m) 0) (pgAt (pagesR m) 1) (pgAt (pagesR m) 2) a1 m.length cap1 m (m.length : Nat) W hin
      rw [Int.toNat_natCast, List.take_length, hwm, hme, hnm, hmm] at this
      refine this.mono fun e w' ⟨h1, h2⟩ => ⟨h1, ?_⟩
      have h3 := h2.all
      simp only [errOf, ansP, ansL, ansS, if_true] at h3
      exact h3
    generalize pgAt (pagesR m) 0 = p2 at *
    generalize pgAt (pagesR m) 1 = q2 at *
    generalize pgAt (pagesR m) 2 = r2 at *
    have hep := eqn_pages p2 q2 r2
    clear HA d2 d3 d4 hz hwm hlo hnm hmm hlm hme h9 hlc
    go_enter Tryz.func5, Tryz.ntmps5
    go_wp2_with fail
    refine (H1 _ E0).mono ?_
    rintro e w1 ⟨hw, a1, cap1, rfl, L1⟩
    have o1 := (Ext.refl w1).alloc (.cells (wdCells p2 q2 r2 (.slice a1 m.length cap1) (m.length : Nat)) 28)
    have X1 := Blk.new w1 w1.heap.size (wdCells p2 q2 r2 (.slice a1 m.length cap1) (m.length : Nat)) 28 rfl
    have E1 := (E0.trans hw).trans o1
    have B1 := (B0.ext hw).ext o1
    have R1 := L1.ext o1
    clear hw o1 b0 B0 E0 H1 L1
    have b1 := B1.cell
    go_wp2_with fail
    refine (H2 _ E1).mono ?_
    rintro e w2 ⟨rfl, hw⟩
    have E2 := E1.trans hw
    have B2 := B1.ext hw
    have X2 := X1.ext hw
    have R2 := R1.ext hw
    clear hw b1 B1 E1 H2 X1 R1
    generalize w1.heap.size = bx at *
    have b2 := B2.cell
    go_wp2_with fail
    refine (HCe.out _ E2).mono ?_
    rintro e w3 ⟨rfl, hw⟩
    have o3 := hw.alloc (.cells (val9 p2 q2 r2) 40)
    have C3 := Blk.new w3 w3.heap.size (val9 p2 q2 r2) 40 rfl
    have E3 := E2.trans o3
    have X3 := X2.ext o3
    have R3 := R2.ext o3
    clear hw o3 b2 B2 E2 X2 R2 HCe
    have x3 := X3.cell
    go_wp2_with fail
    refine (HNo.out _ _ _ R3).mono ?_
    rintro e w4 ⟨rfl, hw⟩
    have o4 := hw.alloc (.cells (val12 p2 q2 r2) 25)
    have D4 := Blk.new w4 w4.heap.size (val12 p2 q2 r2) 25 rfl
    have E4 := E3.trans o4
    have X4 := X3.ext o4
    have R4 := R3.ext o4
    have C4 := C3.ext o4
    clear hw o4 x3 E3 X3 R3 C3 HNo
    generalize w3.heap.size = bc at *
    have x4 := X4.cell
    go_wp2_with fail
    refine (HLo.out _ _ _ R4).mono ?_
    rintro e w5 ⟨⟨a5, cap5, rfl⟩, hw⟩
    have E5 := E4.trans hw
    have X5 := X4.ext hw
    have R5 := R4.ext hw
    have C5 := C4.ext hw
    have D5 := D4.ext hw
    clear hw x4 E4 X4 R4 C4 D4 HLo
    generalize w4.heap.size = bd at *
    have x5 := X5.cell
    go_wp2_with fail
    refine (HAg.out _ _ _ R5).mono ?_
    rintro e w6 ⟨hw, a6, cap6, rfl, L6⟩
    have o6 := (Ext.refl w6).alloc (.cells (wdCells p2 q2 r2 (.slice a6 m.length cap6) (m.length : Nat)) 28)
    have Y6 := Blk.new w6 w6.heap.size (wdCells p2 q2 r2 (.slice a6 m.length cap6) (m.length : Nat)) 28 rfl
    have E6 := (E5.trans hw).trans o6
    have X6 := (X5.ext hw).ext o6
    have R6 := (R5.ext hw).ext o6
    have C6 := (C5.ext hw).ext o6
    have D6 := (D5.ext hw).ext o6
    have S6 := L6.ext o6
    clear hw o6 x5 E5 X5 R5 C5 D5 HAg L6
    go_wp2_with fail
    refine (mendBegun_any _).mono ?_
    rintro e w7 ⟨rfl, hw⟩
    have E7 := E6.trans hw
    have X7 := X6.ext hw
    have R7 := R6.ext hw
    have C7 := C6.ext hw
    have D7 := D6.ext hw
    have S7 := S6.ext hw
    have Y7 := Y6.ext hw
    clear hw E6 X6 R6 C6 D6 S6 Y6
    generalize w6.heap.size = by_ at *
    have c7 := C7.cell
    have d7 := D7.cell
    go_wp2_with fail
    refine (is_any p2 q2 r2 _).mono ?_
    rintro e w8 ⟨rfl, hw⟩
    have E8 := E7.trans hw
    have X8 := X7.ext hw
    have R8 := R7.ext hw
    have C8 := C7.ext hw
    have D8 := D7.ext hw
    have S8 := S7.ext hw
    have Y8 := Y7.ext hw
    clear hw c7 d7 E7 X7 R7 C7 D7 S7 Y7
    have c8 := C8.cell
    have x8 := X8.cell
    go_wp2_with fail
    refine (is_any p2 q2 r2 _).mono ?_
    rintro e w9 ⟨rfl, hw⟩
    have E9 := E8.trans hw
    have X9 := X8.ext hw
    have R9 := R8.ext hw
    have D9 := D8.ext hw
    have S9 := S8.ext hw
    have Y9 := Y8.ext hw
    clear hw c8 x8 E8 X8 R8 C8 D8 S8 Y8
    have d9 := D9.cell
    have x9 := X9.cell
    have y9 := Y9.cell
    go_wp2_with fail
    refine (sameWorlds_eq p2 q2 r2 (m.length : Nat) a6 a1 m.length cap6 cap1 m _ S9.recs R9.recs (by omega)).mono ?_
    rintro e wA ⟨rfl, hw⟩
    go_wp2_with fail
    go_ret
    exact ⟨by first | rfl | simp, E9.trans hw⟩
  · clear HA
    have hb1 : (x1 != 0) = true := by simpa using hx
    generalize ansP x1 (pgAt (pagesR (mendR (l.take safe.toNat))) 0) = p2 at *
    generalize ansP x1 (pgAt (pagesR (mendR (l.take safe.toNat))) 1) = q2 at *
    generalize ansP x1 (pgAt (pagesR (mendR (l.take safe.toNat))) 2) = r2 at *
    generalize ansS x1 ((mendR (l.take safe.toNat)).length : Nat) = s2 at *
    generalize ansS x1 (needR (l.take safe.toNat) : Nat) = n2 at *
    generalize ansL x1 (mendR (l.take safe.toNat)) = l2 at *
    go_enter Tryz.func5, Tryz.ntmps5
    go_wp2_with fail
    refine (H1 _ E0).mono ?_
    rintro e w1 ⟨hw, a1, cap1, rfl, L1⟩
    have o1 := hw.alloc (.cells (wdCells p2 q2 r2 (.slice a1 l2.length cap1) s2) 28)
    have E1 := E0.trans o1
    clear hw o1 b0 B0 E0 H1 L1
    go_wp2_with fail
    refine (mendBegun_any _).mono ?_
    rintro e w3 ⟨rfl, hw⟩
    go_wp2_with fail
    go_ret
    exact ⟨by first | rfl | simp, E1.trans hw⟩

set_option maxRecDepth 100000 in
theorem mendTrue_lifted (os : Os) (started : os.Started) (H : Type) (enc : TypeId × Value → H) :
    ReturnsInHanded {} Tryz.checked os 5 .any (Rows.mendTrueSpec.pre6 enc Tryz.prog Tryz.f5 Rows.mendTrueRow.domain false) (Rows.mendTrueSpec.post enc Tryz.prog Tryz.f5 false true false false) := by
  refine returnsInHanded_of_change (C := Tryz.checked) own started (by kernel_rfl) Tryz.func5
    (ChangeSpec.witness6 (enc := enc) (C := Tryz.checked) false ⟨#[], #[.agg #[.int .i64 0, .int .i64 0, .int .i64 0, .int .i64 0, .int .i64 0, .int .i64 0, .int .i64 0, .int .i64 0, .int .i64 0, .int .i64 0, .int .i64 0, .int .i64 0, .slice none 0 0, .int .i64 0]], []⟩ 8 (by kernel_rfl) (by kernel_rfl) (by kernel_rfl) (by kernel_rfl)) ?_
  intro W base args ds gs before hval0 hW hcnd _
  have hval : ∀ (j : Nat) t v, Tryz.f5.params[j]? = some t → args[j]? = some v → Value.okWide Tryz.prog W .any base t v := hval0
  have hW' := hW
  obtain ⟨p, q, hA0, hV, rfl, hfz, hnd⟩ := hW
  have hA : DataW.TrodAll enc Tryz.prog W 0 (fun _ => true) true Tryz.f5.params.toList args.toList ds p := hA0
  rw [Tryz.params5] at hA hval
  obtain ⟨v0, vs0, d0, ds0, p0, q0, hargs, rfl, rfl, h0, r0⟩ := trodAll_cons hA
  obtain ⟨rfl, rfl, rfl⟩ := trodAll_nil r0
  obtain rfl : args = #[v0] := by cases args; simp_all
  obtain ⟨rfl, rfl⟩ := trodVars_none hV
  obtain ⟨P0, Q0, R0, x0, len0, cap0, l0, safe0, rfl, s0⟩ := open_wd (hval 0 28 v0 rfl rfl) h0
  clear hA0 hval0
  refine (mendTrue_go W P0 Q0 R0 x0 len0 cap0 l0 safe0 s0).mono fun e W' ⟨he, bel⟩ => ?_
  subst he
  exact ⟨_, rfl, _, _, _, [], _, [], hW', trodAll_mk1 (shut_bool Tryz.underlying4 _),
    (trodAll_cons_mk (Below.trod laidOut (by kernel_rfl) (of_decide_eq_true (by kernel_rfl)) h0 bel (lt_of_trod h0))
    trodAll_mk0), rfl, bel.frame _, fun h => by cases h⟩

theorem mendTrue_over : Rows.mendTrueRow.holds Tryz.pinned (OpenSpec.ofChange Rows.mendTrueSpec) :=
  OpenClaim.holds_of_wide 5 Tryz.f5 rfl rfl rfl rfl rfl rfl rfl ⟨rfl, rfl, rfl, rfl, rfl⟩ rfl rfl rfl rfl rfl (by kernel_rfl) Tryz.func5 (by kernel_rfl)
    (of_decide_eq_true (by kernel_rfl)) (by unfold Func.isWrapper; first | (rw [if_pos (by decide +kernel)]; kernel_rfl) | (rw [if_neg (by decide +kernel)]; exact ⟨rfl, rfl⟩))
    (fun os started H enc _ => mendTrue_lifted os started H enc)
end Go.Proofs.YtlpodahldpaniaaGreat.B
namespace Go.Proofs.YtlpodahldpaniaaGreat
theorem mendTrue_holds : Rows.MendTrueSaid := B.mendTrue_over
#print axioms mendTrue_holds
end Go.Proofs.YtlpodahldpaniaaGreat

