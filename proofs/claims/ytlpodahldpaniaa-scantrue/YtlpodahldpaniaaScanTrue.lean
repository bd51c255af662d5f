/- ScanTrue holds: whatever lies on the disk, scan.Redo tells what the log tells; what is done already is not done again. -/
import Derived.Test.YtlpodahldpaniaaScan6
namespace Go.Proofs.Ytlpodahldpaniaa.B
set_option maxRecDepth 100000
open Go.ChangeShapes Go.WideShapes Go.ChangeAt Go.RowKit

/-- The pages as they are told lie on the disk: the world is right, too. -/
theorem world_told_all {l : List Rc} (hR : Right l) : worldErr (pgAt (pagesR l) 0) (pgAt (pagesR l) 1) (pgAt (pagesR l) 2) l (l.length : Nat) = 0 := by
  refine worldErr_none (logErr_of hR) (out1_ok (by omega) (Int.le_refl _)) ?_
  simp only [untoldTo, Bool.or_eq_false_iff, Bool.false_or]
  exact ⟨⟨untold_laid hR (by decide) (page_told 0 (by decide) _ hR).1.2, untold_laid hR (by decide) (page_told 1 (by decide) _ hR).1.2⟩, untold_laid hR (by decide) (page_told 2 (by decide) _ hR).1.2⟩
theorem nums_pages {ps : List Int} (h : ps.length = 12) : numsOf (pgAt ps 0) (pgAt ps 1) (pgAt ps 2) = ps := by
  obtain ⟨a0, a1, a2, a3, a4, a5, a6, a7, a8, a9, a10, a11, rfl⟩ := list12 ps h
  rfl
/-- All that the law asks of the log that was safe. -/
theorem scan_all {p q r : Pg} {c : List Rc} (h : worldErr p q r c (c.length : Nat) = 0) :
    redoErr p q r c (c.length : Nat) = 0 ∧ (redoAns p q r c (c.length : Nat)).1 = pagesR c ∧ (redoAns p q r c (c.length : Nat)).2 ≤ c.length ∧ logErr c = 0 ∧ pagesOrNone c = pagesR c ∧
      redoErr (pgAt (pagesR c) 0) (pgAt (pagesR c) 1) (pgAt (pagesR c) 2) c (c.length : Nat) = 0 ∧ redoAns (pgAt (pagesR c) 0) (pgAt (pagesR c) 1) (pgAt (pagesR c) 2) c (c.length : Nat) = (pagesR c, 0) := by
  have hl := (worldErr_zero h).1
  have hR := (logErr_zero hl).2
  have h1 := redoErr_0 h rfl
  have h2 := redoErr_0 (world_told_all hR) rfl
  refine ⟨h1, by rw [redoAns_0 h1]; exact redo_told h, by rw [redoAns_0 h1]; exact redoR_count _ _, hl, by unfold pagesOrNone; rw [if_pos hl], h2, ?_⟩
  rw [redoAns_0 h2, nums_pages (pagesR_len c)]
  have := redo_done hR c.length (Nat.le_refl _)
  rw [List.take_length] at this
  exact this
set_option maxHeartbeats 16000000 in
theorem scanTrue_go (w : World) (p q r : Pg) (a : Option Addr) (len cap : Nat) (l : List Rc) (safe : Int) (h : LogIn w a len cap l) :
    Calls Try.prog 5 #[wdVal p q r (.slice a len cap) safe] w fun e w' => e = .returned (.bool true) ∧ Ext w w' := by
  have E0 := (Ext.refl w).alloc (.cells (wdCells p q r (.slice a len cap) safe) 28)
  have B0 := Blk.new w w.heap.size (wdCells p q r (.slice a len cap) safe) 28 rfl
  have H1 := crash_any p q r a len cap l safe _ (h.ext E0)
  have HA : Hid (worldErr p q r l safe = 0 → ∃ c : List Rc, l.take safe.toNat = c ∧ safe = (c.length : Nat) ∧ worldErr p q r c (c.length : Nat) = 0 ∧ c.length ≤ 60) := fun hz => by
    obtain ⟨h1, h2⟩ := world_cut hz
    refine ⟨_, rfl, h2.symm, by rw [h2]; exact h1, (logErr_zero (worldErr_zero h1).1).1⟩
  generalize worldErr p q r l safe = we at *
  have b0 := B0.cell
  go_enter Try.func5, Try.ntmps5
  go_wp2_with fail
  refine H1.mono ?_
  rintro e w1 ⟨hw, ⟨h0, a1, cap1, rfl, hin, _⟩ | ⟨h0, rfl⟩⟩
  · obtain ⟨c, hc, rfl, hz, h60⟩ := HA.out h0
    rw [hc] at hin ⊢
    subst h0
    obtain ⟨g1, g2, g3, g4, g5, g6, g7⟩ := scan_all hz
    have H2 := fun w' (e : LogIn w' a1 c.length cap1 c) => redo_any p q r a1 c.length cap1 c (c.length : Nat) w' e
    have H3 := fun w' (e : LogIn w' a1 c.length cap1 c) => logPages_any a1 c.length cap1 c w' e.recs e.max
    have H4 := fun w' (e : LogIn w' a1 c.length cap1 c) => worldCheck_any p q r a1 c.length cap1 c (c.length : Nat) w' e.recs e.nil e.max
    have H5 := fun w' (e : LogIn w' a1 c.length cap1 c) => redo_any (pgAt (pagesR c) 0) (pgAt (pagesR c) 1) (pgAt (pagesR c) 2) a1 c.length cap1 c (c.length : Nat) w' e
    rw [g1, g2] at H2
    rw [g4, g5] at H3
    rw [hz] at H4
    rw [g6, g7] at H5
    generalize (redoAns p q r c (c.length : Nat)).2 = d at *
    have hpl := pagesR_len c
    generalize pagesR c = ps at *
    obtain ⟨x0, x1, x2, x3, x4, x5, x6, x7, x8, x9, x10, x11, rfl⟩ := list12 ps hpl
    dsimp only at H5
    rw [show ints [x0, x1, x2, x3, x4, x5, x6, x7, x8, x9, x10, x11] = #[.int .i64 x0, .int .i64 x1, .int .i64 x2, .int .i64 x3, .int .i64 x4, .int .i64 x5, .int .i64 x6, .int .i64 x7, .int .i64 x8, .int .i64 x9, .int .i64 x10, .int .i64 x11] from rfl] at H2 H3 H5
    have H6 : Hid (∀ w', LogIn w' a1 c.length cap1 c → Calls Try.prog 16 #[.agg #[.int .i64 x0, .int .i64 x1, .int .i64 x2, .int .i64 x3, .int .i64 x4, .int .i64 x5, .int .i64 x6, .int .i64 x7, .int .i64 x8, .int .i64 x9, .int .i64 x10, .int .i64 x11, .slice a1 c.length cap1, .int .i64 (c.length : Nat)]] w' fun e w'' => e = .returned (.tuple #[.agg #[.int .i64 x0, .int .i64 x1, .int .i64 x2, .int .i64 x3, .int .i64 x4, .int .i64 x5, .int .i64 x6, .int .i64 x7, .int .i64 x8, .int .i64 x9, .int .i64 x10, .int .i64 x11], .int .i64 0, .int .i64 0]) ∧ Ext w' w'') := fun w' e => H5 w' e
    clear H1 HA g1 g2 g4 g5 g6 g7 hz H5 hc hpl
    have o1 := (Ext.refl w1).alloc (.cells (wdCells p q r (.slice a1 c.length cap1) (c.length : Nat)) 28)
    have X1 := Blk.new w1 w1.heap.size (wdCells p q r (.slice a1 c.length cap1) (c.length : Nat)) 28 rfl
    have E1 := (E0.trans hw).trans o1
    have I1 := hin.ext o1
    clear hw o1 b0 B0 E0 hin
    generalize hbx : w1.heap.size = bx at *
    go_wp2_with fail
    refine (H2 _ I1).mono ?_
    rintro e w2 ⟨rfl, hw⟩
    have o2 := hw.alloc (.cells #[.int .i64 x0, .int .i64 x1, .int .i64 x2, .int .i64 x3, .int .i64 x4, .int .i64 x5, .int .i64 x6, .int .i64 x7, .int .i64 x8, .int .i64 x9, .int .i64 x10, .int .i64 x11] 25)
    have Y := Blk.new w2 w2.heap.size #[.int .i64 x0, .int .i64 x1, .int .i64 x2, .int .i64 x3, .int .i64 x4, .int .i64 x5, .int .i64 x6, .int .i64 x7, .int .i64 x8, .int .i64 x9, .int .i64 x10, .int .i64 x11] 25 rfl
    have E2 := E1.trans o2
    have I2 := I1.ext o2
    replace X1 := X1.ext o2
    clear hw o2 E1 I1 H2
    have x1c := X1.cell
    go_wp2_with fail
    refine (H3 _ I2).mono ?_
    rintro e w3 ⟨rfl, hw⟩
    have o3 := hw.alloc (.cells #[.int .i64 x0, .int .i64 x1, .int .i64 x2, .int .i64 x3, .int .i64 x4, .int .i64 x5, .int .i64 x6, .int .i64 x7, .int .i64 x8, .int .i64 x9, .int .i64 x10, .int .i64 x11] 25)
    have Z := Blk.new w3 w3.heap.size #[.int .i64 x0, .int .i64 x1, .int .i64 x2, .int .i64 x3, .int .i64 x4, .int .i64 x5, .int .i64 x6, .int .i64 x7, .int .i64 x8, .int .i64 x9, .int .i64 x10, .int .i64 x11] 25 rfl
    have E3 := E2.trans o3
    have I3 := I2.ext o3
    replace X1 := X1.ext o3
    replace Y := Y.ext o3
    clear hw o3 E2 I2 H3 x1c
    have x1c := X1.cell
    have yc := Y.cell
    have zc := Z.cell
    have e1 := eqn_pages ⟨x0, x1, x2, x3⟩ ⟨x4, x5, x6, x7⟩ ⟨x8, x9, x10, x11⟩
    dsimp only [val3] at e1
    go_wp2_with fail
    refine (H4 _ I3).mono ?_
    rintro e w4 ⟨rfl, hw⟩
    have E4 := E3.trans hw
    have I4 := I3.ext hw
    replace X1 := X1.ext hw
    replace Y := Y.ext hw
    clear hw E3 I3 H4 x1c yc zc Z
    have x1c := X1.cell
    have yc := (Y.alloc (.cells (wdCells p q r (.slice a1 c.length cap1) (c.length : Nat)) 28)).cell
    have o4 := (Ext.refl w4).alloc (.cells #[.int .i64 x0, .int .i64 x1, .int .i64 x2, .int .i64 x3, .int .i64 x4, .int .i64 x5, .int .i64 x6, .int .i64 x7, .int .i64 x8, .int .i64 x9, .int .i64 x10, .int .i64 x11, .slice a1 c.length cap1, .int .i64 (c.length : Nat)] 28)
    have E5 := E4.trans o4
    have I5 := I4.ext o4
    have Y5 := Y.ext o4
    go_wp2_with fail
    refine (H6.out _ I5).mono ?_
    rintro e w5 ⟨rfl, hw⟩
    have o5 := hw.alloc (.cells #[.int .i64 x0, .int .i64 x1, .int .i64 x2, .int .i64 x3, .int .i64 x4, .int .i64 x5, .int .i64 x6, .int .i64 x7, .int .i64 x8, .int .i64 x9, .int .i64 x10, .int .i64 x11] 25)
    have Q := Blk.new w5 w5.heap.size #[.int .i64 x0, .int .i64 x1, .int .i64 x2, .int .i64 x3, .int .i64 x4, .int .i64 x5, .int .i64 x6, .int .i64 x7, .int .i64 x8, .int .i64 x9, .int .i64 x10, .int .i64 x11] 25 rfl
    have E6 := E5.trans o5
    replace Y5 := Y5.ext o5
    clear hw o5 o4 E5 E4 I5 I4 X1 Y x1c yc H6
    go_wp2_with fail
    refine (scanBegun_any _).mono ?_
    rintro e w6 ⟨rfl, hw⟩
    have E7 := E6.trans hw
    have yc := (Y5.ext hw).cell
    have qc := (Q.ext hw).cell
    clear hw E6 Y5 Q
    go_wp2_with fail
    go_ret
    exact ⟨by simp, E7⟩
  · have hb : (we != 0) = true := by simpa using h0
    have E1 := (E0.trans hw).alloc (.cells (wdCells noPg noPg noPg (.slice none 0 0) 0) 28)
    go_wp2_with fail
    refine (scanBegun_any _).mono ?_
    rintro e w2 ⟨rfl, hw2⟩
    go_wp2_with fail
    go_ret
    exact ⟨rfl, E1.trans hw2⟩

set_option maxRecDepth 100000 in
theorem scanTrue_lifted (os : Os) (started : os.Started) (H : Type) (enc : TypeId × Value → H) :
    ReturnsInHanded {} Try.checked os 5 .any (Rows.scanTrueSpec.pre6 enc Try.prog Try.f5 Rows.scanTrueRow.domain false) (Rows.scanTrueSpec.post enc Try.prog Try.f5 false true false false) := by
  refine returnsInHanded_of_change (C := Try.checked) own started (by kernel_rfl) Try.func5
    (ChangeSpec.witness6 (enc := enc) (C := Try.checked) false ⟨#[], #[.agg #[.int .i64 0, .int .i64 0, .int .i64 0, .int .i64 0, .int .i64 0, .int .i64 0, .int .i64 0, .int .i64 0, .int .i64 0, .int .i64 0, .int .i64 0, .int .i64 0, .slice none 0 0, .int .i64 0]], []⟩ 8 (by kernel_rfl) (by kernel_rfl) (by kernel_rfl) (by kernel_rfl)) ?_
  intro W base args ds gs before hval0 hW hcnd _
  have hval : ∀ (j : Nat) t v, Try.f5.params[j]? = some t → args[j]? = some v → Value.okWide Try.prog W .any base t v := hval0
  have hW' := hW
  obtain ⟨p, q, hA0, hV, rfl, hfz, hnd⟩ := hW
  have hA : DataW.TrodAll enc Try.prog W 0 (fun _ => true) true Try.f5.params.toList args.toList ds p := hA0
  rw [Try.params5] at hA hval
  obtain ⟨v0, vs0, d0, ds0, p0, q0, hargs, rfl, rfl, h0, r0⟩ := trodAll_cons hA
  obtain ⟨rfl, rfl, rfl⟩ := trodAll_nil r0
  obtain rfl : args = #[v0] := by cases args; simp_all
  obtain ⟨rfl, rfl⟩ := trodVars_none hV
  obtain ⟨P0, Q0, R0, x0, len0, cap0, l0, safe0, rfl, s0⟩ := open_wd (hval 0 28 v0 rfl rfl) h0
  clear hA0 hval0
  refine (scanTrue_go W P0 Q0 R0 x0 len0 cap0 l0 safe0 s0).mono fun e W' ⟨he, bel⟩ => ?_
  subst he
  exact ⟨_, rfl, _, _, _, [], _, [], hW', trodAll_mk1 (shut_bool Try.underlying4 _),
    (trodAll_cons_mk (Below.trod laidOut (by kernel_rfl) (of_decide_eq_true (by kernel_rfl)) h0 bel (lt_of_trod h0))
    trodAll_mk0), rfl, bel.frame _, fun h => by cases h⟩

theorem scanTrue_over : Rows.scanTrueRow.holds Try.pinned (OpenSpec.ofChange Rows.scanTrueSpec) :=
  OpenClaim.holds_of_wide 5 Try.f5 rfl rfl rfl rfl rfl rfl rfl ⟨rfl, rfl, rfl, rfl, rfl⟩ rfl rfl rfl rfl rfl (by kernel_rfl) Try.func5 (by kernel_rfl)
    (of_decide_eq_true (by kernel_rfl)) (by unfold Func.isWrapper; first | (rw [if_pos (by decide +kernel)]; kernel_rfl) | (rw [if_neg (by decide +kernel)]; exact ⟨rfl, rfl⟩))
    (fun os started H enc _ => scanTrue_lifted os started H enc)
end Go.Proofs.Ytlpodahldpaniaa.B
namespace Go.Proofs.Ytlpodahldpaniaa
theorem scanTrue_holds : Rows.ScanTrueSaid := B.scanTrue_over
#print axioms scanTrue_holds
end Go.Proofs.Ytlpodahldpaniaa

