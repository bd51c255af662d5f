/- WorkWins holds: who commits has won, and that is safe: what must be of the safe log is what it has written, and what was. -/
import Derived.Test.YtgojonhjhdbpkaaTrue1
import Derived.Test.YtgojonhjhdbpkaaWork9
import Derived.Test.YtgojonhjhdbpkaaModA
namespace Go.Proofs.Ytgojonhjhdbpkaa.B
set_option maxRecDepth 100000
open Go.ChangeShapes Go.WideShapes Go.ChangeAt Go.RowKit

set_option maxHeartbeats 16000000 in
theorem workWins_go (w : World) (p q r : Pg) (a : Option Addr) (len cap : Nat) (l : List Rc) (safe : Int) (h : LogIn w a len cap l) (t : Int) (_ : IntKind.i64.has t) :
    Calls Try.prog 16 #[wdVal p q r (.slice a len cap) safe, .int .i64 t] w fun e w' => e = .returned (.bool true) ∧ Ext w w' := by
  obtain rfl := h.recs.len
  have H1 := fun w' (e : Ext w w') => workCommit_any p q r a l.length cap l safe t w' (h.ext e)
  have HA : Hid (errOf (worldErr p q r l safe) (commitErr l t) = 0 → _) := fun h0 => commit_all h0
  have HL' : Hid (((l ++ [commitRec l t]) ++ [endRec l t]).length = l.length + 1 + 1) := by simp [Hid]
  generalize errOf (worldErr p q r l safe) (commitErr l t) = xx at *
  generalize (l ++ [commitRec l t]) ++ [endRec l t] = l2 at *
  generalize l ++ [commitRec l t] = l1 at *
  rw [show ((l.length + 1 : Nat) : Int) = (l.length : Int) + 1 from rfl] at H1
  have E0 := (Ext.refl w).alloc (.cells (wdCells p q r (.slice a l.length cap) safe) 51)
  have B0 := Blk.new w w.heap.size (wdCells p q r (.slice a l.length cap) safe) 51 rfl
  have b0 := B0.cell
  go_enter Try.func16, Try.ntmps16
  go_wp2_with fail
  refine (H1 _ E0).mono ?_
  rintro e w1 ⟨hw, ⟨hx, s1, cap1, rfl, hin1, _⟩ | ⟨hx, rfl⟩⟩
  · obtain ⟨hz, hlz, hz', hlz', hl60, hcs, hwn, htk, hrng⟩ := HA.out hx
    rw [HL'.out] at hin1 ⊢
    clear HA hx H1
    have o1 := (Ext.refl w1).alloc (.cells (wdCells p q r (.slice s1 (l.length + 1 + 1) cap1) ((l.length : Int) + 1)) 51)
    have X := Blk.new w1 w1.heap.size (wdCells p q r (.slice s1 (l.length + 1 + 1) cap1) ((l.length : Int) + 1)) 51 rfl
    have E1 := (E0.trans hw).trans o1
    have B1 := (B0.ext hw).ext o1
    have I1 := hin1.ext o1
    clear hw o1 b0 B0 E0 hin1
    have hcap1 : l.length + 1 ≤ cap1 := by have := I1.le; omega
    have HK1 := fun w' (e : Ext w w') => worldCheck_any p q r a l.length cap l safe w' (h.recs.ext e) h.nil h.max
    have HC1 := fun w' (e : Ext w w') => cells_any a l.length cap l w' (h.recs.ext e) h.max
    have HC2 := fun w' (i : LogIn w' s1 (l.length + 1 + 1) cap1 l2) => cells_any s1 (l.length + 1) cap1 (l2.take (l.length + 1)) w' (i.recs.take (l.length + 1) (by omega)) (by unfold maxLen; omega)
    have HW2 := fun w' (i : LogIn w' s1 (l.length + 1 + 1) cap1 l2) => wins_any s1 (l.length + 1) cap1 (l2.take (l.length + 1)) w' (i.recs.take (l.length + 1) (by omega)) (by unfold maxLen; omega)
    have HK2 := fun w' (i : LogIn w' s1 (l.length + 1 + 1) cap1 l2) => worldCheck_any p q r s1 (l.length + 1 + 1) cap1 l2 ((l.length : Int) + 1) w' i.recs i.nil i.max
    rw [hz] at HK1
    rw [hz'] at HK2
    rw [htk] at HC2 HW2
    rw [hlz, cellsOr_ok hlz] at HC1
    rw [hlz', cellsOr_ok hlz', hcs] at HC2
    rw [hlz', winsOr_ok hlz', hwn] at HW2
    have hwl : (winsR l).length ≤ 60 := Nat.le_trans (winsR_le l) (by omega)
    have HRng := (show Hid (∀ x ∈ l, x.txn = t → 0 ≤ x.page ∧ x.page ≤ 2 ∧ 0 ≤ x.cell ∧ x.cell ≤ 2) from hrng)
    obtain ⟨j0, j1, j2, j3, j4, j5, j6, j7, j8, hcx⟩ := len9 (cellsR_len l)
    obtain ⟨k0, k1, k2, k3, k4, k5, k6, k7, k8, hcy⟩ := len9 (show (overR t (cellsR l) l).length = 9 by rw [overR_len]; exact cellsR_len l)
    rw [hcy] at HC2
    rw [hcx] at HC1 hcy
    have HOv := (show Hid (overR t [j0, j1, j2, j3, j4, j5, j6, j7, j8] l = [k0, k1, k2, k3, k4, k5, k6, k7, k8]) from hcy)
    rw [show ints [j0, j1, j2, j3, j4, j5, j6, j7, j8] = #[.int .i64 j0, .int .i64 j1, .int .i64 j2, .int .i64 j3, .int .i64 j4, .int .i64 j5, .int .i64 j6, .int .i64 j7, .int .i64 j8] from rfl] at HC1
    rw [show ints [k0, k1, k2, k3, k4, k5, k6, k7, k8] = #[.int .i64 k0, .int .i64 k1, .int .i64 k2, .int .i64 k3, .int .i64 k4, .int .i64 k5, .int .i64 k6, .int .i64 k7, .int .i64 k8] from rfl] at HC2
    generalize winsR l = ws at *
    rw [show (ws ++ [t]).length = ws.length + 1 from by simp] at HW2
    clear hcx hcy hcs hz hz' hlz hlz' hwn htk hrng
    have hs0 : ¬ (l.length : Int) + 1 < 0 := by omega
    have hs1 : ¬ ((l.length : Int) + 1 + 1 < (l.length : Int) + 1) := by omega
    have b1 := B1.cell
    have x1 := X.cell
    go_wp2_with fail
    refine (HK1 _ E1).mono ?_
    rintro e w2 ⟨rfl, hw⟩
    have E2 := E1.trans hw
    have B2 := B1.ext hw
    have X2 := X.ext hw
    have I2 := I1.ext hw
    clear hw b1 x1 B1 E1 X I1 HK1
    have b2 := B2.cell
    go_wp2_with fail
    refine (HC1 _ E2).mono ?_
    rintro e w3 ⟨rfl, hw⟩
    have o3 := (Ext.refl w3).alloc (.cells #[.int .i64 j0, .int .i64 j1, .int .i64 j2, .int .i64 j3, .int .i64 j4, .int .i64 j5, .int .i64 j6, .int .i64 j7, .int .i64 j8] 43)
    have HS0 : Hid (w.heap.size ≤ w3.heap.size) := Nat.le_trans E2.size hw.size
    have HS1 : Hid (w.heap.size < w3.heap.size) := Nat.lt_of_lt_of_le B2.lt hw.size
    have A3 := Blk.new w3 w3.heap.size #[.int .i64 j0, .int .i64 j1, .int .i64 j2, .int .i64 j3, .int .i64 j4, .int .i64 j5, .int .i64 j6, .int .i64 j7, .int .i64 j8] 43 rfl
    have E3 := (E2.trans hw).trans o3
    have B3 := (B2.ext hw).ext o3
    have HS2 : Hid (w1.heap.size < w3.heap.size) := Nat.lt_of_lt_of_le X2.lt hw.size
    have X3 := (X2.ext hw).ext o3
    have I3 := (I2.ext hw).ext o3
    clear hw o3 b2 B2 E2 X2 I2 HC1
    have x3 := X3.cell
    go_wp2_with fail
    refine (HC2 _ I3).mono ?_
    rintro e w4 ⟨rfl, hw⟩
    have o4 := (Ext.refl w4).alloc (.cells #[.int .i64 k0, .int .i64 k1, .int .i64 k2, .int .i64 k3, .int .i64 k4, .int .i64 k5, .int .i64 k6, .int .i64 k7, .int .i64 k8] 43)
    have HS3 : Hid (w3.heap.size < w4.heap.size) := Nat.lt_of_lt_of_le A3.lt hw.size
    have C4 := Blk.new w4 w4.heap.size #[.int .i64 k0, .int .i64 k1, .int .i64 k2, .int .i64 k3, .int .i64 k4, .int .i64 k5, .int .i64 k6, .int .i64 k7, .int .i64 k8] 43 rfl
    have E4 := (E3.trans hw).trans o4
    have B4 := (B3.ext hw).ext o4
    have X4 := (X3.ext hw).ext o4
    have I4 := (I3.ext hw).ext o4
    have A4 := (A3.ext hw).ext o4
    clear hw o4 x3 B3 E3 X3 I3 A3 HC2
    have x4 := X4.cell
    go_wp2_with fail
    refine (HW2 _ I4).mono ?_
    rintro e w5 ⟨⟨s5, c5, rfl, hc5, J5⟩, hw⟩
    have E5 := E4.trans hw
    have B5 := B4.ext hw
    have X5 := X4.ext hw
    have I5 := I4.ext hw
    have A5 := A4.ext hw
    have C5 := C4.ext hw
    clear hw x4 B4 E4 X4 I4 A4 C4 HW2
    have x5 := X5.cell
    go_wp2_with fail
    refine (HK2 _ I5).mono ?_
    rintro e w6 ⟨rfl, hw⟩
    have E6 := E5.trans hw
    have B6 := B5.ext hw
    have X6 := X5.ext hw
    have A6 := A5.ext hw
    have C6 := C5.ext hw
    have J6 := J5.ext hw
    clear hw x5 B5 E5 X5 I5 A5 C5 J5 HK2
    obtain ⟨g, rfl, hlast⟩ := J6.at (k := ws.length) (by simp)
    rw [List.getElem_concat_length rfl] at hlast
    have hne0 : (((ws.length : Int) + 1) == 0) = false := by rw [beq_eq_false_iff_ne]; omega
    clear J6
    go_wp2_with fail
    clear hlast
    have A6' : Blk w6 w3.heap.size (ints (overR t [j0, j1, j2, j3, j4, j5, j6, j7, j8] (l.take 0))) 43 := A6
    clear A6
    go_loopw [13] (fun i wr => ∃ n : Nat, n ≤ l.length ∧ i = .int .i64 n ∧ Ext w wr ∧ Blk wr w3.heap.size (ints (overR t [j0, j1, j2, j3, j4, j5, j6, j7, j8] (l.take n))) 43 ∧ Blk wr w.heap.size (wdCells p q r (.slice a l.length cap) safe) 51 ∧ Blk wr w1.heap.size (wdCells p q r (.slice s1 (l.length + 1 + 1) cap1) ((l.length : Int) + 1)) 51 ∧ Blk wr w4.heap.size #[.int .i64 k0, .int .i64 k1, .int .i64 k2, .int .i64 k3, .int .i64 k4, .int .i64 k5, .int .i64 k6, .int .i64 k7, .int .i64 k8] 43) (fun i _ => l.length - (intOf i).toNat)
    case atStart => exact ⟨0, Nat.zero_le _, rfl, E6, A6', B6, X6, C6⟩
    case round =>
      obtain ⟨n, hn, rfl, hE, A, B, X, C⟩ := hrel
      clear A6' B6 X6 C6 E6
      have bb := B.cell
      by_cases hlt : n < l.length
      · obtain ⟨b, off, rfl, hkl, c0, c1, c2, c3, c4, c5, c6, c7⟩ := (h.recs.ext hE).at hlt
        have HS := (show Hid _ from overR_take t [j0, j1, j2, j3, j4, j5, j6, j7, j8] l n hkl)
        have hfit := HRng.out l[n] (List.getElem_mem hkl)
        have hplen : (overR t [j0, j1, j2, j3, j4, j5, j6, j7, j8] (l.take n)).length = 9 := by rw [overR_len]; rfl
        generalize l[n] = y at *
        generalize overR t [j0, j1, j2, j3, j4, j5, j6, j7, j8] (l.take n) = ps at *
        have R := Blk.new wr wr.heap.size y.cs 39 rfl
        have oR := (Ext.refl wr).alloc (.cells y.cs 39)
        have hE2 := hE.trans oR
        have A2 := A.ext oR
        have B2 := B.ext oR
        have X2 := X.ext oR
        have C2 := C.ext oR
        by_cases ht : y.txn = t
        · have hb : (y.txn == t) = true := by simpa using ht
          have HB := (show Hid (( y.txn == t) = true) from hb)
          obtain ⟨p0, p2, q0, q2⟩ := hfit ht
          have p3 : y.page < 3 := by omega
          have q3 : y.cell < 3 := by omega
          clear hfit ht
          go_wp2_with fail
          clear c0 c1 c2 c3 c4 c5 c6 c7 bb A B X C hE oR hb
          generalize wr.alloc (.cells y.cs 39) = W at *
          have rc := R.cell
          have f1 := A2.fr
          obtain ⟨z, hz⟩ : ∃ z, W.cell? ⟨w3.heap.size, y.page.toNat * 3 + y.cell.toNat, none⟩ = some (.int .i64 z) := by
            have hlt : y.page.toNat * 3 + y.cell.toNat < ps.length := by omega
            exact ⟨ps[y.page.toNat * 3 + y.cell.toNat], by rw [A2.cell, ints_get, List.getElem?_eq_getElem hlt]; rfl⟩
          go_region
          have A3 := (A2.set (y.page.toNat * 3 + y.cell.toNat) (.int .i64 y.new)).drew
          rw [ints_set] at A3
          have B3 := (B2.other ⟨w3.heap.size, y.page.toNat * 3 + y.cell.toNat, none⟩ (.int .i64 y.new) (by have := HS1.out; dsimp only; omega)).drew
          have X3 := (X2.other ⟨w3.heap.size, y.page.toNat * 3 + y.cell.toNat, none⟩ (.int .i64 y.new) (by have := HS2.out; dsimp only; omega)).drew
          have C3 := (C2.other ⟨w3.heap.size, y.page.toNat * 3 + y.cell.toNat, none⟩ (.int .i64 y.new) (by have := HS3.out; dsimp only; omega)).drew
          have E3 := (hE2.setCell (p := ⟨w3.heap.size, y.page.toNat * 3 + y.cell.toNat, none⟩) (by have := HS0.out; dsimp only; omega) (.int .i64 y.new)).drew
          go_wp2_with fail
          go_roundw
          case rel => exact ⟨n + 1, by omega, by go_num, E3, by rw [HS.out, HB.out]; exact A3, B3, X3, C3⟩
          case measure => simp [intOf]; omega
        · have hb : (y.txn == t) = false := by simpa using ht
          have HB := (show Hid ((y.txn == t) = false) from hb)
          clear ht hfit
          go_wp2_with fail
          go_roundw
          case rel => exact ⟨n + 1, by omega, by go_num, hE2, by rw [HS.out, HB.out]; exact A2, B2, X2, C2⟩
          case measure => simp [intOf]; omega
      · have HF : Hid (l.take n = l) := List.take_of_length_le (by omega)
        rw [HF.out, HOv.out] at A
        have A2 : Blk wr w3.heap.size #[.int .i64 k0, .int .i64 k1, .int .i64 k2, .int .i64 k3, .int .i64 k4, .int .i64 k5, .int .i64 k6, .int .i64 k7, .int .i64 k8] 43 := A
        clear A
        go_wp2_with fail
        refine (workBegun_any _).mono ?_
        rintro e w9 ⟨rfl, hw⟩
        have aa := (A2.ext hw).cell
        have cc := (C.ext hw).cell
        have b9 := (B.ext hw).cell
        have x9 := (X.ext hw).cell
        have E9 := hE.trans hw
        have e1 := eql_cells k0 k1 k2 k3 k4 k5 k6 k7 k8
        have e2 := eqn_pages p q r
        dsimp only [val3] at e2
        clear hw A2 C B X hE bb
        go_wp2_with fail
        go_ret
        exact ⟨by simp, E9⟩
  · have HX := (show Hid (xx ≠ 0) from hx)
    have hb : (xx != 0) = true := by simpa using hx
    have E1 := (E0.trans hw).alloc (.cells (wdCells noPg noPg noPg (.slice none 0 0) 0) 51)
    clear hx HA H1 b0 hw E0 B0
    go_wp2_with fail
    refine (workBegun_any _).mono ?_
    rintro e w3 ⟨rfl, hw⟩
    go_wp2_with fail
    go_ret
    exact ⟨by simp, E1.trans hw⟩

set_option maxRecDepth 100000 in
theorem workWins_lifted (os : Os) (started : os.Started) (H : Type) (enc : TypeId × Value → H) :
    ReturnsInHanded {} Try.checked os 16 .any (Rows.workWinsSpec.pre6 enc Try.prog Try.f16 Rows.workWinsRow.domain false) (Rows.workWinsSpec.post enc Try.prog Try.f16 false true false false) := by
  refine returnsInHanded_of_change (C := Try.checked) own started (by kernel_rfl) Try.func16
    (ChangeSpec.witness6 (enc := enc) (C := Try.checked) false ⟨#[], #[.agg #[.int .i64 0, .int .i64 0, .int .i64 0, .int .i64 0, .int .i64 0, .int .i64 0, .int .i64 0, .int .i64 0, .int .i64 0, .int .i64 0, .int .i64 0, .int .i64 0, .slice none 0 0, .int .i64 0], .int .i64 0], []⟩ 8 (by kernel_rfl) (by kernel_rfl) (by kernel_rfl) (by kernel_rfl)) ?_
  intro W base args ds gs before hval0 hW hcnd _
  have hval : ∀ (j : Nat) t v, Try.f16.params[j]? = some t → args[j]? = some v → Value.okWide Try.prog W .any base t v := hval0
  have hW' := hW
  obtain ⟨p, q, hA0, hV, rfl, hfz, hnd⟩ := hW
  have hA : DataW.TrodAll enc Try.prog W 0 (fun _ => true) true Try.f16.params.toList args.toList ds p := hA0
  rw [Try.params16] at hA hval
  obtain ⟨v0, vs0, d0, ds0, p0, q0, hargs, rfl, rfl, h0, r0⟩ := trodAll_cons hA
  obtain ⟨v1, vs1, d1, ds1, p1, q1, rfl, rfl, rfl, h1, r1⟩ := trodAll_cons r0
  obtain ⟨rfl, rfl, rfl⟩ := trodAll_nil r1
  obtain rfl : args = #[v0, v1] := by cases args; simp_all
  obtain ⟨rfl, rfl⟩ := trodVars_none hV
  obtain ⟨P0, Q0, R0, x0, len0, cap0, l0, safe0, rfl, s0⟩ := open_wd (hval 0 51 v0 rfl rfl) h0
  obtain ⟨a1, rfl, b1⟩ := open_num (hval 1 3 v1 rfl rfl)
  clear hA0 hval0
  refine (workWins_go W P0 Q0 R0 x0 len0 cap0 l0 safe0 s0 a1 b1).mono fun e W' ⟨he, bel⟩ => ?_
  subst he
  exact ⟨_, rfl, _, _, _, [], _, [], hW', trodAll_mk1 (shut_bool Try.underlying4 _),
    (trodAll_cons_mk (Below.trod laidOut (by kernel_rfl) (of_decide_eq_true (by kernel_rfl)) h0 bel (lt_of_trod h0))
    (trodAll_cons_mk (Below.trod laidOut (by kernel_rfl) (of_decide_eq_true (by kernel_rfl)) h1 bel (lt_of_trod h1))
    trodAll_mk0)), rfl, bel.frame _, fun h => by cases h⟩

theorem workWins_over : Rows.workWinsRow.holds Try.pinned (OpenSpec.ofChange Rows.workWinsSpec) :=
  OpenClaim.holds_of_wide 16 Try.f16 rfl rfl rfl rfl rfl rfl rfl ⟨rfl, rfl, rfl, rfl, rfl⟩ rfl rfl rfl rfl rfl (by kernel_rfl) Try.func16 (by kernel_rfl)
    (of_decide_eq_true (by kernel_rfl)) (by unfold Func.isWrapper; first | (rw [if_pos (by decide +kernel)]; kernel_rfl) | (rw [if_neg (by decide +kernel)]; exact ⟨rfl, rfl⟩))
    (fun os started H enc _ => workWins_lifted os started H enc)
end Go.Proofs.Ytgojonhjhdbpkaa.B
namespace Go.Proofs.Ytgojonhjhdbpkaa
theorem workWins_holds : Rows.WorkWinsSaid := B.workWins_over
#print axioms workWins_holds
end Go.Proofs.Ytgojonhjhdbpkaa

