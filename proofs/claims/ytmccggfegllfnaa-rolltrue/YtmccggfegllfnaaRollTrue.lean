/- RollTrue holds: who aborts has turned nothing: each cell of which a Write of it stood is as it was ahead of the first such, all others are as they were; what must be is as it was. -/
import Derived.Test.YtmccggfegllfnaaRoll4
import Derived.Test.YtmccggfegllfnaaRoll5
import Derived.Test.YtmccggfegllfnaaModA
import Derived.Test.YtmccggfegllfnaaStanding
namespace Go.Proofs.Ytmccggfegllfnaa.B
set_option maxRecDepth 100000
open Go.ChangeShapes Go.WideShapes Go.ChangeAt Go.RowKit

theorem Recs.gr {row : Option Nat} {w w' : World} {a : Option Addr} {len : Nat} {l : List Rc} (h : Recs w a len l) (g : Gr row w w') (hn : ∀ ad, a = some ad → some ad.block ≠ row) : Recs w' a len l := by
  rcases h.2 with h0 | ⟨b, off, rfl, hr⟩
  · exact ⟨h.1, Or.inl h0⟩
  · refine ⟨h.1, Or.inr ⟨b, off, rfl, fun i hi => ?_⟩⟩
    have hc := hr i hi
    have hb : w'.heap[b]? = w.heap[b]? := g.block b (cell_lt hc.1) (hn _ rfl)
    unfold RecAt at hc ⊢
    simp only [World.cell?, hb] at hc ⊢
    exact hc
theorem arr_same (x y z : Int) : ∀ w, (Op.equalIn 10000 22 (.agg #[.int .i64 x, .int .i64 y, .int .i64 z]) (.agg #[.int .i64 x, .int .i64 y, .int .i64 z])).run Try.prog w = .ok true w := fun w => by rw [eql_arr]; simp
set_option maxHeartbeats 16000000 in
theorem rollTrue_go (w : World) (p q r : Pg) (a : Option Addr) (len cap : Nat) (l : List Rc) (safe : Int) (h : LogIn w a len cap l) (t : Int) (_ : IntKind.i64.has t) :
    Calls Try.prog 6 #[wdVal p q r (.slice a len cap) safe, .int .i64 t] w fun e w' => e = .returned (.bool true) ∧ Ext w w' := by
  obtain rfl := h.recs.len
  have H1 := fun w' (e : Ext w w') => rollAbort_any p q r a l.length cap l safe t w' (h.ext e)
  have HA : Hid (errOf (worldErr p q r l safe) (abortErr l t) = 0 → _) := fun h0 => abort_all h0
  have HB1 := fun w' (_ : Ext w w') => rollBegun_any w'
  generalize errOf (worldErr p q r l safe) (abortErr l t) = xx at *
  generalize abortR l t = l2 at *
  have E0 := (Ext.refl w).alloc (.cells (wdCells p q r (.slice a l.length cap) safe) 28)
  have B0 := Blk.new w w.heap.size (wdCells p q r (.slice a l.length cap) safe) 28 rfl
  have b0 := B0.cell
  go_enter Try.func6, Try.ntmps6
  go_wp2_with fail
  refine (H1 _ E0).mono ?_
  rintro e w1 ⟨hw, ⟨hx, s1, cap1, rfl, hin1, _⟩ | ⟨hx, rfl⟩⟩
  rotate_left
  · have hb : (xx != 0) = true := by simpa using hx
    have E1 := (E0.trans hw).alloc (.cells (wdCells noPg noPg noPg (.slice none 0 0) 0) 28)
    clear hx HA H1 b0 hw E0 B0
    go_wp2_with fail
    refine (HB1 _ E1).mono ?_
    rintro e w3 ⟨rfl, hw⟩
    go_wp2_with fail
    go_ret
    exact ⟨by simp, E1.trans hw⟩
  obtain ⟨hz, hlz, hz2, hlz2, hl60, hl2, hcs, hsa, hstk, hfit, hag⟩ := HA.out hx
  clear HA hx H1
  have o1 := (Ext.refl w1).alloc (.cells (wdCells p q r (.slice s1 l2.length cap1) safe) 28)
  have X := Blk.new w1 w1.heap.size (wdCells p q r (.slice s1 l2.length cap1) safe) 28 rfl
  have E1 := (E0.trans hw).trans o1
  have B1 := (B0.ext hw).ext o1
  have I1 := hin1.ext o1
  clear hw o1 b0 B0 E0 hin1
  have HK1 := fun w' (e : Ext w w') => worldCheck_any p q r a l.length cap l safe w' (h.recs.ext e) h.nil h.max
  have HN1 := fun w' (e : Ext w w') => now_any p q r a l.length cap l safe w' (h.recs.ext e) h.nil h.max
  have HN2 := fun w' (i : LogIn w' s1 l2.length cap1 l2) => now_any p q r s1 l2.length cap1 l2 safe w' i.recs i.nil i.max
  have HC1 := fun w' (e : Ext w w') => cells_any a l.length cap l w' (h.recs.ext e) h.max
  have HC2 := fun w' (i : LogIn w' s1 l2.length cap1 l2) => cells_any s1 l2.length cap1 l2 w' i.recs i.max
  have HS2 := fun w' (i : LogIn w' s1 l2.length cap1 l2) => logState_any s1 l2.length cap1 l2 t w' i.recs i.max
  have HK2 := fun w' (i : LogIn w' s1 l2.length cap1 l2) => worldCheck_any p q r s1 l2.length cap1 l2 safe w' i.recs i.nil i.max
  have HSd := fun w' (e : Ext w w') => standing_full a l.length cap l t w' (h.recs.ext e) (by omega)
  rw [hstk] at HSd
  rw [hz] at HK1
  rw [hz2] at HK2
  rw [hz, show nowOr p q r l safe = pagesR l from by unfold nowOr; rw [if_pos hz]] at HN1
  rw [hz2, show nowOr p q r l2 safe = pagesR l2 from by unfold nowOr; rw [if_pos hz2]] at HN2
  rw [hlz, cellsOr_ok hlz] at HC1
  rw [hlz2, cellsOr_ok hlz2, hcs] at HC2
  rw [hsa] at HS2
  dsimp only at HS2
  have hsl : (standB l t).length ≤ 1000 := by have := stackR_le t l; rw [hstk] at this; omega
  generalize standB l t = st at *
  obtain ⟨u0, u1, u2, u3, u4, u5, u6, u7, u8, u9, u10, u11, hpa⟩ := list12 _ (pagesR_len l)
  obtain ⟨k0, k1, k2, k3, k4, k5, k6, k7, k8, k9, k10, k11, hpb⟩ := list12 _ (pagesR_len l2)
  obtain ⟨j0, j1, j2, j3, j4, j5, j6, j7, j8, hcx⟩ := len9 (cellsR_len l)
  rw [hpa] at HN1 hag
  rw [hpb] at HN2 hag
  rw [hcx] at HC1 HC2
  rw [show ints [u0, u1, u2, u3, u4, u5, u6, u7, u8, u9, u10, u11] = #[.int .i64 u0, .int .i64 u1, .int .i64 u2, .int .i64 u3, .int .i64 u4, .int .i64 u5, .int .i64 u6, .int .i64 u7, .int .i64 u8, .int .i64 u9, .int .i64 u10, .int .i64 u11] from rfl] at HN1
  rw [show ints [k0, k1, k2, k3, k4, k5, k6, k7, k8, k9, k10, k11] = #[.int .i64 k0, .int .i64 k1, .int .i64 k2, .int .i64 k3, .int .i64 k4, .int .i64 k5, .int .i64 k6, .int .i64 k7, .int .i64 k8, .int .i64 k9, .int .i64 k10, .int .i64 k11] from rfl] at HN2
  rw [show ints [j0, j1, j2, j3, j4, j5, j6, j7, j8] = #[.int .i64 j0, .int .i64 j1, .int .i64 j2, .int .i64 j3, .int .i64 j4, .int .i64 j5, .int .i64 j6, .int .i64 j7, .int .i64 j8] from rfl] at HC1 HC2
  obtain ⟨v0, v1, v2, v3, v4, v5, v6, v7, v8, v9, v10, v11, hpv⟩ := list12 (undoR [u0, u1, u2, u3, u4, u5, u6, u7, u8, u9, u10, u11] st) (by rw [undoR_len]; rfl)
  have HV : Hid (v0 = k0 ∧ v1 = k1 ∧ v2 = k2 ∧ v4 = k4 ∧ v5 = k5 ∧ v6 = k6 ∧ v8 = k8 ∧ v9 = k9 ∧ v10 = k10) := by
    rw [hpv] at hag
    exact ⟨hag 0 (by decide), hag 1 (by decide), hag 2 (by decide), hag 4 (by decide), hag 5 (by decide), hag 6 (by decide), hag 8 (by decide), hag 9 (by decide), hag 10 (by decide)⟩
  have HPV := (show Hid (undoR [u0, u1, u2, u3, u4, u5, u6, u7, u8, u9, u10, u11] st = [v0, v1, v2, v3, v4, v5, v6, v7, v8, v9, v10, v11]) from hpv)
  have HFit := (show Hid (∀ x ∈ st, 0 ≤ x.page ∧ x.page ≤ 2 ∧ 0 ≤ x.cell ∧ x.cell ≤ 2) from hfit)
  clear hz hlz hz2 hlz2 hcs hsa hstk hfit hag hpa hpb hcx hpv
  have b1 := B1.cell
  go_wp2_with fail
  refine (HK1 _ E1).mono ?_
  rintro e w2 ⟨rfl, hw⟩
  have E2 := E1.trans hw
  have B2 := B1.ext hw
  have X2 := X.ext hw
  have I2 := I1.ext hw
  clear hw b1 B1 E1 X I1 HK1
  have b2 := B2.cell
  go_wp2_with fail
  refine (HN1 _ E2).mono ?_
  rintro e w3 ⟨rfl, hw⟩
  have o3 := hw.alloc (.cells #[.int .i64 u0, .int .i64 u1, .int .i64 u2, .int .i64 u3, .int .i64 u4, .int .i64 u5, .int .i64 u6, .int .i64 u7, .int .i64 u8, .int .i64 u9, .int .i64 u10, .int .i64 u11] 25)
  have HS0 : Hid (w.heap.size ≤ w3.heap.size) := Nat.le_trans E2.size hw.size
  have A3 := Blk.new w3 w3.heap.size #[.int .i64 u0, .int .i64 u1, .int .i64 u2, .int .i64 u3, .int .i64 u4, .int .i64 u5, .int .i64 u6, .int .i64 u7, .int .i64 u8, .int .i64 u9, .int .i64 u10, .int .i64 u11] 25 rfl
  have E3 := E2.trans o3
  have B3 := B2.ext o3
  have X3 := X2.ext o3
  have I3 := I2.ext o3
  clear hw o3 b2 B2 E2 X2 I2 HN1
  have x3 := X3.cell
  go_wp2_with fail
  refine (HN2 _ I3).mono ?_
  rintro e w4 ⟨rfl, hw⟩
  have o4 := hw.alloc (.cells #[.int .i64 k0, .int .i64 k1, .int .i64 k2, .int .i64 k3, .int .i64 k4, .int .i64 k5, .int .i64 k6, .int .i64 k7, .int .i64 k8, .int .i64 k9, .int .i64 k10, .int .i64 k11] 25)
  have HS1 : Hid (w3.heap.size < w4.heap.size) := Nat.lt_of_lt_of_le A3.lt hw.size
  have C4 := Blk.new w4 w4.heap.size #[.int .i64 k0, .int .i64 k1, .int .i64 k2, .int .i64 k3, .int .i64 k4, .int .i64 k5, .int .i64 k6, .int .i64 k7, .int .i64 k8, .int .i64 k9, .int .i64 k10, .int .i64 k11] 25 rfl
  have E4 := E3.trans o4
  have A4 := A3.ext o4
  have B4 := B3.ext o4
  have X4 := X3.ext o4
  have I4 := I3.ext o4
  clear hw o4 x3 A3 B3 E3 X3 I3 HN2
  have b4 := B4.cell
  go_wp2_with fail
  refine (HC1 _ E4).mono ?_
  rintro e w5 ⟨rfl, hw⟩
  have o5 := hw.alloc (.cells #[.int .i64 j0, .int .i64 j1, .int .i64 j2, .int .i64 j3, .int .i64 j4, .int .i64 j5, .int .i64 j6, .int .i64 j7, .int .i64 j8] 50)
  have D5 := Blk.new w5 w5.heap.size #[.int .i64 j0, .int .i64 j1, .int .i64 j2, .int .i64 j3, .int .i64 j4, .int .i64 j5, .int .i64 j6, .int .i64 j7, .int .i64 j8] 50 rfl
  have E5 := E4.trans o5
  have A5 := A4.ext o5
  have B5 := B4.ext o5
  have C5 := C4.ext o5
  have X5 := X4.ext o5
  have I5 := I4.ext o5
  clear hw o5 b4 A4 B4 C4 E4 X4 I4 HC1
  have x5 := X5.cell
  go_wp2_with fail
  refine (HC2 _ I5).mono ?_
  rintro e w6 ⟨rfl, hw⟩
  have o6 := hw.alloc (.cells #[.int .i64 j0, .int .i64 j1, .int .i64 j2, .int .i64 j3, .int .i64 j4, .int .i64 j5, .int .i64 j6, .int .i64 j7, .int .i64 j8] 50)
  have G6 := Blk.new w6 w6.heap.size #[.int .i64 j0, .int .i64 j1, .int .i64 j2, .int .i64 j3, .int .i64 j4, .int .i64 j5, .int .i64 j6, .int .i64 j7, .int .i64 j8] 50 rfl
  have E6 := E5.trans o6
  have A6 := A5.ext o6
  have B6 := B5.ext o6
  have C6 := C5.ext o6
  have D6 := D5.ext o6
  have X6 := X5.ext o6
  have I6 := I5.ext o6
  clear hw o6 x5 A5 B5 C5 D5 E5 X5 I5 HC2
  have x6 := X6.cell
  go_wp2_with fail
  refine (HS2 _ I6).mono ?_
  rintro e w7 ⟨rfl, hw⟩
  have E7 := E6.trans hw
  have A7 := A6.ext hw
  have B7 := B6.ext hw
  have C7 := C6.ext hw
  have D7 := D6.ext hw
  have G7 := G6.ext hw
  have X7 := X6.ext hw
  have I7 := I6.ext hw
  clear hw x6 A6 B6 C6 D6 E6 G6 X6 I6 HS2
  have d7 := D7.cell
  have g7 := G7.cell
  have x7 := X7.cell
  have b7 := B7.cell
  have e1 := eql_cells j0 j1 j2 j3 j4 j5 j6 j7 j8
  have e2 := eqn_pages p q r
  dsimp only [val3] at e2
  go_wp2_with fail
  refine (HK2 _ I7).mono ?_
  rintro e w8 ⟨rfl, hw⟩
  have E8 := E7.trans hw
  have A8 := A7.ext hw
  have B8 := B7.ext hw
  have C8 := C7.ext hw
  clear hw d7 g7 x7 b7 e1 e2 A7 B7 C7 D7 E7 G7 X7 I7 HK2
  have b8 := B8.cell
  go_wp2_with fail
  refine (HSd _ E8).mono ?_
  rintro e w9 ⟨⟨sa, sc, rfl, R9, hfr⟩, hw⟩
  have HFr : Hid (∀ ad, sa = some ad → w3.heap.size < ad.block) := fun ad e => Nat.lt_of_lt_of_le A8.lt (hfr ad e)
  clear hfr
  have E9 := E8.trans hw
  have A9 := A8.ext hw
  have C9 := C8.ext hw
  clear hw b8 A8 B8 C8 E8 HSd
  go_wp2_with fail
  have A9' : Blk w9 w3.heap.size (ints (undoR [u0, u1, u2, u3, u4, u5, u6, u7, u8, u9, u10, u11] (st.drop st.length))) 25 := by rw [List.drop_length]; exact A9
  clear A9
  go_loopw [19] (fun i wr => ∃ m : Nat, m ≤ st.length ∧ i = .int .i64 ((m : Int) - 1) ∧ Ext w wr ∧ Blk wr w3.heap.size (ints (undoR [u0, u1, u2, u3, u4, u5, u6, u7, u8, u9, u10, u11] (st.drop m))) 25 ∧ Blk wr w4.heap.size #[.int .i64 k0, .int .i64 k1, .int .i64 k2, .int .i64 k3, .int .i64 k4, .int .i64 k5, .int .i64 k6, .int .i64 k7, .int .i64 k8, .int .i64 k9, .int .i64 k10, .int .i64 k11] 25 ∧ Recs wr sa st.length st) (fun i _ => (intOf i + 1).toNat)
  case atStart => exact ⟨st.length, Nat.le_refl _, rfl, E9, A9', C9, R9⟩
  case round =>
    obtain ⟨m, hm, rfl, hE, A, C, R⟩ := hrel
    clear A9' C9 R9 E9
    rcases Nat.eq_zero_or_pos m with rfl | hpos
    · rw [List.drop_zero, HPV.out] at A
      have A2 : Blk wr w3.heap.size #[.int .i64 v0, .int .i64 v1, .int .i64 v2, .int .i64 v3, .int .i64 v4, .int .i64 v5, .int .i64 v6, .int .i64 v7, .int .i64 v8, .int .i64 v9, .int .i64 v10, .int .i64 v11] 25 := A
      obtain ⟨h0, h1, h2, h4, h5, h6, h8, h9, h10⟩ := HV.out
      rw [h0, h1, h2, h4, h5, h6, h8, h9, h10] at A2
      rw [show ((0 : Nat) : Int) - 1 = -1 from rfl]
      clear A h0 h1 h2 h4 h5 h6 h8 h9 h10
      have e0 := arr_same k0 k1 k2
      have e4 := arr_same k4 k5 k6
      have e8 := arr_same k8 k9 k10
      go_wp2_with fail
      go_loopw [21] (fun i w' => ∃ n : Nat, n ≤ 3 ∧ i = .int .i64 n ∧ Ext wr w') (fun i _ => 3 - (intOf i).toNat)
      case atStart => exact ⟨0, Nat.zero_le _, rfl, Ext.refl _⟩
      case round =>
        obtain ⟨n, hn, rfl, hE2⟩ := hrel
        have ac := (A2.ext hE2).cell
        have cc := (C.ext hE2).cell
        have hn4 : n = 0 ∨ n = 1 ∨ n = 2 ∨ n = 3 := by omega
        rcases hn4 with rfl | rfl | rfl | rfl
        · go_wp2_with fail
          go_quiet (fail)
          go_wp2_with fail
          go_roundw
          case rel => exact ⟨1, by omega, by simp, hE2.drewN _⟩
          case measure => simp [intOf]
        · go_wp2_with fail
          go_quiet (fail)
          go_wp2_with fail
          go_roundw
          case rel => exact ⟨2, by omega, by simp, hE2.drewN _⟩
          case measure => simp [intOf]
        · go_wp2_with fail
          go_quiet (fail)
          go_wp2_with fail
          go_roundw
          case rel => exact ⟨3, by omega, by simp, hE2.drewN _⟩
          case measure => simp [intOf]
        · have E3 := hE.trans hE2
          clear ac cc
          go_wp2_with fail
          refine (HB1 _ E3).mono ?_
          rintro e z ⟨rfl, hw⟩
          go_wp2_with fail
          go_ret
          exact ⟨rfl, E3.trans hw⟩
    · obtain ⟨m, rfl⟩ : ∃ m', m = m' + 1 := ⟨m - 1, by omega⟩
      have hlt : m < st.length := by omega
      obtain ⟨b, off, rfl, hkl, c0, c1, c2, c3, c4, c5, c6, c7⟩ := R.at hlt
      have HS := (show Hid _ from undoR_drop [u0, u1, u2, u3, u4, u5, u6, u7, u8, u9, u10, u11] st m hkl)
      obtain ⟨p0, p2, q0, q2⟩ := HFit.out st[m] (List.getElem_mem hkl)
      have hplen : (undoR [u0, u1, u2, u3, u4, u5, u6, u7, u8, u9, u10, u11] (st.drop (m + 1))).length = 12 := by rw [undoR_len]; rfl
      generalize st[m] = y at *
      generalize undoR [u0, u1, u2, u3, u4, u5, u6, u7, u8, u9, u10, u11] (st.drop (m + 1)) = ps at *
      have p3 : y.page < 3 := by omega
      have q3 : y.cell < 3 := by omega
      rw [show ((m + 1 : Nat) : Int) - 1 = (m : Int) from by omega]
      have RB := Blk.new wr wr.heap.size y.cs 41 rfl
      have oR := (Ext.refl wr).alloc (.cells y.cs 41)
      have hE2 := hE.trans oR
      have A2 := A.ext oR
      have C2 := C.ext oR
      have R2 := R.ext oR
      go_wp2_with fail
      clear c0 c1 c2 c3 c4 c5 c6 c7 A C R hE oR
      generalize wr.alloc (.cells y.cs 41) = W at *
      have rc := RB.cell
      have f1 := A2.fr
      obtain ⟨z, hz⟩ : ∃ z, W.cell? ⟨w3.heap.size, y.page.toNat * 4 + y.cell.toNat, none⟩ = some (.int .i64 z) := by
        have hlt : y.page.toNat * 4 + y.cell.toNat < ps.length := by omega
        exact ⟨ps[y.page.toNat * 4 + y.cell.toNat], by rw [A2.cell, ints_get, List.getElem?_eq_getElem hlt]; rfl⟩
      go_region
      have A3 := (A2.set (y.page.toNat * 4 + y.cell.toNat) (.int .i64 y.old)).drew
      rw [ints_set] at A3
      have C3 := (C2.other ⟨w3.heap.size, y.page.toNat * 4 + y.cell.toNat, none⟩ (.int .i64 y.old) (by have := HS1.out; dsimp only; omega)).drew
      have E3 := (hE2.setCell (p := ⟨w3.heap.size, y.page.toNat * 4 + y.cell.toNat, none⟩) (by have := HS0.out; dsimp only; omega) (.int .i64 y.old)).drew
      have G3 : Gr (some w3.heap.size) W (W.setCell ⟨w3.heap.size, y.page.toNat * 4 + y.cell.toNat, none⟩ (.int .i64 y.old)).drew := ((Gr.refl (some w3.heap.size) W).set (p := ⟨w3.heap.size, y.page.toNat * 4 + y.cell.toNat, none⟩) (Or.inr rfl) _).drew
      have R3 := R2.gr G3 (fun ad e e2 => by injection e2 with e2; have := HFr.out ad e; omega)
      clear G3
      go_wp2_with fail
      go_roundw
      case rel => exact ⟨m, by omega, by go_num, E3, by rw [HS.out]; exact A3, C3, R3⟩
      case measure => simp [intOf]

set_option maxRecDepth 100000 in
theorem rollTrue_lifted (os : Os) (started : os.Started) (H : Type) (enc : TypeId × Value → H) :
    ReturnsInHanded {} Try.checked os 6 .any (Rows.rollTrueSpec.pre6 enc Try.prog Try.f6 Rows.rollTrueRow.domain false) (Rows.rollTrueSpec.post enc Try.prog Try.f6 false true false false) := by
  refine returnsInHanded_of_change (C := Try.checked) own started (by kernel_rfl) Try.func6
    (ChangeSpec.witness6 (enc := enc) (C := Try.checked) false ⟨#[], #[.agg #[.int .i64 0, .int .i64 0, .int .i64 0, .int .i64 0, .int .i64 0, .int .i64 0, .int .i64 0, .int .i64 0, .int .i64 0, .int .i64 0, .int .i64 0, .int .i64 0, .slice none 0 0, .int .i64 0], .int .i64 0], []⟩ 8 (by kernel_rfl) (by kernel_rfl) (by kernel_rfl) (by kernel_rfl)) ?_
  intro W base args ds gs before hval0 hW hcnd _
  have hval : ∀ (j : Nat) t v, Try.f6.params[j]? = some t → args[j]? = some v → Value.okWide Try.prog W .any base t v := hval0
  have hW' := hW
  obtain ⟨p, q, hA0, hV, rfl, hfz, hnd⟩ := hW
  have hA : DataW.TrodAll enc Try.prog W 0 (fun _ => true) true Try.f6.params.toList args.toList ds p := hA0
  rw [Try.params6] at hA hval
  obtain ⟨v0, vs0, d0, ds0, p0, q0, hargs, rfl, rfl, h0, r0⟩ := trodAll_cons hA
  obtain ⟨v1, vs1, d1, ds1, p1, q1, rfl, rfl, rfl, h1, r1⟩ := trodAll_cons r0
  obtain ⟨rfl, rfl, rfl⟩ := trodAll_nil r1
  obtain rfl : args = #[v0, v1] := by cases args; simp_all
  obtain ⟨rfl, rfl⟩ := trodVars_none hV
  obtain ⟨P0, Q0, R0, x0, len0, cap0, l0, safe0, rfl, s0⟩ := open_wd (hval 0 28 v0 rfl rfl) h0
  obtain ⟨a1, rfl, b1⟩ := open_num (hval 1 3 v1 rfl rfl)
  clear hA0 hval0
  refine (rollTrue_go W P0 Q0 R0 x0 len0 cap0 l0 safe0 s0 a1 b1).mono fun e W' ⟨he, bel⟩ => ?_
  subst he
  exact ⟨_, rfl, _, _, _, [], _, [], hW', trodAll_mk1 (shut_bool Try.underlying4 _),
    (trodAll_cons_mk (Below.trod laidOut (by kernel_rfl) (of_decide_eq_true (by kernel_rfl)) h0 bel (lt_of_trod h0))
    (trodAll_cons_mk (Below.trod laidOut (by kernel_rfl) (of_decide_eq_true (by kernel_rfl)) h1 bel (lt_of_trod h1))
    trodAll_mk0)), rfl, bel.frame _, fun h => by cases h⟩

theorem rollTrue_over : Rows.rollTrueRow.holds Try.pinned (OpenSpec.ofChange Rows.rollTrueSpec) :=
  OpenClaim.holds_of_wide 6 Try.f6 rfl rfl rfl rfl rfl rfl rfl ⟨rfl, rfl, rfl, rfl, rfl⟩ rfl rfl rfl rfl rfl (by kernel_rfl) Try.func6 (by kernel_rfl)
    (of_decide_eq_true (by kernel_rfl)) (by unfold Func.isWrapper; first | (rw [if_pos (by decide +kernel)]; kernel_rfl) | (rw [if_neg (by decide +kernel)]; exact ⟨rfl, rfl⟩))
    (fun os started H enc _ => rollTrue_lifted os started H enc)
end Go.Proofs.Ytmccggfegllfnaa.B
namespace Go.Proofs.Ytmccggfegllfnaa
theorem rollTrue_holds : Rows.RollTrueSaid := B.rollTrue_over
#print axioms rollTrue_holds
end Go.Proofs.Ytmccggfegllfnaa

