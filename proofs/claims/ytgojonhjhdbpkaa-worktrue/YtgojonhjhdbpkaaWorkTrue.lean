/- WorkTrue holds: what is written is so now, all else is as it was; what must be is as it was, and so is the disk; the world is right. -/
import Derived.Test.YtgojonhjhdbpkaaTrue1
import Derived.Test.YtgojonhjhdbpkaaWork9
import Derived.Test.YtgojonhjhdbpkaaModA
namespace Go.Proofs.Ytgojonhjhdbpkaa.B
set_option maxRecDepth 100000
open Go.ChangeShapes Go.WideShapes Go.ChangeAt Go.RowKit

set_option maxHeartbeats 16000000 in
theorem workTrue_go (w : World) (p q r : Pg) (a : Option Addr) (len cap : Nat) (l : List Rc) (safe : Int) (h : LogIn w a len cap l) (t : Int) (_ : IntKind.i64.has t) (at_ : Int) (_ : IntKind.i64.has at_) (c : Int) (_ : IntKind.i64.has c) (v : Int) (_ : IntKind.i64.has v) :
    Calls Try.prog 15 #[wdVal p q r (.slice a len cap) safe, .int .i64 t, .int .i64 at_, .int .i64 c, .int .i64 v] w fun e w' => e = .returned (.bool true) ∧ Ext w w' := by
  obtain rfl := h.recs.len
  have H1 := fun w' (e : Ext w w') => workWrite_any p q r a l.length cap l safe t at_ c v w' (h.ext e)
  have HA : Hid (errOf (worldErr p q r l safe) (writeErr l t at_ c v) = 0 → _) := fun h0 => write_all h0
  have hl' : (l ++ [writeRec l t at_ c v]).length = l.length + 1 := by simp
  generalize errOf (worldErr p q r l safe) (writeErr l t at_ c v) = xx at *
  generalize l ++ [writeRec l t at_ c v] = l' at *
  have E0 := (Ext.refl w).alloc (.cells (wdCells p q r (.slice a l.length cap) safe) 51)
  have B0 := Blk.new w w.heap.size (wdCells p q r (.slice a l.length cap) safe) 51 rfl
  have b0 := B0.cell
  have HL' := (show Hid (l'.length = l.length + 1) from hl')
  clear hl'
  go_enter Try.func15, Try.ntmps15
  go_wp2_with fail
  refine (H1 _ E0).mono ?_
  rintro e w1 ⟨hw, ⟨hx, a1, cap1, rfl, hin1, _⟩ | ⟨hx, rfl⟩⟩
  · obtain ⟨hz, hlz, hz', hlz', hl60, ⟨p0, p2⟩, ⟨q0, q2⟩, hcs, hps⟩ := HA.out hx
    rw [HL'.out] at hin1 ⊢
    clear HA hx H1
    have o1 := (Ext.refl w1).alloc (.cells (wdCells p q r (.slice a1 (l.length + 1) cap1) safe) 51)
    have X := Blk.new w1 w1.heap.size (wdCells p q r (.slice a1 (l.length + 1) cap1) safe) 51 rfl
    have E1 := (E0.trans hw).trans o1
    have B1 := (B0.ext hw).ext o1
    have I1 := hin1.ext o1
    clear hw o1 b0 B0 E0 hin1
    have HN1 := fun w' (e : Ext w w') => now_any p q r a l.length cap l safe w' (h.recs.ext e) h.nil h.max
    have HN2 := fun w' (i : LogIn w' a1 (l.length + 1) cap1 l') => now_any p q r a1 (l.length + 1) cap1 l' safe w' i.recs i.nil i.max
    have HC1 := fun w' (e : Ext w w') => cells_any a l.length cap l w' (h.recs.ext e) h.max
    have HC2 := fun w' (i : LogIn w' a1 (l.length + 1) cap1 l') => cells_any a1 (l.length + 1) cap1 l' w' i.recs i.max
    have HK := fun w' (i : LogIn w' a1 (l.length + 1) cap1 l') => worldCheck_any p q r a1 (l.length + 1) cap1 l' safe w' i.recs i.nil i.max
    rw [hz, show nowOr p q r l safe = pagesR l from by unfold nowOr; rw [if_pos hz]] at HN1
    rw [hz', show nowOr p q r l' safe = pagesR l' from by unfold nowOr; rw [if_pos hz']] at HN2
    rw [hlz, cellsOr_ok hlz] at HC1
    rw [hlz', cellsOr_ok hlz', hcs] at HC2
    rw [hz'] at HK
    obtain ⟨u0, u1, u2, u3, u4, u5, u6, u7, u8, u9, u10, u11, hpa⟩ := list12 _ (pagesR_len l)
    obtain ⟨k0, k1, k2, k3, k4, k5, k6, k7, k8, k9, k10, k11, hpb⟩ := list12 _ (pagesR_len l')
    obtain ⟨j0, j1, j2, j3, j4, j5, j6, j7, j8, hcx⟩ := len9 (cellsR_len l)
    rw [hpa] at HN1
    rw [hpb] at HN2
    rw [hcx] at HC1 HC2
    rw [hpb, hpa] at hps
    have HPS := (show Hid ([k0, k1, k2, k3, k4, k5, k6, k7, k8, k9, k10, k11] = ([u0, u1, u2, u3, u4, u5, u6, u7, u8, u9, u10, u11].set (at_.toNat * 4 + c.toNat) v).set (at_.toNat * 4 + 3) ((l.length : Int) + 1)) from hps)
    rw [show ints [u0, u1, u2, u3, u4, u5, u6, u7, u8, u9, u10, u11] = #[.int .i64 u0, .int .i64 u1, .int .i64 u2, .int .i64 u3, .int .i64 u4, .int .i64 u5, .int .i64 u6, .int .i64 u7, .int .i64 u8, .int .i64 u9, .int .i64 u10, .int .i64 u11] from rfl] at HN1
    rw [show ints [k0, k1, k2, k3, k4, k5, k6, k7, k8, k9, k10, k11] = #[.int .i64 k0, .int .i64 k1, .int .i64 k2, .int .i64 k3, .int .i64 k4, .int .i64 k5, .int .i64 k6, .int .i64 k7, .int .i64 k8, .int .i64 k9, .int .i64 k10, .int .i64 k11] from rfl] at HN2
    rw [show ints [j0, j1, j2, j3, j4, j5, j6, j7, j8] = #[.int .i64 j0, .int .i64 j1, .int .i64 j2, .int .i64 j3, .int .i64 j4, .int .i64 j5, .int .i64 j6, .int .i64 j7, .int .i64 j8] from rfl] at HC1 HC2
    clear hps hpa hpb hcx hcs hz hz' hlz hlz'
    have p3 : at_ < 3 := by omega
    have q3 : c < 3 := by omega
    have b1 := B1.cell
    go_wp2_with fail
    refine (HN1 _ E1).mono ?_
    rintro e w2 ⟨rfl, hw⟩
    have o2 := (Ext.refl w2).alloc (.cells #[.int .i64 u0, .int .i64 u1, .int .i64 u2, .int .i64 u3, .int .i64 u4, .int .i64 u5, .int .i64 u6, .int .i64 u7, .int .i64 u8, .int .i64 u9, .int .i64 u10, .int .i64 u11] 30)
    have HS0 : Hid (w.heap.size ≤ w2.heap.size) := Nat.le_trans E1.size hw.size
    have HS1 : Hid (w1.heap.size < w2.heap.size) := Nat.lt_of_lt_of_le X.lt hw.size
    have A2 := Blk.new w2 w2.heap.size #[.int .i64 u0, .int .i64 u1, .int .i64 u2, .int .i64 u3, .int .i64 u4, .int .i64 u5, .int .i64 u6, .int .i64 u7, .int .i64 u8, .int .i64 u9, .int .i64 u10, .int .i64 u11] 30 rfl
    have E2 := (E1.trans hw).trans o2
    have B2 := (B1.ext hw).ext o2
    have X2 := (X.ext hw).ext o2
    have I2 := (I1.ext hw).ext o2
    clear hw o2 b1 B1 E1 X I1 HN1
    have x2 := X2.cell
    go_wp2_with fail
    refine (HN2 _ I2).mono ?_
    rintro e w3 ⟨rfl, hw⟩
    have o3 := (Ext.refl w3).alloc (.cells #[.int .i64 k0, .int .i64 k1, .int .i64 k2, .int .i64 k3, .int .i64 k4, .int .i64 k5, .int .i64 k6, .int .i64 k7, .int .i64 k8, .int .i64 k9, .int .i64 k10, .int .i64 k11] 30)
    have HS2 : Hid (w2.heap.size < w3.heap.size) := Nat.lt_of_lt_of_le A2.lt hw.size
    have C3 := Blk.new w3 w3.heap.size #[.int .i64 k0, .int .i64 k1, .int .i64 k2, .int .i64 k3, .int .i64 k4, .int .i64 k5, .int .i64 k6, .int .i64 k7, .int .i64 k8, .int .i64 k9, .int .i64 k10, .int .i64 k11] 30 rfl
    have E3 := (E2.trans hw).trans o3
    have B3 := (B2.ext hw).ext o3
    have X3 := (X2.ext hw).ext o3
    have I3 := (I2.ext hw).ext o3
    have A3 := (A2.ext hw).ext o3
    clear hw o3 x2 B2 E2 X2 I2 A2 HN2
    have b3 := B3.cell
    go_wp2_with fail
    refine (HC1 _ E3).mono ?_
    rintro e w4 ⟨rfl, hw⟩
    have o4 := (Ext.refl w4).alloc (.cells #[.int .i64 j0, .int .i64 j1, .int .i64 j2, .int .i64 j3, .int .i64 j4, .int .i64 j5, .int .i64 j6, .int .i64 j7, .int .i64 j8] 43)
    have D4 := Blk.new w4 w4.heap.size #[.int .i64 j0, .int .i64 j1, .int .i64 j2, .int .i64 j3, .int .i64 j4, .int .i64 j5, .int .i64 j6, .int .i64 j7, .int .i64 j8] 43 rfl
    have E4 := (E3.trans hw).trans o4
    have B4 := (B3.ext hw).ext o4
    have X4 := (X3.ext hw).ext o4
    have I4 := (I3.ext hw).ext o4
    have A4 := (A3.ext hw).ext o4
    have C4 := (C3.ext hw).ext o4
    clear hw o4 b3 B3 E3 X3 I3 A3 C3 HC1
    have x4 := X4.cell
    go_wp2_with fail
    refine (HC2 _ I4).mono ?_
    rintro e w5 ⟨rfl, hw⟩
    have o5 := (Ext.refl w5).alloc (.cells #[.int .i64 j0, .int .i64 j1, .int .i64 j2, .int .i64 j3, .int .i64 j4, .int .i64 j5, .int .i64 j6, .int .i64 j7, .int .i64 j8] 43)
    have G5 := Blk.new w5 w5.heap.size #[.int .i64 j0, .int .i64 j1, .int .i64 j2, .int .i64 j3, .int .i64 j4, .int .i64 j5, .int .i64 j6, .int .i64 j7, .int .i64 j8] 43 rfl
    have E5 := (E4.trans hw).trans o5
    have B5 := (B4.ext hw).ext o5
    have X5 := (X4.ext hw).ext o5
    have I5 := (I4.ext hw).ext o5
    have A5 := (A4.ext hw).ext o5
    have C5 := (C4.ext hw).ext o5
    have D5 := (D4.ext hw).ext o5
    clear hw o5 x4 B4 E4 X4 I4 A4 C4 D4 HC2
    have d5 := D5.cell
    have g5 := G5.cell
    have x5 := X5.cell
    have b5 := B5.cell
    have e1 := eql_cells j0 j1 j2 j3 j4 j5 j6 j7 j8
    have e2 := eqn_pages p q r
    dsimp only [val3] at e2
    go_wp2_with fail
    refine (HK _ I5).mono ?_
    rintro e w6 ⟨rfl, hw⟩
    have E6 := E5.trans hw
    have A6 := A5.ext hw
    have C6 := C5.ext hw
    have X6 := X5.ext hw
    clear hw d5 g5 x5 b5 e1 B5 E5 X5 I5 A5 C5 D5 G5 HK
    have A6' : Blk w6 w2.heap.size (ints [u0, u1, u2, u3, u4, u5, u6, u7, u8, u9, u10, u11]) 30 := A6
    have f6 := A6'.fr
    obtain ⟨y, hy⟩ : ∃ y, w6.cell? ⟨w2.heap.size, at_.toNat * 4 + c.toNat, none⟩ = some (.int .i64 y) := by
      have hlt : at_.toNat * 4 + c.toNat < [u0, u1, u2, u3, u4, u5, u6, u7, u8, u9, u10, u11].length := by simp; omega
      exact ⟨[u0, u1, u2, u3, u4, u5, u6, u7, u8, u9, u10, u11][at_.toNat * 4 + c.toNat], by rw [A6'.cell, ints_get, List.getElem?_eq_getElem hlt]; rfl⟩
    have A7 := A6'.set (at_.toNat * 4 + c.toNat) (.int .i64 v)
    rw [ints_set] at A7
    have hXA : w1.heap.size ≠ w2.heap.size := by have := HS1.out; omega
    have hCA : w3.heap.size ≠ w2.heap.size := by have := HS2.out; omega
    have X7 := X6.other ⟨w2.heap.size, at_.toNat * 4 + c.toNat, none⟩ (.int .i64 v) hXA
    have C7 := C6.other ⟨w2.heap.size, at_.toNat * 4 + c.toNat, none⟩ (.int .i64 v) hCA
    have E7 := E6.setCell (p := ⟨w2.heap.size, at_.toNat * 4 + c.toNat, none⟩) (by have := HS0.out; dsimp only; omega) (.int .i64 v)
    have f7 := A7.fr
    have x7 := X7.cell
    obtain ⟨z, hz⟩ : ∃ z, (w6.setCell ⟨w2.heap.size, at_.toNat * 4 + c.toNat, none⟩ (.int .i64 v)).cell? ⟨w2.heap.size, at_.toNat * 4 + 3, none⟩ = some (.int .i64 z) := by
      have hlt : at_.toNat * 4 + 3 < ([u0, u1, u2, u3, u4, u5, u6, u7, u8, u9, u10, u11].set (at_.toNat * 4 + c.toNat) v).length := by simp; omega
      exact ⟨_, by rw [A7.cell, ints_get, List.getElem?_eq_getElem hlt]; rfl⟩
    have A8 := A7.set (at_.toNat * 4 + 3) (.int .i64 ((l.length : Int) + 1))
    rw [ints_set, ← HPS.out] at A8
    have C8 := C7.other ⟨w2.heap.size, at_.toNat * 4 + 3, none⟩ (.int .i64 ((l.length : Int) + 1)) hCA
    have E8 := E7.setCell (p := ⟨w2.heap.size, at_.toNat * 4 + 3, none⟩) (by have := HS0.out; dsimp only; omega) (.int .i64 ((l.length : Int) + 1))
    have A8' : Blk _ w2.heap.size #[.int .i64 k0, .int .i64 k1, .int .i64 k2, .int .i64 k3, .int .i64 k4, .int .i64 k5, .int .i64 k6, .int .i64 k7, .int .i64 k8, .int .i64 k9, .int .i64 k10, .int .i64 k11] 30 := A8
    clear A6 A6' A7 A8 C6 C7 X6 X7 E6 E7
    go_wp2_with fail
    refine (workBegun_any _).mono ?_
    rintro e w9 ⟨rfl, hw⟩
    have a9 := (A8'.ext hw).cell
    have c9 := (C8.ext hw).cell
    have E9 := E8.trans hw
    have e3 := eqn_pages ⟨k0, k1, k2, k3⟩ ⟨k4, k5, k6, k7⟩ ⟨k8, k9, k10, k11⟩
    dsimp only [val3] at e3
    clear hw A8' C8 E8 f6 hy f7 x7 hz e2 HPS
    go_wp2_with fail
    go_ret
    exact ⟨by simp, E9⟩
  · have HX := (show Hid (xx ≠ 0) from hx)
    have hb : (xx != 0) = true := by simpa using hx
    have E1 := (E0.trans hw).alloc (.cells (wdCells noPg noPg noPg (.slice none 0 0) 0) 51)
    clear hx HA H1 b0 hw E0 B0
    go_wp2_with fail
    refine (workBegun_any _).mono ?_
    rintro e w3 ⟨rfl, hw⟩
    go_wp2_with fail
    go_ret
    exact ⟨by simp, E1.trans hw⟩

set_option maxRecDepth 100000 in
theorem workTrue_lifted (os : Os) (started : os.Started) (H : Type) (enc : TypeId × Value → H) :
    ReturnsInHanded {} Try.checked os 15 .any (Rows.workTrueSpec.pre6 enc Try.prog Try.f15 Rows.workTrueRow.domain false) (Rows.workTrueSpec.post enc Try.prog Try.f15 false true false false) := by
  refine returnsInHanded_of_change (C := Try.checked) own started (by kernel_rfl) Try.func15
    (ChangeSpec.witness6 (enc := enc) (C := Try.checked) false ⟨#[], #[.agg #[.int .i64 0, .int .i64 0, .int .i64 0, .int .i64 0, .int .i64 0, .int .i64 0, .int .i64 0, .int .i64 0, .int .i64 0, .int .i64 0, .int .i64 0, .int .i64 0, .slice none 0 0, .int .i64 0], .int .i64 0, .int .i64 0, .int .i64 0, .int .i64 0], []⟩ 8 (by kernel_rfl) (by kernel_rfl) (by kernel_rfl) (by kernel_rfl)) ?_
  intro W base args ds gs before hval0 hW hcnd _
  have hval : ∀ (j : Nat) t v, Try.f15.params[j]? = some t → args[j]? = some v → Value.okWide Try.prog W .any base t v := hval0
  have hW' := hW
  obtain ⟨p, q, hA0, hV, rfl, hfz, hnd⟩ := hW
  have hA : DataW.TrodAll enc Try.prog W 0 (fun _ => true) true Try.f15.params.toList args.toList ds p := hA0
  rw [Try.params15] at hA hval
  obtain ⟨v0, vs0, d0, ds0, p0, q0, hargs, rfl, rfl, h0, r0⟩ := trodAll_cons hA
  obtain ⟨v1, vs1, d1, ds1, p1, q1, rfl, rfl, rfl, h1, r1⟩ := trodAll_cons r0
  obtain ⟨v2, vs2, d2, ds2, p2, q2, rfl, rfl, rfl, h2, r2⟩ := trodAll_cons r1
  obtain ⟨v3, vs3, d3, ds3, p3, q3, rfl, rfl, rfl, h3, r3⟩ := trodAll_cons r2
  obtain ⟨v4, vs4, d4, ds4, p4, q4, rfl, rfl, rfl, h4, r4⟩ := trodAll_cons r3
  obtain ⟨rfl, rfl, rfl⟩ := trodAll_nil r4
  obtain rfl : args = #[v0, v1, v2, v3, v4] := by cases args; simp_all
  obtain ⟨rfl, rfl⟩ := trodVars_none hV
  obtain ⟨P0, Q0, R0, x0, len0, cap0, l0, safe0, rfl, s0⟩ := open_wd (hval 0 51 v0 rfl rfl) h0
  obtain ⟨a1, rfl, b1⟩ := open_num (hval 1 3 v1 rfl rfl)
  obtain ⟨a2, rfl, b2⟩ := open_num (hval 2 3 v2 rfl rfl)
  obtain ⟨a3, rfl, b3⟩ := open_num (hval 3 3 v3 rfl rfl)
  obtain ⟨a4, rfl, b4⟩ := open_num (hval 4 3 v4 rfl rfl)
  clear hA0 hval0
  refine (workTrue_go W P0 Q0 R0 x0 len0 cap0 l0 safe0 s0 a1 b1 a2 b2 a3 b3 a4 b4).mono fun e W' ⟨he, bel⟩ => ?_
  subst he
  exact ⟨_, rfl, _, _, _, [], _, [], hW', trodAll_mk1 (shut_bool Try.underlying4 _),
    (trodAll_cons_mk (Below.trod laidOut (by kernel_rfl) (of_decide_eq_true (by kernel_rfl)) h0 bel (lt_of_trod h0))
    (trodAll_cons_mk (Below.trod laidOut (by kernel_rfl) (of_decide_eq_true (by kernel_rfl)) h1 bel (lt_of_trod h1))
    (trodAll_cons_mk (Below.trod laidOut (by kernel_rfl) (of_decide_eq_true (by kernel_rfl)) h2 bel (lt_of_trod h2))
    (trodAll_cons_mk (Below.trod laidOut (by kernel_rfl) (of_decide_eq_true (by kernel_rfl)) h3 bel (lt_of_trod h3))
    (trodAll_cons_mk (Below.trod laidOut (by kernel_rfl) (of_decide_eq_true (by kernel_rfl)) h4 bel (lt_of_trod h4))
    trodAll_mk0))))), rfl, bel.frame _, fun h => by cases h⟩

theorem workTrue_over : Rows.workTrueRow.holds Try.pinned (OpenSpec.ofChange Rows.workTrueSpec) :=
  OpenClaim.holds_of_wide 15 Try.f15 rfl rfl rfl rfl rfl rfl rfl ⟨rfl, rfl, rfl, rfl, rfl⟩ rfl rfl rfl rfl rfl (by kernel_rfl) Try.func15 (by kernel_rfl)
    (of_decide_eq_true (by kernel_rfl)) (by unfold Func.isWrapper; first | (rw [if_pos (by decide +kernel)]; kernel_rfl) | (rw [if_neg (by decide +kernel)]; exact ⟨rfl, rfl⟩))
    (fun os started H enc _ => workTrue_lifted os started H enc)
end Go.Proofs.Ytgojonhjhdbpkaa.B
namespace Go.Proofs.Ytgojonhjhdbpkaa
theorem workTrue_holds : Rows.WorkTrueSaid := B.workTrue_over
#print axioms workTrue_holds
end Go.Proofs.Ytgojonhjhdbpkaa

