/- The desk's other orders: crash, now, disk, must, log, state. · The desk's orders log and must. · The desk's orders, by their first words. -/
import Derived.Test.YtibfgbmhmdggmaaGreatDoorDk5
namespace Go.Proofs.YtibfgbmhmdggmaaGreatDoor.B
set_option maxHeartbeats 32000000
set_option maxRecDepth 100000
open Go.ChangeShapes Go.WideShapes Go.ChangeAt Go.RowKit
theorem list12e {ps : List Int} (h : ps.length = 12) : ∃ x0 x1 x2 x3 x4 x5 x6 x7 x8 x9 x10 x11, ps = [x0, x1, x2, x3, x4, x5, x6, x7, x8, x9, x10, x11] := list12 ps h
theorem list9e {ps : List Int} (h : ps.length = 9) : ∃ x0 x1 x2 x3 x4 x5 x6 x7 x8, ps = [x0, x1, x2, x3, x4, x5, x6, x7, x8] := by
 match ps, h with
 | [x0, x1, x2, x3, x4, x5, x6, x7, x8], _ => exact ⟨x0, x1, x2, x3, x4, x5, x6, x7, x8, rfl⟩
theorem ord7_any (cb bc : Nat) (nv : Value) (W : Wd) (hW : W.err = 0) (w : World) (C : Ck w cb W) (hp : w.cell? ⟨bc, 0, none⟩ = some (.pointer (some ⟨cb, 0, none⟩))) :
  Calls Tryz.prog 75 #[nv, .pointer (some ⟨bc, 0, none⟩)] w fun e w' => OrdAns cb W (ordT W 6 []) w w' e := by
 have C0 := C
 obtain ⟨a, cap, B, L, hne⟩ := C
 obtain ⟨x0, x1, x2, x3, x4, x5, x6, x7, x8, x9, x10, x11, hps⟩ := list12e (pagesR_len W.l)
 have hsm : Small (cellsOfPgs (pgAt (pagesR W.l) 0) (pgAt (pagesR W.l) 1) (pgAt (pagesR W.l) 2)) := pgAt_small (right_l hW)
 have hcl : cellsOfPgs (pgAt (pagesR W.l) 0) (pgAt (pagesR W.l) 1) (pgAt (pagesR W.l) 2) = [x0, x1, x2, x4, x5, x6, x8, x9, x10] := by rw [hps]; rfl
 have HT : Hid (ordT W 6 [] = ⟨0, W, listedR [x0, x1, x2, x4, x5, x6, x8, x9, x10]⟩) := by show (⟨0, W, listedR (cellsOfPgs _ _ _)⟩ : Told) = _; rw [hcl]
 rw [hcl] at hsm
 have hnow : nowOr W.p W.q W.r W.l W.safe = [x0, x1, x2, x3, x4, x5, x6, x7, x8, x9, x10, x11] := by unfold nowOr; rw [if_pos (show worldErr W.p W.q W.r W.l W.safe = 0 from hW), hps]
 have HN := fun W' (e : Ext w W') => now_any W.p W.q W.r a W.l.length cap W.l W.safe W' (L.ext e).recs L.nil L.max
 rw [hnow, show worldErr W.p W.q W.r W.l W.safe = 0 from hW] at HN
 have HTl : Hid (∀ W', Calls Tryz.prog 20 #[.iface 35 (.agg #[.int .i64 x0, .int .i64 x1, .int .i64 x2, .int .i64 x3, .int .i64 x4, .int .i64 x5, .int .i64 x6, .int .i64 x7, .int .i64 x8, .int .i64 x9, .int .i64 x10, .int .i64 x11])] W' fun e w' => e = .returned (tx (listedR [x0, x1, x2, x4, x5, x6, x8, x9, x10])) ∧ Ext W' w') := fun W' => tell_pages x0 x1 x2 x3 x4 x5 x6 x7 x8 x9 x10 x11 hsm W'
 have HN' : ∀ W', Ext w W' → Calls Tryz.prog 76 #[wdVal W.p W.q W.r (.slice a W.l.length cap) W.safe] W' fun e w' => e = .returned (.tuple #[.agg #[.int .i64 x0, .int .i64 x1, .int .i64 x2, .int .i64 x3, .int .i64 x4, .int .i64 x5, .int .i64 x6, .int .i64 x7, .int .i64 x8, .int .i64 x9, .int .i64 x10, .int .i64 x11], .int .i64 0]) ∧ Ext W' w' := HN
 clear HN hnow hcl hsm hps
 have b_ := B.cell
 go_enter Tryz.func75, Tryz.ntmps75
 go_wp2_with fail
 refine (HN' _ (Ext.refl w)).mono ?_
 rintro e w1 ⟨rfl, hw⟩
 have E1 := hw.alloc (.cells #[.int .i64 x0, .int .i64 x1, .int .i64 x2, .int .i64 x3, .int .i64 x4, .int .i64 x5, .int .i64 x6, .int .i64 x7, .int .i64 x8, .int .i64 x9, .int .i64 x10, .int .i64 x11] 35)
 have A1 := Blk.new w1 w1.heap.size #[.int .i64 x0, .int .i64 x1, .int .i64 x2, .int .i64 x3, .int .i64 x4, .int .i64 x5, .int .i64 x6, .int .i64 x7, .int .i64 x8, .int .i64 x9, .int .i64 x10, .int .i64 x11] 35 rfl
 have a1 := A1.cell
 go_wp2_with fail
 refine (leave_ok _).mono ?_
 rintro e w2 ⟨rfl, rfl⟩
 go_wp2_with fail
 go_ret
 rw [HT.out]
 exact ⟨Gr.of_ext E1, Or.inl ⟨rfl, _, rfl, fun W' _ => HTl.out W', C0.ext E1⟩⟩
theorem ord8_any (cb bc : Nat) (nv : Value) (W : Wd) (hW : W.err = 0) (w : World) (C : Ck w cb W) (hp : w.cell? ⟨bc, 0, none⟩ = some (.pointer (some ⟨cb, 0, none⟩))) :
  Calls Tryz.prog 77 #[nv, .pointer (some ⟨bc, 0, none⟩)] w fun e w' => OrdAns cb W (ordT W 7 []) w w' e := by
 have C0 := C
 obtain ⟨a, cap, B, L, hne⟩ := C
 have hsm := disk_small hW
 have HTl : Hid (∀ W', Calls Tryz.prog 20 #[.iface 35 (.agg #[.int .i64 W.p.c0, .int .i64 W.p.c1, .int .i64 W.p.c2, .int .i64 W.p.last, .int .i64 W.q.c0, .int .i64 W.q.c1, .int .i64 W.q.c2, .int .i64 W.q.last, .int .i64 W.r.c0, .int .i64 W.r.c1, .int .i64 W.r.c2, .int .i64 W.r.last])] W' fun e w' => e = .returned (tx (listedR (cellsOfPgs W.p W.q W.r))) ∧ Ext W' w') := fun W' => tell_pages _ _ _ _ _ _ _ _ _ _ _ _ hsm W'
 have b_ := B.cell
 go_enter Tryz.func77, Tryz.ntmps77
 go_wp2_with fail
 go_ret
 exact ⟨Gr.refl _ _, Or.inl ⟨rfl, _, rfl, fun W' _ => HTl.out W', C0⟩⟩
theorem ord6_any (cb bc : Nat) (nv : Value) (W : Wd) (w : World) (C : Ck w cb W) (hp : w.cell? ⟨bc, 0, none⟩ = some (.pointer (some ⟨cb, 0, none⟩))) :
  Calls Tryz.prog 73 #[nv, .pointer (some ⟨bc, 0, none⟩)] w fun e w' => OrdAns cb W (ordT W 5 []) w w' e := by
 obtain ⟨a, cap, B, L, hne⟩ := C
 obtain ⟨e1, e2⟩ := do_k6 (W := W) (x := ⟨6, 0, 0, 0, 0⟩) rfl
 have HA : ∀ W', Ext w W' → Calls Tryz.prog 74 #[wdVal W.p W.q W.r (.slice a W.l.length cap) W.safe] W' fun e w' => Ext W' w' ∧ AllAns W'.heap.size w' e (mendWd W).p (mendWd W).q (mendWd W).r (doErr W ⟨6, 0, 0, 0, 0⟩) (needR W.cut) (mendWd W).l (mendWd W).safe := fun W' e => by
  rw [e1]
  exact mendAll_any W.p W.q W.r a W.l.length cap W.l W.safe W' (L.ext e)
 have hsm : doErr W ⟨6, 0, 0, 0, 0⟩ = 0 → needR W.cut < 100 := fun hz => by
  rw [e1] at hz
  refine need_small ?_
  unfold errOf at hz
  split at hz
  ·exact hz
  ·rename_i h0; exact absurd hz h0
 have HT : Hid (ordT W 5 [] = ⟨doErr W ⟨6, 0, 0, 0, 0⟩, mendWd W, digitsR (needR W.cut)⟩) := rfl
 have hcl := B.lt
 have b_ := B.cell
 clear e1 e2
 generalize doErr W ⟨6, 0, 0, 0, 0⟩ = xx at *
 generalize mendWd W = V at *
 generalize needR W.cut = nn at *
 go_enter Tryz.func73, Tryz.ntmps73
 go_wp2_with fail
 refine (HA _ (Ext.refl w)).mono ?_
 rintro e w1 ⟨hw, ⟨h0, a', cap', rfl, L1, hfrom⟩ | ⟨hx, rfl⟩⟩
 ·subst h0
  have hs := hsm rfl
  have HTl : Hid (∀ W', Calls Tryz.prog 20 #[.iface 3 (.int .i64 (nn : Nat))] W' fun e w' => e = .returned (tx (digitsR nn)) ∧ Ext W' w') := fun W' => by
   have := tell_int (nn : Nat) (by omega) (by omega) W'
   rw [Int.toNat_natCast] at this
   exact this
  have o1 := (Ext.refl w1).alloc (.cells (wdCells V.p V.q V.r (.slice a' V.l.length cap') V.safe) 38)
  have E1 := hw.trans o1
  have X1 := Blk.new w1 w1.heap.size (wdCells V.p V.q V.r (.slice a' V.l.length cap') V.safe) 38 rfl
  have x1 := X1.cell
  have hp0 := hw.cell hp
  have hpl : bc < w1.heap.size := cell_lt hp0
  clear hp
  have B1 := B.ext E1
  have L2 := L1.ext o1
  clear b_ hsm
  go_wp2_with fail
  refine (clerk_ok cb _ rfl V.p V.q V.r a' V.l.length cap' V.safe _ B1).mono ?_
  rintro e w2 ⟨rfl, g, B2⟩
  have HL := (show Hid (LogIn w2 a' V.l.length cap' V.l) from L2.gr g (fun ad e2 e3 => by injection e3 with e3; have h1 := hfrom ad e2; rw [e3] at h1; omega))
  have HF : Hid (∀ ad, a' = some ad → ad.block ≠ cb) := fun ad e2 e3 => by have h1 := hfrom ad e2; rw [e3] at h1; omega
  have HG := (show Hid (Gr (some cb) w w2) from (Gr.of_ext E1).trans g)
  have HB := (show Hid (Blk w2 cb (wdCells V.p V.q V.r (.slice a' V.l.length cap') V.safe) 41) from B2)
  clear x1 X1 B1 L2 o1 hp0 hpl hw L1 hfrom g B2 E1 B L HA
  go_wp2_with fail
  go_ret
  rw [HT.out]
  exact ⟨HG.out, Or.inl ⟨rfl, _, rfl, fun W' _ => HTl.out W', ⟨a', cap', HB.out, HL.out, HF.out⟩⟩⟩
 ·have o1 := (Ext.refl w1).alloc (.cells (wdCells noPg noPg noPg (.slice none 0 0) 0) 38)
  have E1 := hw.trans o1
  have X1 := Blk.new w1 w1.heap.size (wdCells noPg noPg noPg (.slice none 0 0) 0) 38 rfl
  have x1 := X1.cell
  have hp0 := hw.cell hp
  have hpl : bc < w1.heap.size := cell_lt hp0
  clear hp
  have HX := (show Hid (xx ≠ 0) from hx)
  clear b_ hsm
  go_wp2_with fail
  refine (clerk_no cb (wdVal noPg noPg noPg (.slice none 0 0) 0) xx hx _ ⟨noPg, noPg, noPg, none, 0, 0, 0, rfl⟩).mono ?_
  rintro e w2 ⟨rfl, hw2⟩
  have HG := (show Hid (Gr (some cb) w w2) from Gr.of_ext (E1.trans hw2))
  have HC : Hid (Ck w2 cb W) := ⟨a, cap, B.ext (E1.trans hw2), L.ext (E1.trans hw2), hne⟩
  clear x1 X1 o1 hp0 hpl hw hw2 E1 B L HA hx
  go_wp2_with fail
  rw [HT.out]
  exact ⟨rfl, HG.out, Or.inr ⟨HX.out, rfl, HC.out⟩⟩
theorem ord11_any (cb bc nb ncap : Nat) (n0 : Int) (W : Wd) (hW : W.err = 0) (w : World) (C : Ck w cb W) (hp : w.cell? ⟨bc, 0, none⟩ = some (.pointer (some ⟨cb, 0, none⟩))) (h0 : w.cell? ⟨nb, 0, none⟩ = some (.int .i64 n0)) :
  Calls Tryz.prog 81 #[.slice (some ⟨nb, 0, none⟩) 1 ncap, .pointer (some ⟨bc, 0, none⟩)] w fun e w' => OrdAns cb W (ordT W 10 [n0]) w w' e := by
 have C0 := C
 obtain ⟨a, cap, B, L, hne⟩ := C
 have HS := fun W' (e : Ext w W') => logState_any a W.l.length cap W.l n0 W' (L.ext e).recs L.max
 have hlz := (worldErr_zero hW).1
 have HT : Hid (ordT W 10 [n0] = ⟨(if out 1 9 [n0] then 3 else 0), W, digitsR (stateR W.l n0).toNat⟩) := rfl
 unfold stateAns at HS
 rw [if_pos hlz] at HS
 have hst := state_small W.l n0
 have HKC : Hid (∀ W', Ext w W' → W'.cell? ⟨bc, 0, none⟩ = some (.pointer (some ⟨cb, 0, none⟩)) ∧ W'.cell? ⟨cb, 12, none⟩ = some (.slice a W.l.length cap) ∧ W'.cell? ⟨nb, 0, none⟩ = some (.int .i64 n0)) := fun W' e => ⟨e.cell hp, by rw [(B.ext e).cell]; rfl, e.cell h0⟩
 by_cases ho : out 1 9 [n0] = true
 ·rw [ho] at HS HT
  simp only [if_true] at HS HT
  go_enter Tryz.func81, Tryz.ntmps81
  go_wp2_with fail
  have Ed := (Ext.refl w).drew
  refine wp_region_held_drew (S := fun W' => W'.cell? ⟨bc, 0, none⟩ = some (.pointer (some ⟨cb, 0, none⟩)) ∧ W'.cell? ⟨cb, 12, none⟩ = some (.slice a W.l.length cap) ∧ W'.cell? ⟨nb, 0, none⟩ = some (.int .i64 n0)) (by kernel_rfl) (HKC.out _ Ed) (fun hHeld => ?_)
  refine tkn 0 rfl hHeld ?_
  simp only [Act.put]
  refine tkn 1 rfl hHeld ?_
  simp only [Act.put]
  refine tkn 2 rfl hHeld ?_
  simp only [Act.put]
  refine tkn 3 rfl hHeld ?_
  simp only [Act.put]
  refine tkn 4 rfl hHeld ?_
  simp only [Act.put]
  refine tkn 5 rfl hHeld ?_
  simp only [Act.put]
  refine tkn 6 rfl hHeld ?_
  simp only [Act.put]
  refine tkn 7 rfl hHeld ?_
  simp only [Act.put]
  refine exn 8 rfl fun K hK => ?_
  go_simp
  refine (HS _ Ed).mono ?_
  rintro e w1 ⟨rfl, hw⟩
  have E2 := Ed.trans hw
  go_wp2_with fail
  refine hK.out _ _ (HKC.out _ E2) (fun hHeld => ?_)
  clear hK K
  refine tkn 9 rfl hHeld ?_
  simp only [Act.put]
  refine tkn 10 rfl hHeld ?_
  simp only [Act.put]
  refine tkn 11 rfl hHeld ?_
  simp only [Act.put]
  refine tkn 12 rfl hHeld ?_
  simp only [Act.put]
  refine tkn 13 rfl hHeld ?_
  simp only [Act.put]
  refine tkn 14 rfl hHeld ?_
  simp only [Act.put]
  refine tkn 15 rfl hHeld ?_
  simp only [Act.put]
  clear hHeld
  refine wpAnyH_done (by kernel_rfl) ?_ _
  go_wp2_with fail
  refine (leave_no 3 (by decide) _).mono ?_
  rintro e w2 ⟨rfl, rfl⟩
  go_wp2_with fail
  rw [HT.out]
  exact ⟨rfl, Gr.of_ext E2, Or.inr ⟨by show (3 : Int) ≠ 0; decide, rfl, C0.ext E2⟩⟩
 ·rw [Bool.not_eq_true] at ho
  rw [ho] at HS HT
  simp only [Bool.false_eq_true, if_false] at HS HT
  obtain ⟨st, hs0⟩ : ∃ st : Nat, stateR W.l n0 = (st : Int) := ⟨(stateR W.l n0).toNat, by omega⟩
  rw [hs0] at HS HT hst
  rw [Int.toNat_natCast] at HT
  have HTl : Hid (∀ W', Calls Tryz.prog 20 #[.iface 3 (.int .i64 (st : Nat))] W' fun e w' => e = .returned (tx (digitsR st)) ∧ Ext W' w') := fun W' => by
   have := tell_int (st : Nat) (by omega) (by omega) W'
   rw [Int.toNat_natCast] at this
   exact this
  clear hs0 hst
  go_enter Tryz.func81, Tryz.ntmps81
  go_wp2_with fail
  have Ed := (Ext.refl w).drew
  refine wp_region_held_drew (S := fun W' => W'.cell? ⟨bc, 0, none⟩ = some (.pointer (some ⟨cb, 0, none⟩)) ∧ W'.cell? ⟨cb, 12, none⟩ = some (.slice a W.l.length cap) ∧ W'.cell? ⟨nb, 0, none⟩ = some (.int .i64 n0)) (by kernel_rfl) (HKC.out _ Ed) (fun hHeld => ?_)
  refine tkn 0 rfl hHeld ?_
  simp only [Act.put]
  refine tkn 1 rfl hHeld ?_
  simp only [Act.put]
  refine tkn 2 rfl hHeld ?_
  simp only [Act.put]
  refine tkn 3 rfl hHeld ?_
  simp only [Act.put]
  refine tkn 4 rfl hHeld ?_
  simp only [Act.put]
  refine tkn 5 rfl hHeld ?_
  simp only [Act.put]
  refine tkn 6 rfl hHeld ?_
  simp only [Act.put]
  refine tkn 7 rfl hHeld ?_
  simp only [Act.put]
  refine exn 8 rfl fun K hK => ?_
  go_simp
  refine (HS _ Ed).mono ?_
  rintro e w1 ⟨rfl, hw⟩
  have E2 := Ed.trans hw
  go_wp2_with fail
  refine hK.out _ _ (HKC.out _ E2) (fun hHeld => ?_)
  clear hK K
  refine tkn 9 rfl hHeld ?_
  simp only [Act.put]
  refine tkn 10 rfl hHeld ?_
  simp only [Act.put]
  refine tkn 11 rfl hHeld ?_
  simp only [Act.put]
  refine tkn 12 rfl hHeld ?_
  simp only [Act.put]
  refine tkn 13 rfl hHeld ?_
  simp only [Act.put]
  refine tkn 14 rfl hHeld ?_
  simp only [Act.put]
  refine tkn 15 rfl hHeld ?_
  simp only [Act.put]
  clear hHeld
  refine wpAnyH_done (by kernel_rfl) ?_ _
  go_wp2_with fail
  refine (leave_ok _).mono ?_
  rintro e w2 ⟨rfl, rfl⟩
  go_wp2_with fail
  go_ret
  rw [HT.out]
  exact ⟨Gr.of_ext E2, Or.inl ⟨rfl, _, rfl, fun W' _ => HTl.out W', C0.ext E2⟩⟩
abbrev lay9 (w : World) (b : Nat) (x0 x1 x2 x3 x4 x5 x6 x7 x8 : Int) : World := ((((((((w.setCell ⟨b, 0, none⟩ (.int .i64 x0)).setCell ⟨b, 1, none⟩ (.int .i64 x1)).setCell ⟨b, 2, none⟩ (.int .i64 x2)).setCell ⟨b, 3, none⟩ (.int .i64 x3)).setCell ⟨b, 4, none⟩ (.int .i64 x4)).setCell ⟨b, 5, none⟩ (.int .i64 x5)).setCell ⟨b, 6, none⟩ (.int .i64 x6)).setCell ⟨b, 7, none⟩ (.int .i64 x7)).setCell ⟨b, 8, none⟩ (.int .i64 x8)
theorem lay9_blk {w : World} {b : Nat} {y0 y1 y2 y3 y4 y5 y6 y7 y8 : Value} {t : TypeId} (h : Blk w b #[y0, y1, y2, y3, y4, y5, y6, y7, y8] t) (x0 x1 x2 x3 x4 x5 x6 x7 x8 : Int) : Blk (lay9 w b x0 x1 x2 x3 x4 x5 x6 x7 x8) b #[.int .i64 x0, .int .i64 x1, .int .i64 x2, .int .i64 x3, .int .i64 x4, .int .i64 x5, .int .i64 x6, .int .i64 x7, .int .i64 x8] t := by
 have h2 := ((((((((h.set 0 (.int .i64 x0)).set 1 (.int .i64 x1)).set 2 (.int .i64 x2)).set 3 (.int .i64 x3)).set 4 (.int .i64 x4)).set 5 (.int .i64 x5)).set 6 (.int .i64 x6)).set 7 (.int .i64 x7)).set 8 (.int .i64 x8)
 simpa using h2
theorem lay9_ext {a w : World} (h : Ext a w) (b : Nat) (hb : a.heap.size ≤ b) (x0 x1 x2 x3 x4 x5 x6 x7 x8 : Int) : Ext a (lay9 w b x0 x1 x2 x3 x4 x5 x6 x7 x8) :=
 ((((((((h.setCell (p := ⟨b, 0, none⟩) hb _).setCell (p := ⟨b, 1, none⟩) hb _).setCell (p := ⟨b, 2, none⟩) hb _).setCell (p := ⟨b, 3, none⟩) hb _).setCell (p := ⟨b, 4, none⟩) hb _).setCell (p := ⟨b, 5, none⟩) hb _).setCell (p := ⟨b, 6, none⟩) hb _).setCell (p := ⟨b, 7, none⟩) hb _).setCell (p := ⟨b, 8, none⟩) hb _
theorem cut_err {W : Wd} (hW : W.err = 0) : logErr W.cut = 0 := logErr_pre (worldErr_zero hW).1 _
theorem safe_n {W : Wd} (hW : W.err = 0) : ∃ n : Nat, W.safe = (n : Nat) ∧ n ≤ W.l.length ∧ W.l.length ≤ 60 := safe_nat hW
theorem ord10_any (cb bc : Nat) (nv : Value) (W : Wd) (hW : W.err = 0) (w : World) (C : Ck w cb W) (hp : w.cell? ⟨bc, 0, none⟩ = some (.pointer (some ⟨cb, 0, none⟩))) :
  Calls Tryz.prog 80 #[nv, .pointer (some ⟨bc, 0, none⟩)] w fun e w' => OrdAns cb W (ordT W 9 []) w w' e := by
 have C0 := C
 obtain ⟨a, cap, B, L, hne⟩ := C
 obtain ⟨n, hn, hnl, h60⟩ := safe_n hW
 have HT : Hid (ordT W 9 [] = ⟨0, W, listedR [(W.l.length : Int), (n : Int)]⟩) := by
  show (⟨0, W, digitsR W.l.length ++ (32 :: digitsR W.safe.toNat)⟩ : Told) = _
  rw [hn]
  simp [listedR]
 rw [hn] at B
 have HKC : Hid (∀ W', Ext w W' → W'.cell? ⟨bc, 0, none⟩ = some (.pointer (some ⟨cb, 0, none⟩)) ∧ W'.cell? ⟨cb, 12, none⟩ = some (.slice a W.l.length cap) ∧ W'.cell? ⟨cb, 13, none⟩ = some (.int .i64 (n : Nat))) := fun W' e => ⟨e.cell hp, by rw [(B.ext e).cell]; rfl, by rw [(B.ext e).cell]; rfl⟩
 have hm := L.max
 unfold maxLen at hm
 clear hn
 go_enter Tryz.func80, Tryz.ntmps80
 go_wp2_with fail
 have Ed := (Ext.refl w).drew
 refine wp_region_held_drew (S := fun W' => W'.cell? ⟨bc, 0, none⟩ = some (.pointer (some ⟨cb, 0, none⟩)) ∧ W'.cell? ⟨cb, 12, none⟩ = some (.slice a W.l.length cap) ∧ W'.cell? ⟨cb, 13, none⟩ = some (.int .i64 (n : Nat))) (by kernel_rfl) (HKC.out _ Ed) (fun hHeld => ?_)
 refine tkn 0 rfl hHeld ?_
 simp only [Act.put]
 refine tkn 1 rfl hHeld ?_
 simp only [Act.put]
 refine tkn 2 rfl hHeld ?_
 simp only [Act.put]
 refine tkn 3 rfl hHeld ?_
 simp only [Act.put]
 refine tkn 4 rfl hHeld ?_
 simp only [Act.put]
 refine tkn 6 rfl hHeld ?_
 simp only [Act.put]
 refine tkn 7 rfl hHeld ?_
 simp only [Act.put]
 refine tkn 8 rfl hHeld ?_
 simp only [Act.put]
 refine tkn 9 rfl hHeld ?_
 simp only [Act.put]
 refine tkn 10 rfl hHeld ?_
 simp only [Act.put]
 refine exn 5 rfl fun K hK => ?_
 go_simp
 refine hK.out _ _ hHeld (fun hHeld => ?_)
 clear hK K
 refine exn 11 rfl fun K hK => ?_
 go_simp
 have E2 := Ed.alloc (.cells #[.int .i64 (W.l.length : Nat), .int .i64 (n : Nat)] 3)
 have I2 : Ints w.heap.size (w.drew.alloc (.cells #[.int .i64 (W.l.length : Nat), .int .i64 (n : Nat)] 3)) (some ⟨w.heap.size, 0, none⟩) [(W.l.length : Int), (n : Int)] := ints_at (Blk.new w.drew w.heap.size (ints [(W.l.length : Int), (n : Int)]) 3 rfl)
 have HTl : Hid (∀ W', Ext (w.drew.alloc (.cells #[.int .i64 (W.l.length : Nat), .int .i64 (n : Nat)] 3)) W' → Calls Tryz.prog 20 #[.iface 61 (.slice (some ⟨w.heap.size, 0, none⟩) 2 2)] W' fun e w' => e = .returned (tx (listedR [(W.l.length : Int), (n : Int)])) ∧ Ext W' w') := fun W' e => tell_ints _ _ 2 [(W.l.length : Int), (n : Int)] W' (I2.ext e) (by simp) (by simp) (fun k hk => by simp at hk; omega)
 refine hK.out _ _ (HKC.out _ E2) (fun hHeld => ?_)
 clear hK K
 refine exn 12 rfl fun K hK => ?_
 go_simp
 refine hK.out _ _ hHeld (fun hHeld => ?_)
 clear hK K
 refine exn 13 rfl fun K hK => ?_
 go_simp
 refine hK.out _ _ hHeld (fun hHeld => ?_)
 clear hK K hHeld
 refine wpAnyH_done (by kernel_rfl) ?_ _
 go_wp2_with fail
 go_ret
 rw [HT.out]
 exact ⟨Gr.of_ext E2, Or.inl ⟨rfl, _, rfl, HTl.out, C0.ext E2⟩⟩
theorem ord9_any (cb bc : Nat) (nv : Value) (W : Wd) (hW : W.err = 0) (w : World) (C : Ck w cb W) (hp : w.cell? ⟨bc, 0, none⟩ = some (.pointer (some ⟨cb, 0, none⟩))) :
  Calls Tryz.prog 78 #[nv, .pointer (some ⟨bc, 0, none⟩)] w fun e w' => OrdAns cb W (ordT W 8 []) w w' e := by
 have C0 := C
 obtain ⟨a, cap, B, L, hne⟩ := C
 obtain ⟨n, hn, hnl, h60⟩ := safe_n hW
 obtain ⟨x0, x1, x2, x3, x4, x5, x6, x7, x8, hcs⟩ := list9e (cellsR_len W.cut)
 have HT : Hid (ordT W 8 [] = ⟨0, W, listedR [x0, x1, x2, x3, x4, x5, x6, x7, x8]⟩) := by
  show (⟨0, W, listedR (cellsR W.cut)⟩ : Told) = _
  rw [hcs]
 have hsm := must_small hW
 rw [hcs] at hsm
 have HTl : Hid (∀ W', Calls Tryz.prog 20 #[.iface 55 (.agg #[.int .i64 x0, .int .i64 x1, .int .i64 x2, .int .i64 x3, .int .i64 x4, .int .i64 x5, .int .i64 x6, .int .i64 x7, .int .i64 x8])] W' fun e w' => e = .returned (tx (listedR [x0, x1, x2, x3, x4, x5, x6, x7, x8])) ∧ Ext W' w') := fun W' => tell_cells x0 x1 x2 x3 x4 x5 x6 x7 x8 hsm W'
 have hcut : W.cut = W.l.take n := by unfold Wd.cut; rw [hn, Int.toNat_natCast]
 have hlz : logErr (W.l.take n) = 0 := by rw [← hcut]; exact cut_err hW
 have hco : cellsOr (W.l.take n) = [x0, x1, x2, x3, x4, x5, x6, x7, x8] := by rw [cellsOr_ok hlz, ← hcut, hcs]
 have HC : ∀ W', Ext w W' → Calls Tryz.prog 79 #[.slice a n cap] W' fun e w' => e = .returned (.tuple #[.agg #[.int .i64 x0, .int .i64 x1, .int .i64 x2, .int .i64 x3, .int .i64 x4, .int .i64 x5, .int .i64 x6, .int .i64 x7, .int .i64 x8], .int .i64 0]) ∧ Ext W' w' := fun W' e => by
  have := cells_any a n cap (W.l.take n) W' ((L.ext e).recs.take n hnl) (Nat.le_trans hnl L.max)
  rw [hco, hlz] at this
  exact this
 rw [hn] at B
 have HKC : Hid (∀ W', Ext w W' → W'.cell? ⟨bc, 0, none⟩ = some (.pointer (some ⟨cb, 0, none⟩)) ∧ W'.cell? ⟨cb, 12, none⟩ = some (.slice a W.l.length cap) ∧ W'.cell? ⟨cb, 13, none⟩ = some (.int .i64 (n : Nat))) := fun W' e => ⟨e.cell hp, by rw [(B.ext e).cell]; rfl, by rw [(B.ext e).cell]; rfl⟩
 have hm := L.max
 have hle := L.le
 unfold maxLen at hm
 have hnc : n ≤ cap := Nat.le_trans hnl hle
 clear hn hcut hlz hco hsm hcs
 go_enter Tryz.func78, Tryz.ntmps78
 go_wp2_with fail
 have Ed := (Ext.refl w).drew
 refine wp_region_held_drew (S := fun W' => W'.cell? ⟨bc, 0, none⟩ = some (.pointer (some ⟨cb, 0, none⟩)) ∧ W'.cell? ⟨cb, 12, none⟩ = some (.slice a W.l.length cap) ∧ W'.cell? ⟨cb, 13, none⟩ = some (.int .i64 (n : Nat))) (by kernel_rfl) (HKC.out _ Ed) (fun hHeld => ?_)
 refine tkn 0 rfl hHeld ?_
 simp only [Act.put]
 refine tkn 1 rfl hHeld ?_
 simp only [Act.put]
 refine tkn 2 rfl hHeld ?_
 simp only [Act.put]
 refine tkn 3 rfl hHeld ?_
 simp only [Act.put]
 refine tkn 4 rfl hHeld ?_
 simp only [Act.put]
 refine tkn 5 rfl hHeld ?_
 simp only [Act.put]
 refine tkn 6 rfl hHeld ?_
 simp only [Act.put]
 refine tkn 7 rfl hHeld ?_
 simp only [Act.put]
 refine tkn 8 rfl hHeld ?_
 simp only [Act.put]
 refine tkn 9 rfl hHeld ?_
 simp only [Act.put]
 refine tkn 10 rfl hHeld ?_
 simp only [Act.put]
 refine wpAnyH_ready (rs := [11, 15]) (by kernel_rfl) (by simp) ?_
 refine AllReadyH.cons rfl (fun K hK => ?_) (AllReadyH.cons rfl (fun K hK => ?_) AllReadyH.nil)
 ·go_simp
  refine (HC _ Ed).mono ?_
  rintro e w1 ⟨rfl, hw⟩
  have E2 := Ed.trans hw
  go_wp2_with fail
  refine hK.out _ _ (HKC.out _ E2) (fun hHeld => ?_)
  clear hK K
  refine tkn 12 rfl hHeld ?_
  simp only [Act.put]
  refine tkn 13 rfl hHeld ?_
  simp only [Act.put]
  refine tkn 14 rfl hHeld ?_
  simp only [Act.put]
  refine exn 15 rfl fun K hK => ?_
  go_simp
  have E3 := E2.alloc (.cells #[.int .i64 0, .int .i64 0, .int .i64 0, .int .i64 0, .int .i64 0, .int .i64 0, .int .i64 0, .int .i64 0, .int .i64 0] 55)
  refine hK.out _ _ (HKC.out _ E3) (fun hHeld => ?_)
  clear hK K
  refine exn 16 rfl fun K hK => ?_
  go_simp
  have E4 := E2.alloc (.cells #[.int .i64 x0, .int .i64 x1, .int .i64 x2, .int .i64 x3, .int .i64 x4, .int .i64 x5, .int .i64 x6, .int .i64 x7, .int .i64 x8] 55)
  have A4 := (Blk.new w1 w1.heap.size #[.int .i64 x0, .int .i64 x1, .int .i64 x2, .int .i64 x3, .int .i64 x4, .int .i64 x5, .int .i64 x6, .int .i64 x7, .int .i64 x8] 55 rfl).cell
  refine hK.out _ _ (HKC.out _ E4) (fun hHeld => ?_)
  clear hK K
  refine tkn 17 rfl hHeld ?_
  simp only [Act.put]
  clear hHeld
  refine wpAnyH_done (by kernel_rfl) ?_ _
  go_wp2_with fail
  refine (leave_ok _).mono ?_
  rintro e w2 ⟨rfl, rfl⟩
  go_wp2_with fail
  go_ret
  rw [HT.out]
  exact ⟨Gr.of_ext E4, Or.inl ⟨rfl, _, rfl, fun W' _ => HTl.out W', C0.ext E4⟩⟩
 ·go_simp
  have E2 := Ed.alloc (.cells #[.int .i64 0, .int .i64 0, .int .i64 0, .int .i64 0, .int .i64 0, .int .i64 0, .int .i64 0, .int .i64 0, .int .i64 0] 55)
  have Z2 := Blk.new w.drew w.heap.size #[.int .i64 0, .int .i64 0, .int .i64 0, .int .i64 0, .int .i64 0, .int .i64 0, .int .i64 0, .int .i64 0, .int .i64 0] 55 rfl
  refine hK.out _ _ (HKC.out _ E2) (fun hHeld => ?_)
  clear hK K
  refine exn 11 rfl fun K hK => ?_
  go_simp
  refine (HC _ E2).mono ?_
  rintro e w1 ⟨rfl, hw⟩
  have E3 := E2.trans hw
  have Z3 := Z2.ext hw
  have z := Z3.cell
  have f_ := Z3.fr
  go_wp2_with fail
  refine hK.out _ _ (HKC.out _ E3) (fun hHeld => ?_)
  clear hK K
  refine tkn 12 rfl hHeld ?_
  simp only [Act.put]
  refine tkn 13 rfl hHeld ?_
  simp only [Act.put]
  refine tkn 14 rfl hHeld ?_
  simp only [Act.put]
  refine exn 16 rfl fun K hK => ?_
  go_simp
  have E4 := lay9_ext E3 w.heap.size (Nat.le_refl _) x0 x1 x2 x3 x4 x5 x6 x7 x8
  have A4 := (lay9_blk Z3 x0 x1 x2 x3 x4 x5 x6 x7 x8).cell
  refine hK.out _ _ (HKC.out _ E4) (fun hHeld => ?_)
  clear hK K
  refine tkn 17 rfl hHeld ?_
  simp only [Act.put]
  clear hHeld
  refine wpAnyH_done (by kernel_rfl) ?_ _
  go_wp2_with fail
  refine (leave_ok _).mono ?_
  rintro e w2 ⟨rfl, rfl⟩
  go_wp2_with fail
  go_ret
  rw [HT.out]
  exact ⟨Gr.of_ext E4, Or.inl ⟨rfl, _, rfl, fun W' _ => HTl.out W', C0.ext E4⟩⟩
abbrev keyS (k : List UInt8) : Value := tx k
theorem same_str (a b : List UInt8) : Instr.sameNow .string (tx a) (tx b) = some (a == b) := by
 have h : ((⟨a.toArray⟩ : ByteArray) == ⟨b.toArray⟩) = (a == b) := by
  show (a.toArray == b.toArray) = _
  simp
 simp [Instr.sameNow, h]
theorem findNow_str (k : List UInt8) : ∀ (es : List MapEntry) (al : List (List UInt8 × Value)) (i : Nat), es.map (fun e => (e.key, e.val)) = al.map (fun p => (keyS p.1, p.2)) →
  Instr.findNow .string (keyS k) es i = some (findI (fun q => k == q) al i) := by
 intro es
 induction es with
 | nil => intro al i h; cases al with
  | nil => rfl
  | cons p al => simp at h
 | cons e es ih =>
  intro al i h
  cases al with
  | nil => simp at h
  | cons p al =>
   simp only [List.map_cons, List.cons.injEq, Prod.mk.injEq] at h
   obtain ⟨⟨hk, hv⟩, ht⟩ := h
   simp only [Instr.findNow, hk, same_str, findI]
   rcases bool_or (k == p.1) with hb | hb
   ·simp only [hb, if_true, hv]
   ·simp only [hb, Bool.false_eq_true, if_false]; exact ih al (i + 1) ht
theorem findKey_str (k : List UInt8) (w : World) (es : Array MapEntry) (al : List (List UInt8 × Value)) (h : Ents keyS es al) :
  (Instr.findKey 9 (keyS k) es.toList).run Tryz.prog w = .ok (findI (fun q => k == q) al 0) w := by
 simp [Instr.findKey, run_underlying Tryz.underlying9, findNow_str k es.toList al 0 h, go_sem]
theorem checkKey_str (b : Bool) (n : Nat) (k : List UInt8) (w : World) : (Instr.checkKey b (n + 1) 9 (keyS k)).run Tryz.prog w = .ok () w := by
 simp [Instr.checkKey, run_underlying Tryz.underlying9, go_sem]
theorem run_lookS {w : World} {r : Nat} {al : List (List UInt8 × Value)} (h : MapAt keyS w r al) (k : List UInt8) :
  (Instr.lookup 74 (.map (some r)) (keyS k) true).run Tryz.prog w = .ok (match findI (fun q => k == q) al 0 with | some (_, v) => .tuple #[v, .bool true] | none => .tuple #[.agg #[.int .i64 0, .nilFunc], .bool false]) w := by
 obtain ⟨es, c, h, he⟩ := h
 have hck : (Instr.checkKey es.isEmpty 10000 9 (keyS k)).run Tryz.prog w = .ok () w := checkKey_str es.isEmpty 9999 k w
 have hfk := findKey_str k w es al he
 have hz : ∀ w, (zeroValue 72).run Tryz.prog w = .ok (.agg #[.int .i64 0, .nilFunc]) w := by intro w; simp [go_sem]
 have ho : (getObj r).run Tryz.prog w = .ok (.map es c) w := by simp [getObj, Sem.run, h]
 simp only [Instr.lookup, Sem.run_bind, run_underlying Tryz.underlying74, Result.andThen_ok, ho, Sem.run_pure, hck, hfk]
 cases hf : findI (fun q => k == q) al 0 with
 | none => simp only [Sem.run_bind, hz, Result.andThen_ok, Sem.run_pure, if_true]
 | some p => simp only [Sem.run_bind, Result.andThen_ok, Sem.run_pure, if_true]
theorem run_putS {w : World} {r : Nat} {al : List (List UInt8 × Value)} (h : MapAt keyS w r al) (k : List UInt8) (v : Value) (hn : findI (fun q => k == q) al 0 = none) :
  ∃ w', (Instr.mapUpdate 74 (.map (some r)) (keyS k) v).run Tryz.prog w = .ok () w' ∧ MapAt keyS w' r (al ++ [(k, v)]) ∧ Only r w w' := by
 obtain ⟨es, c, h, he⟩ := h
 have hck : (Instr.checkKey false 10000 9 (keyS k)).run Tryz.prog w = .ok () w := checkKey_str false 9999 k w
 have hfk := findKey_str k w es al he
 have ho := run_getMap h
 simp only [Instr.mapUpdate, Sem.run_bind, run_underlying Tryz.underlying74, Result.andThen_ok, ho, hck, hfk, hn]
 exact ⟨_, run_setMap h, ⟨_, _, heap_set h, ents_push he k v c⟩, only_set w r _⟩
abbrev ordV (n : Int) (f : FuncId) (bc : Nat) : Value := .agg #[.int .i64 n, .func (.func f) #[] #[.pointer (some ⟨bc, 0, none⟩)]]
def ordersL (bc : Nat) : List (List UInt8 × Value) := [(sWrite, ordV 4 62 bc), (sCommit, ordV 1 65 bc), (sAbort, ordV 1 67 bc), (sSync, ordV 1 69 bc), (sFlush, ordV 1 71 bc), (sCrash, ordV 0 73 bc), (sNow, ordV 0 75 bc), (sDisk, ordV 0 77 bc), (sMust, ordV 0 78 bc), (sLog, ordV 0 80 bc), (sState, ordV 1 81 bc)]
theorem map_new' (w : World) : (w.alloc (.map #[] 0)).heap[w.heap.size]? = some (.map #[] 0) := by unfold World.alloc; simp
theorem orders_any (cb : Nat) (w : World) :
  Calls Tryz.prog 39 #[.pointer (some ⟨cb, 0, none⟩)] w fun e w' => ∃ bc r, e = .returned (.map (some r)) ∧ Ext w w' ∧ MapAt keyS w' r (ordersL bc) ∧ w'.cell? ⟨bc, 0, none⟩ = some (.pointer (some ⟨cb, 0, none⟩)) ∧ w.heap.size ≤ bc := by
 have mm : ∀ (t : TypeId) (w : World), (Instr.makeMap t none).run Tryz.prog w = .ok (.map (some w.heap.size)) (w.alloc (.map #[] 0)) := fun t w => rfl
 have B0 := Blk.new w w.heap.size #[.pointer (some ⟨cb, 0, none⟩)] 31 rfl
 have x0 := (Ext.refl w).alloc (.cells #[.pointer (some ⟨cb, 0, none⟩)] 31)
 have hsz : (w.alloc (.cells #[.pointer (some ⟨cb, 0, none⟩)] 31)).heap.size = w.heap.size + 1 := by simp
 have m0 : MapAt keyS ((w.alloc (.cells #[.pointer (some ⟨cb, 0, none⟩)] 31)).alloc (.map #[] 0)) (w.heap.size + 1) [] := ⟨#[], 0, by rw [← hsz]; exact map_new' _, rfl⟩
 have e0 := (Ext.refl (w.alloc (.cells #[.pointer (some ⟨cb, 0, none⟩)] 31))).alloc (.map #[] 0)
 obtain ⟨w1, r1, m1, o1⟩ := run_putS m0 [119, 114, 105, 116, 101] (ordV 4 62 w.heap.size) (by rfl)
 have e1 := o1.ext e0 (by rw [hsz]; exact Nat.le_refl _)
 obtain ⟨w2, r2, m2, o2⟩ := run_putS m1 [99, 111, 109, 109, 105, 116] (ordV 1 65 w.heap.size) (by rfl)
 have e2 := o2.ext e1 (by rw [hsz]; exact Nat.le_refl _)
 obtain ⟨w3, r3, m3, o3⟩ := run_putS m2 [97, 98, 111, 114, 116] (ordV 1 67 w.heap.size) (by rfl)
 have e3 := o3.ext e2 (by rw [hsz]; exact Nat.le_refl _)
 obtain ⟨w4, r4, m4, o4⟩ := run_putS m3 [115, 121, 110, 99] (ordV 1 69 w.heap.size) (by rfl)
 have e4 := o4.ext e3 (by rw [hsz]; exact Nat.le_refl _)
 obtain ⟨w5, r5, m5, o5⟩ := run_putS m4 [102, 108, 117, 115, 104] (ordV 1 71 w.heap.size) (by rfl)
 have e5 := o5.ext e4 (by rw [hsz]; exact Nat.le_refl _)
 obtain ⟨w6, r6, m6, o6⟩ := run_putS m5 [99, 114, 97, 115, 104] (ordV 0 73 w.heap.size) (by rfl)
 have e6 := o6.ext e5 (by rw [hsz]; exact Nat.le_refl _)
 obtain ⟨w7, r7, m7, o7⟩ := run_putS m6 [110, 111, 119] (ordV 0 75 w.heap.size) (by rfl)
 have e7 := o7.ext e6 (by rw [hsz]; exact Nat.le_refl _)
 obtain ⟨w8, r8, m8, o8⟩ := run_putS m7 [100, 105, 115, 107] (ordV 0 77 w.heap.size) (by rfl)
 have e8 := o8.ext e7 (by rw [hsz]; exact Nat.le_refl _)
 obtain ⟨w9, r9, m9, o9⟩ := run_putS m8 [109, 117, 115, 116] (ordV 0 78 w.heap.size) (by rfl)
 have e9 := o9.ext e8 (by rw [hsz]; exact Nat.le_refl _)
 obtain ⟨w10, r10, m10, o10⟩ := run_putS m9 [108, 111, 103] (ordV 0 80 w.heap.size) (by rfl)
 have e10 := o10.ext e9 (by rw [hsz]; exact Nat.le_refl _)
 obtain ⟨w11, r11, m11, o11⟩ := run_putS m10 [115, 116, 97, 116, 101] (ordV 1 81 w.heap.size) (by rfl)
 have e11 := o11.ext e10 (by rw [hsz]; exact Nat.le_refl _)
 have HM := (show Hid (MapAt keyS w11 (w.heap.size + 1) (ordersL w.heap.size)) from m11)
 have HC := (show Hid (w11.cell? ⟨w.heap.size, 0, none⟩ = some (.pointer (some ⟨cb, 0, none⟩))) from by rw [Hid, (B0.ext e11).cell]; rfl)
 have HE := (show Hid (Ext w w11) from x0.trans e11)
 clear m0 m1 m2 m3 m4 m5 m6 m7 m8 m9 m10 m11 o1 o2 o3 o4 o5 o6 o7 o8 o9 o10 o11 e0 e1 e2 e3 e4 e5 e6 e7 e8 e9 e10 e11 x0 B0 hsz
 go_enter Tryz.func39, Tryz.ntmps39
 go_wp2_with fail
 go_ret
 exact ⟨w.heap.size, w.heap.size + 1, rfl, HE.out, HM.out, HC.out, Nat.le_refl _⟩
end Go.Proofs.YtibfgbmhmdggmaaGreatDoor.B
