/- The reference's played: lines with numbers. -/
import Derived.Test.YtibfgbmhmdggmaaGreatDoorPl6
namespace Go.Proofs.YtibfgbmhmdggmaaGreatDoor.B
set_option maxHeartbeats 32000000
set_option maxRecDepth 100000
open Go.ChangeShapes Go.WideShapes Go.ChangeAt Go.RowKit
theorem played_flush (p q r : Pg) (a : Option Addr) (len cap : Nat) (safe : Int) (w : World) (s : List UInt8) (ws : List (List UInt8)) (hs : s.length ≤ 4096) (hw : wordsR s = sFlush :: ws) (hwl : ∀ v ∈ ws, v.length ≤ 4096) (hwn : ws.length ≤ 4096) (c0 : s ≠ sCrash) (c1 : s ≠ sNow) (c2 : s ≠ sDisk) (c3 : s ≠ sMust) (c4 : s ≠ sLog) (n0 : Int) (hn : ws.map numR = [n0]) (hb : numsB ws = true) (P Q R : Pg) (m : List Rc) (sf xx : Int) (HA : ∀ W, Ext w W → Calls Tryz.prog 33 #[wdVal p q r (.slice a len cap) safe, .int .i64 n0] W fun e w' => Ext W w' ∧ ∃ a' cap', e = .returned (.tuple #[wdVal P Q R (.slice a' m.length cap') sf, .int .i64 xx]) ∧ LogIn w' a' m.length cap' m ∧ ∀ ad, a' = some ad → W.heap.size ≤ ad.block) :
  Calls Tryz.prog 12 #[wdVal p q r (.slice a len cap) safe, tx s] w fun e w' => Ext w w' ∧ ∃ a' cap', e = .returned (.tuple #[wdVal P Q R (.slice a' m.length cap') sf, tx sOk, .int .i64 xx]) ∧ LogIn w' a' m.length cap' m ∧ ∀ ad, a' = some ad → w.heap.size ≤ ad.block := by
 obtain ⟨W0, hW0⟩ : ∃ W0, (w.alloc (.cells (wdCells p q r (.slice a len cap) safe) 38)).alloc (.cells (wdCells noPg noPg noPg (.slice none 0 0) 0) 38) = W0 := ⟨_, rfl⟩
 have E0 : Ext w W0 := by rw [← hW0]; exact ((Ext.refl w).alloc _).alloc _
 have B0 : Blk W0 w.heap.size (wdCells p q r (.slice a len cap) safe) 38 := by rw [← hW0]; exact (Blk.new w _ _ _ rfl).alloc _
 have N0 : Blk W0 (w.heap.size + 1) (wdCells noPg noPg noPg (.slice none 0 0) 0) 38 := by rw [← hW0]; exact Blk.new _ _ _ _ (by simp)
 have KC : Hid (∀ W', Gr (some (w.heap.size + 1)) W0 W' → ∀ o, W'.cell? ⟨w.heap.size, o, none⟩ = (wdCells p q r (.slice a len cap) safe)[o]?) := fun W' g => (B0.gr g (by simp)).cell
 have b0 := B0.cell
 have d0 : (s == [99, 114, 97, 115, 104]) = false := beq_eq_false_iff_ne.2 c0
 have d1 : (s == [110, 111, 119]) = false := beq_eq_false_iff_ne.2 c1
 have d2 : (s == [100, 105, 115, 107]) = false := beq_eq_false_iff_ne.2 c2
 have d3 : (s == [109, 117, 115, 116]) = false := beq_eq_false_iff_ne.2 c3
 have d4 : (s == [108, 111, 103]) = false := beq_eq_false_iff_ne.2 c4
 clear c0 c1 c2 c3 c4
 have HS := split_any s hs W0
 rw [hw] at HS
 obtain ⟨i0, hi, hz0, hz1, hz2⟩ := info_parts infoInt
 have HI := (show Hid _ from hi)
 have Z0 := (show Hid _ from hz0)
 have Z1 := (show Hid _ from hz1)
 have Z2 := (show Hid _ from hz2)
 clear hi hz0 hz1 hz2 hw
 have HS' := fun (_ : True) => HS
 clear HS
 have HLn : Hid (ws.length = 1) := by show _ = _; rw [← List.length_map (f := numR), hn]; rfl
 have HNs := (show Hid (ws.map numR = [n0]) from hn)
 have HB := (show Hid (numsB ws = true) from hb)
 have HAs := fun (_ : True) => HA
 clear hn hb HA
 go_enter Tryz.func12, Tryz.ntmps12
 go_wp2_with fail
 refine (HS' trivial).mono ?_
 rintro e w1 ⟨hw1, v, rfl, hv⟩
 obtain ⟨g0, gc, rfl, T1⟩ := own_txts hv (by simp)
 clear hW0 b0 hv HS'
 simp only [List.length_cons]
 have hE0 := E0.trans hw1
 have hsz1 := hw1.size
 have hsz0 := N0.lt
 go_wp2_with fail
 go_loopw [13, 14] (fun v i wr => ∃ k : Nat, k ≤ ws.length ∧ i = .int .i64 ((k : Int) + 1) ∧ Ext w1 wr ∧ wr.ownsRow w1.heap.size 3 1 v k (ivs ((ws.take k).map numR)) ∧ Hid (numsB (ws.take k) = true)) (fun _ i _ => ws.length + 1 - (intOf i).toNat)
 case atStart => exact ⟨0, Nat.zero_le _, rfl, Ext.refl w1, World.ownsRow_nil _ _ _ _, rfl⟩
 case round =>
  obtain ⟨k2, hk2, rfl, hE, hown, HN⟩ := hrel
  obtain ⟨sa, sm, sc, rfl⟩ := own_slice hown
  obtain rfl := own_len hown
  by_cases hlt : sm < ws.length
  ·have hc : wr.cell? ⟨g0, sm + 1, none⟩ = some (tx ws[sm]) := hE.cell (T1 (sm + 1) (by simp; omega))
   have hlti : (sm : Int) < (ws.length : Int) := by omega
   have HT1 := (show Hid ((ws.take (sm + 1)).map numR = (ws.take sm).map numR ++ [numR ws[sm]]) from numL_take hlt)
   have HO := (show Hid (wr.ownsRow w1.heap.size 3 1 (.slice sa sm sc) sm (ivs ((ws.take sm).map numR))) from hown)
   have hws := hE.size
   have HNm := fun W' => num_any ws[sm] (Nat.le_trans (hwl _ (List.getElem_mem hlt)) (by decide)) W'
   clear hown
   by_cases hnum : 0 ≤ numR ws[sm]
   ·have hnn : ¬ numR ws[sm] < 0 := by omega
    have HN2 : Hid (numsB (ws.take (sm + 1)) = true) := numsB_take hlt HN.out hnum
    generalize ws[sm] = wd at *
    generalize numR wd = nv at *
    go_wp2_with fail
    refine (HNm _).mono ?_
    rintro e w3 ⟨rfl, hw3⟩
    have hE3 := hE.trans hw3
    have HO3 := (show Hid (w3.ownsRow w1.heap.size 3 1 (.slice sa sm sc) sm (ivs ((ws.take sm).map numR))) from own_ext HO.out hw3)
    have hws3 := hw3.size
    go_wp2_with (at_builtin; refine wpList_append_lies _ rfl _ _ 61 rfl w1.heap.size 3 i0 (.int .i64 0) 1 8 Tryz.underlying61 HI.out Z0.out Z1.out Z2.out rfl (by decide) (.slice sa sm sc) sm (ivs ((ws.take sm).map numR)) rfl (own_ext HO3.out ((Ext.refl w3).alloc _)) ⟨w3.heap.size, 0, none⟩ 1 1 [.int .i64 nv] rfl rfl (cells_new _ [.int .i64 nv] _ _ rfl) (fun x hx => by simp at hx; subst hx; rfl) (by decide) (by unfold maxLen; omega) (by omega) (by simp; omega) _ rfl ?_; intro g cap' w4 hown' hgrow hg hgl; have hcn : w4.cell? ⟨g, sm, none⟩ = some (.int .i64 nv) := own_last hown' (by have := ivs_len ((ws.take sm).map numR) (.int .i64 nv); rwa [List.length_map, List.length_take, Nat.min_eq_left (by omega)] at this))
    have hE4 : Ext w1 w4 := (hE3.alloc _).grown (own_ext HO3.out ((Ext.refl w3).alloc _)) hgrow
    go_wp2_with fail
    refine ⟨⟨sm + 1, by omega, by go_num, hE4, ?_, HN2⟩, by simp [intOf]; omega⟩
    rw [HT1.out, ivs_snoc]
    exact hown'
   ·exact absurd HB.out (by rw [numsB_no hlt hnum]; simp)
  ·obtain rfl : sm = ws.length := by omega
   rw [List.take_length] at hown HN
   have hE2 := hw1.trans hE
   rw [HNs.out, HLn.out] at hown
   have T2 : wr.cell? ⟨g0, 0, none⟩ = some (tx sFlush) := hE.cell (T1 0 (by simp))
   unfold sFlush at T2
   obtain ⟨g, gcap, hveq, hg, hcs⟩ := own_ints hown (by decide)
   injection hveq with e1 e2 e3
   subst e1 e3
   clear e2 hown T1 HN hk2 hlt
   have hc0 : wr.cell? ⟨g, 0, none⟩ = some (.int .i64 n0) := hcs 0 (by simp)
   clear hcs
   have b2 := (B0.ext hE2).cell
   have hgl := hE2.size
   have hlen := HLn.out
   simp only [hlen]
   clear hlen HNs HB HI Z0 Z1 Z2
   go_wp2_with fail
   have KC2 : Hid (∀ W', Ext wr W' → (∀ o, W'.cell? ⟨w.heap.size, o, none⟩ = (wdCells p q r (.slice a len cap) safe)[o]?) ∧ W'.cell? ⟨g, 0, none⟩ = some (.int .i64 n0)) := fun W' e => ⟨(B0.ext (hE2.trans e)).cell, e.cell hc0⟩
   have Ed := (Ext.refl wr).drew
   clear b2 T2 KC d0 d1 d2 d3 d4
   refine wp_region_held_drew (S := fun W' => (∀ o, W'.cell? ⟨w.heap.size, o, none⟩ = (wdCells p q r (.slice a len cap) safe)[o]?) ∧ W'.cell? ⟨g, 0, none⟩ = some (.int .i64 n0)) (by kernel_rfl) (KC2.out _ Ed) (fun hHeld => ?_)
   refine tkn 0 rfl hHeld ?_
   simp only [Act.put]
   refine tkn 1 rfl hHeld ?_
   simp only [Act.put]
   refine tkn 2 rfl hHeld ?_
   simp only [Act.put]
   refine tkn 3 rfl hHeld ?_
   simp only [Act.put]
   refine wpAnyH_ready (rs := [4, 8]) (by kernel_rfl) (by simp) ?_
   refine AllReadyH.cons rfl (fun K hK => ?_) (AllReadyH.cons rfl (fun K hK => ?_) AllReadyH.nil)
   ·go_simp
    refine (HAs trivial _ (E0.trans (hE2.trans Ed))).mono ?_
    rintro e w5 ⟨hw5, a', cap', rfl, L5, hf⟩
    have E5 := Ed.trans hw5
    have hz5 := E5.size
    have HF5 : Hid (∀ ad, a' = some ad → wr.heap.size ≤ ad.block) := fun ad e => by have := hf ad e; simp at this; omega
    have LV := (L5.ext ((Ext.refl w5).alloc (.cells (wdCells P Q R (.slice a' m.length cap') sf) 38)))
    have EV := E5.alloc (.cells (wdCells P Q R (.slice a' m.length cap') sf) 38)
    have XB := Blk.new w5 w5.heap.size (wdCells P Q R (.slice a' m.length cap') sf) 38 rfl
    clear hf L5
    go_wp2_with fail
    refine hK.out _ _ (KC2.out _ E5) (fun hHeld => ?_)
    clear hK K
    refine tkn 5 rfl hHeld ?_
    simp only [Act.put]
    refine tkn 6 rfl hHeld ?_
    simp only [Act.put]
    refine tkn 7 rfl hHeld ?_
    simp only [Act.put]
    refine exn 8 rfl fun K hK => ?_
    go_simp
    refine hK.out _ _ (KC2.out _ (E5.alloc _)) (fun hHeld => ?_)
    clear hK K
    refine exn 9 rfl fun K hK => ?_
    go_simp
    refine hK.out _ _ (KC2.out _ EV) (fun hHeld => ?_)
    clear hK K
    refine exn 10 rfl fun K hK => ?_
    go_simp
    refine hK.out _ _ (KC2.out _ EV) (fun hHeld => ?_)
    clear hK K
    clear hHeld
    refine wpAnyH_done (by kernel_rfl) ?_ _
    have x_ := XB.cell
    have NV := N0.ext (hE2.trans EV)
    have n_ := NV.cell
    have f_ := NV.fr
    have E9 := putWd_ext (E0.trans (hE2.trans EV)) (w.heap.size + 1) (by omega) P Q R (.slice a' m.length cap') sf
    have n9 := (putWd_blk NV P Q R (.slice a' m.length cap') sf).cell
    have HL9 := (show Hid _ from LV.gr (putWd_gr (w5.alloc (.cells (wdCells P Q R (.slice a' m.length cap') sf) 38)) (w.heap.size + 1) P Q R (.slice a' m.length cap') sf) (fun ad e e2 => by injection e2 with e2; have := HF5.out ad e; omega))
    clear LV
    go_wp2_with fail
    exact bodyPost_ret (v := .tuple #[.agg (wdCells P Q R (.slice a' m.length cap') sf), tx sOk, .int .i64 xx]) (by simp [results, Tryz.results12, go_sem, n9, sOk]) rfl ⟨E9, a', cap', rfl, HL9.out, fun ad e => by have := HF5.out ad e; omega⟩
   ·go_simp
    have EA := Ed.alloc (.cells (wdCells noPg noPg noPg (.slice none 0 0) 0) 38)
    have ZA := Blk.new wr.drew wr.heap.size (wdCells noPg noPg noPg (.slice none 0 0) 0) 38 rfl
    refine hK.out _ _ (KC2.out _ EA) (fun hHeld => ?_)
    clear hK K
    refine exn 4 rfl fun K hK => ?_
    go_simp
    refine (HAs trivial _ (E0.trans (hE2.trans EA))).mono ?_
    rintro e w5 ⟨hw5, a', cap', rfl, L5, hf⟩
    have E5 := EA.trans hw5
    have hz5 := E5.size
    have HF5 : Hid (∀ ad, a' = some ad → wr.heap.size < ad.block) := fun ad e => by have := hf ad e; simp at this; omega
    have Z5 := ZA.ext hw5
    have LV := L5.gr (putWd_gr w5 wr.heap.size P Q R (.slice a' m.length cap') sf) (fun ad e e2 => by injection e2 with e2; have := HF5.out ad e; omega)
    have EV := putWd_ext E5 wr.heap.size (Nat.le_refl _) P Q R (.slice a' m.length cap') sf
    have XB := putWd_blk Z5 P Q R (.slice a' m.length cap') sf
    clear hf L5
    go_wp2_with fail
    refine hK.out _ _ (KC2.out _ E5) (fun hHeld => ?_)
    clear hK K
    refine tkn 5 rfl hHeld ?_
    simp only [Act.put]
    refine tkn 6 rfl hHeld ?_
    simp only [Act.put]
    refine tkn 7 rfl hHeld ?_
    simp only [Act.put]
    have z_ := Z5.cell
    have y_ := Z5.fr
    refine exn 9 rfl fun K hK => ?_
    go_simp
    refine hK.out _ _ (KC2.out _ EV) (fun hHeld => ?_)
    clear hK K z_ y_
    refine exn 10 rfl fun K hK => ?_
    go_simp
    refine hK.out _ _ (KC2.out _ EV) (fun hHeld => ?_)
    clear hK K
    clear hHeld
    refine wpAnyH_done (by kernel_rfl) ?_ _
    have x_ := XB.cell
    have NV := N0.ext (hE2.trans EV)
    have n_ := NV.cell
    have f_ := NV.fr
    have E9 := putWd_ext (E0.trans (hE2.trans EV)) (w.heap.size + 1) (by omega) P Q R (.slice a' m.length cap') sf
    have n9 := (putWd_blk NV P Q R (.slice a' m.length cap') sf).cell
    have HL9 := (show Hid _ from LV.gr (putWd_gr (putWd w5 wr.heap.size P Q R (.slice a' m.length cap') sf) (w.heap.size + 1) P Q R (.slice a' m.length cap') sf) (fun ad e e2 => by injection e2 with e2; have := HF5.out ad e; omega))
    clear LV
    go_wp2_with fail
    exact bodyPost_ret (v := .tuple #[.agg (wdCells P Q R (.slice a' m.length cap') sf), tx sOk, .int .i64 xx]) (by simp [results, Tryz.results12, go_sem, n9, sOk]) rfl ⟨E9, a', cap', rfl, HL9.out, fun ad e => by have := HF5.out ad e; omega⟩
end Go.Proofs.YtibfgbmhmdggmaaGreatDoor.B
