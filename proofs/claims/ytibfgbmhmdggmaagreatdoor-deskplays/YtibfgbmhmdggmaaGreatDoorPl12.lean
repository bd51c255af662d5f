/- The reference's played: lines with numbers. -/
import Derived.Test.YtibfgbmhmdggmaaGreatDoorPl6
namespace Go.Proofs.YtibfgbmhmdggmaaGreatDoor.B
set_option maxHeartbeats 32000000
set_option maxRecDepth 100000
open Go.ChangeShapes Go.WideShapes Go.ChangeAt Go.RowKit
theorem played_state (p q r : Pg) (a : Option Addr) (len cap : Nat) (safe : Int) (w : World) (s : List UInt8) (ws : List (List UInt8)) (hs : s.length ≤ 4096) (hw : wordsR s = sState :: ws) (hwl : ∀ v ∈ ws, v.length ≤ 4096) (hwn : ws.length ≤ 4096) (c0 : s ≠ sCrash) (c1 : s ≠ sNow) (c2 : s ≠ sDisk) (c3 : s ≠ sMust) (c4 : s ≠ sLog) (n0 : Int) (hn : ws.map numR = [n0]) (hb : numsB ws = true) (k : Nat) (hk : k < 1000) (lt x : Int) (HA : ∀ W, Ext w W → Calls Tryz.prog 34 #[.slice a len cap, .int .i64 n0] W fun e w' => e = .returned (.tuple #[.int .i64 (k : Nat), .int .i64 lt, .int .i64 x]) ∧ Ext W w') :
  Calls Tryz.prog 12 #[wdVal p q r (.slice a len cap) safe, tx s] w fun e w' => e = .returned (.tuple #[wdVal p q r (.slice a len cap) safe, tx (digitsR k), .int .i64 x]) ∧ Ext w w' := by
 obtain ⟨W0, hW0⟩ : ∃ W0, (w.alloc (.cells (wdCells p q r (.slice a len cap) safe) 38)).alloc (.cells (wdCells noPg noPg noPg (.slice none 0 0) 0) 38) = W0 := ⟨_, rfl⟩
 have E0 : Ext w W0 := by rw [← hW0]; exact ((Ext.refl w).alloc _).alloc _
 have B0 : Blk W0 w.heap.size (wdCells p q r (.slice a len cap) safe) 38 := by rw [← hW0]; exact (Blk.new w _ _ _ rfl).alloc _
 have N0 : Blk W0 (w.heap.size + 1) (wdCells noPg noPg noPg (.slice none 0 0) 0) 38 := by rw [← hW0]; exact Blk.new _ _ _ _ (by simp)
 have KC : Hid (∀ W', Gr (some (w.heap.size + 1)) W0 W' → ∀ o, W'.cell? ⟨w.heap.size, o, none⟩ = (wdCells p q r (.slice a len cap) safe)[o]?) := fun W' g => (B0.gr g (by simp)).cell
 have b0 := B0.cell
 have d0 : (s == [99, 114, 97, 115, 104]) = false := beq_eq_false_iff_ne.2 c0
 have d1 : (s == [110, 111, 119]) = false := beq_eq_false_iff_ne.2 c1
 have d2 : (s == [100, 105, 115, 107]) = false := beq_eq_false_iff_ne.2 c2
 have d3 : (s == [109, 117, 115, 116]) = false := beq_eq_false_iff_ne.2 c3
 have d4 : (s == [108, 111, 103]) = false := beq_eq_false_iff_ne.2 c4
 clear c0 c1 c2 c3 c4
 have HS := split_any s hs W0
 rw [hw] at HS
 obtain ⟨i0, hi, hz0, hz1, hz2⟩ := info_parts infoInt
 have HI := (show Hid _ from hi)
 have Z0 := (show Hid _ from hz0)
 have Z1 := (show Hid _ from hz1)
 have Z2 := (show Hid _ from hz2)
 clear hi hz0 hz1 hz2 hw
 have HS' := fun (_ : True) => HS
 clear HS
 have HLn : Hid (ws.length = 1) := by show _ = _; rw [← List.length_map (f := numR), hn]; rfl
 have HNs := (show Hid (ws.map numR = [n0]) from hn)
 have HB := (show Hid (numsB ws = true) from hb)
 have HAs := fun (_ : True) => HA
 clear hn hb HA
 go_enter Tryz.func12, Tryz.ntmps12
 go_wp2_with fail
 refine (HS' trivial).mono ?_
 rintro e w1 ⟨hw1, v, rfl, hv⟩
 obtain ⟨g0, gc, rfl, T1⟩ := own_txts hv (by simp)
 clear hW0 b0 hv HS'
 simp only [List.length_cons]
 have hE0 := E0.trans hw1
 have hsz1 := hw1.size
 have hsz0 := N0.lt
 go_wp2_with fail
 go_loopw [13, 14] (fun v i wr => ∃ k : Nat, k ≤ ws.length ∧ i = .int .i64 ((k : Int) + 1) ∧ Ext w1 wr ∧ wr.ownsRow w1.heap.size 3 1 v k (ivs ((ws.take k).map numR)) ∧ Hid (numsB (ws.take k) = true)) (fun _ i _ => ws.length + 1 - (intOf i).toNat)
 case atStart => exact ⟨0, Nat.zero_le _, rfl, Ext.refl w1, World.ownsRow_nil _ _ _ _, rfl⟩
 case round =>
  obtain ⟨k2, hk2, rfl, hE, hown, HN⟩ := hrel
  obtain ⟨sa, sm, sc, rfl⟩ := own_slice hown
  obtain rfl := own_len hown
  by_cases hlt : sm < ws.length
  ·have hc : wr.cell? ⟨g0, sm + 1, none⟩ = some (tx ws[sm]) := hE.cell (T1 (sm + 1) (by simp; omega))
   have hlti : (sm : Int) < (ws.length : Int) := by omega
   have HT1 := (show Hid ((ws.take (sm + 1)).map numR = (ws.take sm).map numR ++ [numR ws[sm]]) from numL_take hlt)
   have HO := (show Hid (wr.ownsRow w1.heap.size 3 1 (.slice sa sm sc) sm (ivs ((ws.take sm).map numR))) from hown)
   have hws := hE.size
   have HNm := fun W' => num_any ws[sm] (Nat.le_trans (hwl _ (List.getElem_mem hlt)) (by decide)) W'
   clear hown
   by_cases hnum : 0 ≤ numR ws[sm]
   ·have hnn : ¬ numR ws[sm] < 0 := by omega
    have HN2 : Hid (numsB (ws.take (sm + 1)) = true) := numsB_take hlt HN.out hnum
    generalize ws[sm] = wd at *
    generalize numR wd = nv at *
    go_wp2_with fail
    refine (HNm _).mono ?_
    rintro e w3 ⟨rfl, hw3⟩
    have hE3 := hE.trans hw3
    have HO3 := (show Hid (w3.ownsRow w1.heap.size 3 1 (.slice sa sm sc) sm (ivs ((ws.take sm).map numR))) from own_ext HO.out hw3)
    have hws3 := hw3.size
    go_wp2_with (at_builtin; refine wpList_append_lies _ rfl _ _ 61 rfl w1.heap.size 3 i0 (.int .i64 0) 1 8 Tryz.underlying61 HI.out Z0.out Z1.out Z2.out rfl (by decide) (.slice sa sm sc) sm (ivs ((ws.take sm).map numR)) rfl (own_ext HO3.out ((Ext.refl w3).alloc _)) ⟨w3.heap.size, 0, none⟩ 1 1 [.int .i64 nv] rfl rfl (cells_new _ [.int .i64 nv] _ _ rfl) (fun x hx => by simp at hx; subst hx; rfl) (by decide) (by unfold maxLen; omega) (by omega) (by simp; omega) _ rfl ?_; intro g cap' w4 hown' hgrow hg hgl; have hcn : w4.cell? ⟨g, sm, none⟩ = some (.int .i64 nv) := own_last hown' (by have := ivs_len ((ws.take sm).map numR) (.int .i64 nv); rwa [List.length_map, List.length_take, Nat.min_eq_left (by omega)] at this))
    have hE4 : Ext w1 w4 := (hE3.alloc _).grown (own_ext HO3.out ((Ext.refl w3).alloc _)) hgrow
    go_wp2_with fail
    refine ⟨⟨sm + 1, by omega, by go_num, hE4, ?_, HN2⟩, by simp [intOf]; omega⟩
    rw [HT1.out, ivs_snoc]
    exact hown'
   ·exact absurd HB.out (by rw [numsB_no hlt hnum]; simp)
  ·obtain rfl : sm = ws.length := by omega
   rw [List.take_length] at hown HN
   have hE2 := hw1.trans hE
   rw [HNs.out, HLn.out] at hown
   have T2 : wr.cell? ⟨g0, 0, none⟩ = some (tx sState) := hE.cell (T1 0 (by simp))
   unfold sState at T2
   obtain ⟨g, gcap, hveq, hg, hcs⟩ := own_ints hown (by decide)
   injection hveq with e1 e2 e3
   subst e1 e3
   clear e2 hown T1 HN hk2 hlt
   have hc0 : wr.cell? ⟨g, 0, none⟩ = some (.int .i64 n0) := hcs 0 (by simp)
   clear hcs
   have b2 := (B0.ext hE2).cell
   have hgl := hE2.size
   have hlen := HLn.out
   simp only [hlen]
   clear hlen HNs HB HI Z0 Z1 Z2
   go_wp2_with fail
   have KC2 : Hid (∀ W', Ext wr W' → (∀ o, W'.cell? ⟨w.heap.size, o, none⟩ = (wdCells p q r (.slice a len cap) safe)[o]?) ∧ W'.cell? ⟨g, 0, none⟩ = some (.int .i64 n0)) := fun W' e => ⟨(B0.ext (hE2.trans e)).cell, e.cell hc0⟩
   have Ed := (Ext.refl wr).drew
   clear b2 T2 KC d0 d1 d2 d3 d4
   refine wp_region_held_drew (S := fun W' => (∀ o, W'.cell? ⟨w.heap.size, o, none⟩ = (wdCells p q r (.slice a len cap) safe)[o]?) ∧ W'.cell? ⟨g, 0, none⟩ = some (.int .i64 n0)) (by kernel_rfl) (KC2.out _ Ed) (fun hHeld => ?_)
   refine tkn 0 rfl hHeld ?_
   simp only [Act.put]
   refine tkn 1 rfl hHeld ?_
   simp only [Act.put]
   refine tkn 2 rfl hHeld ?_
   simp only [Act.put]
   refine tkn 3 rfl hHeld ?_
   simp only [Act.put]
   refine tkn 4 rfl hHeld ?_
   simp only [Act.put]
   refine exn 5 rfl fun K hK => ?_
   go_simp
   refine (HAs trivial _ (E0.trans (hE2.trans Ed))).mono ?_
   rintro e w5 ⟨rfl, hw5⟩
   have E5 := Ed.trans hw5
   go_wp2_with fail
   refine hK.out _ _ (KC2.out _ E5) (fun hHeld => ?_)
   clear hK K
   refine tkn 6 rfl hHeld ?_
   simp only [Act.put]
   refine tkn 7 rfl hHeld ?_
   simp only [Act.put]
   refine tkn 8 rfl hHeld ?_
   simp only [Act.put]
   refine tkn 9 rfl hHeld ?_
   simp only [Act.put]
   refine exn 10 rfl fun K hK => ?_
   go_simp
   refine hK.out _ _ (KC2.out _ E5) (fun hHeld => ?_)
   clear hK K
   refine exn 11 rfl fun K hK => ?_
   go_simp
   refine hK.out _ _ (KC2.out _ E5) (fun hHeld => ?_)
   clear hK K
   refine exn 12 rfl fun K hK => ?_
   go_simp
   refine hK.out _ _ (KC2.out _ E5) (fun hHeld => ?_)
   clear hK K hHeld
   refine wpAnyH_done (by kernel_rfl) ?_ _
   have E6 := hE2.trans E5
   have B6 := B0.ext E6
   have KC3 : Hid (∀ W', Gr (some (w.heap.size + 1)) w5 W' → ∀ o, W'.cell? ⟨w.heap.size, o, none⟩ = (wdCells p q r (.slice a len cap) safe)[o]?) := fun W' g => (B6.gr g (by simp)).cell
   have Ed5 := (Ext.refl w5).drew
   clear KC2
   go_wp2_with fail
   refine wp_region_held_drew (S := fun W' => ∀ o, W'.cell? ⟨w.heap.size, o, none⟩ = (wdCells p q r (.slice a len cap) safe)[o]?) (by kernel_rfl) (KC3.out _ (Gr.of_ext Ed5)) (fun hHeld => ?_)
   refine tkn 0 rfl hHeld ?_
   simp only [Act.put]
   refine tkn 1 rfl hHeld ?_
   simp only [Act.put]
   refine tkn 3 rfl hHeld ?_
   simp only [Act.put]
   refine exn 2 rfl fun K hK => ?_
   go_simp
   refine (digits_any k (by omega) _).mono ?_
   rintro e w7 ⟨rfl, hw7⟩
   have E7 := Ed5.trans hw7
   have N7 := N0.ext (E6.trans E7)
   have n_ := N7.cell
   have f_ := N7.fr
   go_wp2_with fail
   refine hK.out _ _ (KC3.out _ (Gr.of_ext E7)) (fun hHeld => ?_)
   clear hK K
   refine exn 4 rfl fun K hK => ?_
   go_simp
   have G9 := (Gr.of_ext E7).trans (putWd_gr w7 (w.heap.size + 1) p q r (.slice a len cap) safe)
   have E9 := putWd_ext (E0.trans (E6.trans E7)) (w.heap.size + 1) (by omega) p q r (.slice a len cap) safe
   have n9 := (putWd_blk N7 p q r (.slice a len cap) safe).cell
   clear n_ f_
   refine hK.out _ _ (KC3.out _ G9) (fun hHeld => ?_)
   clear hK K
   refine exn 5 rfl fun K hK => ?_
   go_simp
   refine hK.out _ _ (KC3.out _ G9) (fun hHeld => ?_)
   clear hK K
   refine exn 6 rfl fun K hK => ?_
   go_simp
   refine hK.out _ _ (KC3.out _ G9) (fun hHeld => ?_)
   clear hK K hHeld
   refine wpAnyH_done (by kernel_rfl) ?_ _
   go_wp2_with fail
   exact bodyPost_ret (v := .tuple #[.agg (wdCells p q r (.slice a len cap) safe), tx (digitsR k), .int .i64 x]) (by simp [results, Tryz.results12, go_sem, n9]) rfl ⟨rfl, E9⟩
end Go.Proofs.YtibfgbmhmdggmaaGreatDoor.B
