/- The contracts of the reference's rolled, RollOf and AbortOf. The contract of the reference's AbortOf. -/
import Derived.Test.YtibfgbmhmdggmaaGreatDoorRoll1
import Derived.Test.YtibfgbmhmdggmaaGreatDoorWork6
namespace Go.Proofs.YtibfgbmhmdggmaaGreatDoor.B
set_option maxHeartbeats 32000000
set_option maxRecDepth 100000
open Go.ChangeShapes Go.WideShapes Go.ChangeAt Go.RowKit
theorem linkR_roll (l : List Rc) (t : Int) : linkR l (rollRec l t) = rollRec l t := by
 unfold linkR rollRec
 cases (standB l t).getLast? <;> rfl
theorem nums_at {w : World} {a : Option Addr} {ms : List Nat} {n : Nat} (h : Nums w a (ms ++ [n])) : ∃ b, a = some ⟨b, 0, none⟩ ∧ w.cell? ⟨b, ms.length, none⟩ = some (.int .i64 (n : Nat)) := by
 rcases h with h | ⟨b, rfl, hc⟩
 ·simp at h
 ·refine ⟨b, rfl, ?_⟩
  have := hc ms.length (by simp)
  simpa using this
theorem rolled_end (a : Option Addr) (len cap : Nat) (l : List Rc) (t : Int) (w : World) (h : Recs w a len l) (hl : len ≤ 60) (hR : Right l) (h0 : standsR l t = []) (hr : rollRec l t = ⟨4, t, (lastR l t : Nat), 0, 0, 0, 0, 0⟩) :
  Calls Tryz.prog 53 #[.slice a len cap, .int .i64 t] w fun e w' => e = .returned (rollRec l t).val ∧ Ext w w' := by
 have E0 := (Ext.refl w).alloc (.cells #[.int .i64 0, .int .i64 0, .int .i64 0, .int .i64 0, .int .i64 0, .int .i64 0, .int .i64 0, .int .i64 0] 81)
 have Z0 := Blk.new w w.heap.size #[.int .i64 0, .int .i64 0, .int .i64 0, .int .i64 0, .int .i64 0, .int .i64 0, .int .i64 0, .int .i64 0] 81 rfl
 have H := stands_any a len cap l t (w.alloc (.cells #[.int .i64 0, .int .i64 0, .int .i64 0, .int .i64 0, .int .i64 0, .int .i64 0, .int .i64 0, .int .i64 0] 81)) (h.ext E0) (by omega) (right_backs l hR t)
 rw [h0] at H
 rw [hr]
 go_enter Tryz.func53, Tryz.ntmps53
 go_wp2_with fail
 refine H.mono ?_
 rintro e w1 ⟨⟨a', cap', rfl, _⟩, hE⟩
 clear H
 have E1 := E0.trans hE
 have Z1 := Z0.ext hE
 rw [List.length_nil]
 go_wp2_with fail
 refine (last_any a len cap l t _ (h.ext E1) (by omega)).mono ?_
 rintro e w2 ⟨rfl, rfl⟩
 have z := Z1.cell
 have f := Z1.fr
 go_wp2_with fail
 refine bodyPost_ret (v := .agg #[.int .i64 4, .int .i64 t, .int .i64 (lastR l t : Nat), .int .i64 0, .int .i64 0, .int .i64 0, .int .i64 0, .int .i64 0]) (by simp [results, Tryz.results53, go_sem, z]) rfl ⟨rfl, ?_⟩
 exact ((((((((E1.setCell (by simp) _).setCell (by simp) _).setCell (by simp) _).setCell (by simp) _).setCell (by simp) _).setCell (by simp) _).setCell (by simp) _).setCell (by simp) _)
theorem rolled_back (a : Option Addr) (len cap : Nat) (l : List Rc) (t : Int) (w : World) (h : Recs w a len l) (hl : len ≤ 60) (hR : Right l) (ms : List Nat) (m : Nat) (h0 : standsR l t = ms ++ [m + 1]) (hm : m < len) (x : Rc) (hx : l[m]? = some x) (hr : rollRec l t = ⟨3, t, (lastR l t : Nat), x.page, x.cell, x.new, x.old, x.prev⟩) :
  Calls Tryz.prog 53 #[.slice a len cap, .int .i64 t] w fun e w' => e = .returned (rollRec l t).val ∧ Ext w w' := by
 have E0 := (Ext.refl w).alloc (.cells #[.int .i64 0, .int .i64 0, .int .i64 0, .int .i64 0, .int .i64 0, .int .i64 0, .int .i64 0, .int .i64 0] 81)
 have Z0 := Blk.new w w.heap.size #[.int .i64 0, .int .i64 0, .int .i64 0, .int .i64 0, .int .i64 0, .int .i64 0, .int .i64 0, .int .i64 0] 81 rfl
 have H := stands_any a len cap l t (w.alloc (.cells #[.int .i64 0, .int .i64 0, .int .i64 0, .int .i64 0, .int .i64 0, .int .i64 0, .int .i64 0, .int .i64 0] 81)) (h.ext E0) (by omega) (right_backs l hR t)
 have hml : ms.length ≤ 1000 := by have := standsR_le l t; rw [h0] at this; simp at this; have := h.len; omega
 rw [h0, List.length_append, List.length_singleton] at H
 rw [hr]
 clear hr h0
 go_enter Tryz.func53, Tryz.ntmps53
 go_wp2_with fail
 refine H.mono ?_
 rintro e w1 ⟨⟨a', cap', rfl, hn⟩, hE⟩
 clear H
 have E1 := E0.trans hE
 have Z1 := Z0.ext hE
 obtain ⟨b, rfl, hc⟩ := nums_at hn
 have hcm : w1.cell? ⟨b, ms.length, none⟩ = some (.int .i64 ((m : Int) + 1)) := by simpa using hc
 obtain ⟨b2, off, rfl, hql, hrec⟩ := (h.ext E1).at hm
 have hlx : l[m] = x := by rw [List.getElem?_eq_getElem hql] at hx; injection hx
 rw [hlx] at hrec
 obtain ⟨h0, h1, h2, h3, h4, h5, h6, h7⟩ := hrec
 have hne : (((ms.length : Int) + 1) == 0) = false := by rw [beq_eq_false_iff_ne]; omega
 clear hn hc hlx hx hE
 have HR1 := h.ext E1
 obtain ⟨x0, x1, x2, x3, x4, x5, x6, x7⟩ := x
 dsimp only at h0 h1 h2 h3 h4 h5 h6 h7 ⊢
 go_wp2_with fail
 have E2 := E1.alloc (.cells #[.int .i64 x0, .int .i64 x1, .int .i64 x2, .int .i64 x3, .int .i64 x4, .int .i64 x5, .int .i64 x6, .int .i64 x7] 81)
 have Z2 := Z1.alloc (.cells #[.int .i64 x0, .int .i64 x1, .int .i64 x2, .int .i64 x3, .int .i64 x4, .int .i64 x5, .int .i64 x6, .int .i64 x7] 81)
 have X2 := Blk.new w1 w1.heap.size #[.int .i64 x0, .int .i64 x1, .int .i64 x2, .int .i64 x3, .int .i64 x4, .int .i64 x5, .int .i64 x6, .int .i64 x7] 81 rfl
 have hzx : w.heap.size ≠ w1.heap.size := by have := Z1.lt; omega
 have R2 := h.ext E2
 clear h0 h1 h2 h3 h4 h5 h6 h7 HR1 hcm
 generalize hW : w1.alloc (.cells #[.int .i64 x0, .int .i64 x1, .int .i64 x2, .int .i64 x3, .int .i64 x4, .int .i64 x5, .int .i64 x6, .int .i64 x7] 81) = W at *
 clear hW
 have Ed := (Ext.refl W).drew
 refine wp_region_held_drew (S := fun w' => ∀ o, w'.cell? ⟨w1.heap.size, o, none⟩ = #[.int .i64 x0, .int .i64 x1, .int .i64 x2, .int .i64 x3, .int .i64 x4, .int .i64 x5, .int .i64 x6, .int .i64 x7][o]?) (by kernel_rfl) (X2.ext Ed).cell (fun hHeld => ?_)
 refine tkn 0 rfl hHeld ?_
 simp only [Act.put]
 refine tkn 1 rfl hHeld ?_
 simp only [Act.put]
 refine tkn 2 rfl hHeld ?_
 simp only [Act.put]
 refine tkn 4 rfl hHeld ?_
 simp only [Act.put]
 refine tkn 5 rfl hHeld ?_
 simp only [Act.put]
 refine tkn 6 rfl hHeld ?_
 simp only [Act.put]
 refine tkn 7 rfl hHeld ?_
 simp only [Act.put]
 refine tkn 8 rfl hHeld ?_
 simp only [Act.put]
 refine tkn 9 rfl hHeld ?_
 simp only [Act.put]
 refine tkn 10 rfl hHeld ?_
 simp only [Act.put]
 refine tkn 11 rfl hHeld ?_
 simp only [Act.put]
 refine tkn 12 rfl hHeld ?_
 simp only [Act.put]
 refine tkn 13 rfl hHeld ?_
 simp only [Act.put]
 refine exn 3 rfl fun K hK => ?_
 go_simp
 refine (last_any (some ⟨b2, off, none⟩) len cap l t _ (R2.ext Ed) (by omega)).mono ?_
 rintro e w2 ⟨rfl, rfl⟩
 go_wp2_with fail
 refine hK.out _ _ hHeld (fun hHeld => ?_)
 clear hK K
 refine tkn 14 rfl hHeld ?_
 simp only [Act.put]
 have z := Z2.cell
 have f := Z2.fr
 refine exn 15 rfl fun K hK => ?_
 go_simp
 have hbz : w1.heap.size ≠ w.heap.size := fun e => hzx e.symm
 refine hK.out _ _ (((((((((X2.other _ _ hbz).other _ _ hbz).other _ _ hbz).other _ _ hbz).other _ _ hbz).other _ _ hbz).other _ _ hbz).other _ _ hbz)).drew.cell (fun hHeld => ?_)
 clear hK K hHeld
 refine wpAnyH_done (by kernel_rfl) ?_ _
 go_wp2_with fail
 refine bodyPost_ret (v := .agg #[.int .i64 3, .int .i64 t, .int .i64 (lastR l t : Nat), .int .i64 x3, .int .i64 x4, .int .i64 x6, .int .i64 x5, .int .i64 x2]) (by simp [results, Tryz.results53, go_sem, z]) rfl ⟨rfl, ?_⟩
 exact (((((((((E2.setCell (by simp) _).setCell (by simp) _).setCell (by simp) _).setCell (by simp) _).setCell (by simp) _).setCell (by simp) _).setCell (by simp) _).setCell (by simp) _)).drew
theorem rolled_any (a : Option Addr) (len cap : Nat) (l : List Rc) (t : Int) (w : World) (h : Recs w a len l) (hl : len ≤ 60) (hR : Right l) (hs4 : stateR l t ≠ 4) :
  Calls Tryz.prog 53 #[.slice a len cap, .int .i64 t] w fun e w' => e = .returned (rollRec l t).val ∧ Ext w w' := by
 rcases List.eq_nil_or_concat (standsR l t) with h0 | ⟨ms, n, h0⟩
 ·refine rolled_end a len cap l t w h hl hR h0 (rollRec_end ?_)
  rw [stand_of_n4 hs4]
  exact List.length_eq_zero_iff.1 (by rw [standRecs_length, h0]; rfl)
 ·rw [List.concat_eq_append] at h0
  have hn : n ∈ standsR l t := by rw [h0]; simp
  obtain ⟨n1, n2⟩ := standsR_mem hn
  obtain ⟨m, rfl⟩ : ∃ m, n = m + 1 := ⟨n - 1, by omega⟩
  have hm : m < l.length := by omega
  refine rolled_back a len cap l t w h hl hR ms m h0 (by have := h.len; omega) l[m] (List.getElem?_eq_getElem hm) ?_
  have hg : (standB l t).getLast? = some l[m] := by
   rw [stand_of_n4 hs4, standRecs_last, h0, List.getLast?_concat]
   show l[m + 1 - 1]? = _
   rw [Nat.add_sub_cancel]
   exact List.getElem?_eq_getElem hm
  unfold rollRec
  rw [hg]
theorem rollOf_bad (a : Option Addr) (len cap : Nat) (l : List Rc) (t x : Int) (w : World) (h : Recs w a len l) (hcap : len ≤ cap) (hm : len ≤ maxLen) (hs : stateAns l t = (0, 0, x)) (hx : x ≠ 0) :
  Calls Tryz.prog 52 #[.slice a len cap, .int .i64 t] w fun e w' => e = .returned (.tuple #[zRc.val, .int .i64 x]) ∧ Ext w w' := by
 have E0 := (Ext.refl w).alloc (.cells #[.int .i64 0, .int .i64 0, .int .i64 0, .int .i64 0, .int .i64 0, .int .i64 0, .int .i64 0, .int .i64 0] 81)
 have Z0 := Blk.new w w.heap.size #[.int .i64 0, .int .i64 0, .int .i64 0, .int .i64 0, .int .i64 0, .int .i64 0, .int .i64 0, .int .i64 0] 81 rfl
 have H := stateOf_any a len cap l t (w.alloc (.cells #[.int .i64 0, .int .i64 0, .int .i64 0, .int .i64 0, .int .i64 0, .int .i64 0, .int .i64 0, .int .i64 0] 81)) (h.ext E0) hcap hm
 rw [hs] at H
 dsimp only at H
 have hb : (x != 0) = true := by simpa using hx
 clear hs hx
 go_enter Tryz.func52, Tryz.ntmps52
 go_wp2_with fail
 refine H.mono ?_
 rintro e w1 ⟨rfl, hE⟩
 clear H
 have E1 := E0.trans hE
 have Z1 := Z0.ext hE
 have z := Z1.cell
 have f := Z1.fr
 go_wp2_with fail
 refine bodyPost_ret (v := .tuple #[.agg #[.int .i64 0, .int .i64 0, .int .i64 0, .int .i64 0, .int .i64 0, .int .i64 0, .int .i64 0, .int .i64 0], .int .i64 x]) (by simp [results, Tryz.results52, go_sem, z]) rfl ⟨rfl, ?_⟩
 exact ((((((((E1.setCell (by simp) _).setCell (by simp) _).setCell (by simp) _).setCell (by simp) _).setCell (by simp) _).setCell (by simp) _).setCell (by simp) _).setCell (by simp) _)
theorem rollOf_state (a : Option Addr) (len cap : Nat) (l : List Rc) (t : Int) (w : World) (h : Recs w a len l) (hcap : len ≤ cap) (hm : len ≤ maxLen) (hl : len ≤ 60) (hR : Right l) (hs : stateAns l t = (stateR l t, ((lastR l t : Nat) : Int), 0)) (ho : out 1 9 [t] = false) :
  Calls Tryz.prog 52 #[.slice a len cap, .int .i64 t] w fun e w' => e = .returned (.tuple #[(nextRec l t).val, .int .i64 (rollErr l t)]) ∧ Ext w w' := by
 have E0 := (Ext.refl w).alloc (.cells #[.int .i64 0, .int .i64 0, .int .i64 0, .int .i64 0, .int .i64 0, .int .i64 0, .int .i64 0, .int .i64 0] 81)
 have Z0 := Blk.new w w.heap.size #[.int .i64 0, .int .i64 0, .int .i64 0, .int .i64 0, .int .i64 0, .int .i64 0, .int .i64 0, .int .i64 0] 81 rfl
 have H := stateOf_any a len cap l t (w.alloc (.cells #[.int .i64 0, .int .i64 0, .int .i64 0, .int .i64 0, .int .i64 0, .int .i64 0, .int .i64 0, .int .i64 0] 81)) (h.ext E0) hcap hm
 rw [hs] at H
 dsimp only at H
 have X7 : Hid (stateR l t = 0 → rollErr l t = 7 ∧ nextRec l t = zRc) := fun b => ⟨rollErr_7 ho b, nextRec_bad (by rw [rollErr_7 ho b]; decide)⟩
 have X6 : Hid (¬ stateR l t = 0 → (stateR l t = 2 ∨ stateR l t = 4) → rollErr l t = 6 ∧ nextRec l t = zRc) := fun b c => ⟨rollErr_6 ho b c, nextRec_bad (by rw [rollErr_6 ho b c]; decide)⟩
 have X0 : Hid (¬ stateR l t = 0 → ¬ (stateR l t = 2 ∨ stateR l t = 4) → rollErr l t = 0 ∧ nextRec l t = rollRec l t) := fun b c => ⟨rollErr_0 ho b c, nextRec_ok (rollErr_0 ho b c)⟩
 have HC : Hid (¬ (stateR l t = 2 ∨ stateR l t = 4) → ∀ w', Ext w w' → Calls Tryz.prog 53 #[.slice a len cap, .int .i64 t] w' fun e w'' => e = .returned (rollRec l t).val ∧ Ext w' w'') := fun c w' e => rolled_any a len cap l t w' (h.ext e) hl hR (fun x => c (Or.inr x))
 clear hs ho
 generalize rollErr l t = re at *
 generalize nextRec l t = nr at *
 generalize rollRec l t = rr at *
 generalize stateR l t = s at *
 go_enter Tryz.func52, Tryz.ntmps52
 go_wp2_with fail
 refine H.mono ?_
 rintro e w1 ⟨rfl, hE⟩
 clear H
 have E1 := E0.trans hE
 have Z1 := Z0.ext hE
 have z := Z1.cell
 have f := Z1.fr
 by_cases hs0 : s = 0
 ·obtain ⟨rfl, rfl⟩ := X7.out hs0
  have hb : (s == 0) = true := by simpa using hs0
  clear hs0 X7 X6 X0 HC
  go_wp2_with fail
  refine bodyPost_ret (v := .tuple #[.agg #[.int .i64 0, .int .i64 0, .int .i64 0, .int .i64 0, .int .i64 0, .int .i64 0, .int .i64 0, .int .i64 0], .int .i64 7]) (by simp [results, Tryz.results52, go_sem, z]) rfl ⟨rfl, ?_⟩
  exact ((((((((E1.setCell (by simp) _).setCell (by simp) _).setCell (by simp) _).setCell (by simp) _).setCell (by simp) _).setCell (by simp) _).setCell (by simp) _).setCell (by simp) _)
 ·have hb : (s == 0) = false := by simpa using hs0
  by_cases hst : s = 2 ∨ s = 4
  ·obtain ⟨rfl, rfl⟩ := X6.out hs0 hst
   clear hs0 X7 X6 X0 HC
   rcases hst with rfl | rfl
   ·go_wp2_with fail
    refine bodyPost_ret (v := .tuple #[.agg #[.int .i64 0, .int .i64 0, .int .i64 0, .int .i64 0, .int .i64 0, .int .i64 0, .int .i64 0, .int .i64 0], .int .i64 6]) (by simp [results, Tryz.results52, go_sem, z]) rfl ⟨rfl, ?_⟩
    exact ((((((((E1.setCell (by simp) _).setCell (by simp) _).setCell (by simp) _).setCell (by simp) _).setCell (by simp) _).setCell (by simp) _).setCell (by simp) _).setCell (by simp) _)
   ·go_wp2_with fail
    refine bodyPost_ret (v := .tuple #[.agg #[.int .i64 0, .int .i64 0, .int .i64 0, .int .i64 0, .int .i64 0, .int .i64 0, .int .i64 0, .int .i64 0], .int .i64 6]) (by simp [results, Tryz.results52, go_sem, z]) rfl ⟨rfl, ?_⟩
    exact ((((((((E1.setCell (by simp) _).setCell (by simp) _).setCell (by simp) _).setCell (by simp) _).setCell (by simp) _).setCell (by simp) _).setCell (by simp) _).setCell (by simp) _)
  ·obtain ⟨rfl, rfl⟩ := X0.out hs0 hst
   have hb2 : (s == 2) = false := by simp; omega
   have hb4 : (s == 4) = false := by simp; omega
   have hc := HC.out hst w1 E1
   clear hst hs0 X7 X6 X0 HC z f
   go_wp2_with fail
   refine hc.mono ?_
   rintro e w2 ⟨rfl, hE2⟩
   have Z2 := Z1.ext hE2
   have E2 := E1.trans hE2
   have z := Z2.cell
   have f := Z2.fr
   obtain ⟨r0, r1, r2, r3, r4, r5, r6, r7⟩ := nr
   clear hc
   go_wp2_with fail
   refine bodyPost_ret (v := .tuple #[.agg #[.int .i64 r0, .int .i64 r1, .int .i64 r2, .int .i64 r3, .int .i64 r4, .int .i64 r5, .int .i64 r6, .int .i64 r7], .int .i64 0]) (by simp [results, Tryz.results52, go_sem, z]) rfl ⟨rfl, ?_⟩
   exact ((((((((E2.setCell (by simp) _).setCell (by simp) _).setCell (by simp) _).setCell (by simp) _).setCell (by simp) _).setCell (by simp) _).setCell (by simp) _).setCell (by simp) _)
theorem rollOf_any (a : Option Addr) (len cap : Nat) (l : List Rc) (t : Int) (w : World) (h : Recs w a len l) (hcap : len ≤ cap) (hm : len ≤ maxLen) :
  Calls Tryz.prog 52 #[.slice a len cap, .int .i64 t] w fun e w' => e = .returned (.tuple #[(stepAns l t).1.val, .int .i64 (stepAns l t).2]) ∧ Ext w w' := by
 unfold stepAns
 by_cases hz : logErr l = 0
 ·obtain ⟨h60, hR⟩ := logErr_zero hz
  rw [if_pos hz]
  cases ho : out 1 9 [t]
  ·exact rollOf_state a len cap l t w h hcap hm (by have := h.len; omega) hR (by unfold stateAns; rw [if_pos hz, ho]; rfl) ho
  ·have := rollOf_bad a len cap l t 3 w h hcap hm (by unfold stateAns; rw [if_pos hz, ho]; rfl) (by decide)
   rw [nextRec_bad (by rw [rollErr_3 ho]; decide), rollErr_3 ho]
   exact this
 ·rw [if_neg hz]
  exact rollOf_bad a len cap l t _ w h hcap hm (by unfold stateAns; rw [if_neg hz]) hz
theorem abortOf_w (p q r : Pg) (a : Option Addr) (cap : Nat) (l : List Rc) (safe : Int) (t : Int) (w : World) (h : LogIn w a l.length cap l) (hz : worldErr p q r l safe ≠ 0) :
  Calls Tryz.prog 31 #[wdVal p q r (.slice a l.length cap) safe, .int .i64 t] w fun e w' => e = .returned (.tuple #[wdVal noPg noPg noPg (.slice none 0 0) 0, .int .i64 (worldErr p q r l safe)]) ∧ Ext w w' := by
 have E0 := ((Ext.refl w).alloc (.cells (wdCells p q r (.slice a l.length cap) safe) 38)).alloc (.cells (wdCells noPg noPg noPg (.slice none 0 0) 0) 38)
 have B0 := (Blk.new w w.heap.size (wdCells p q r (.slice a l.length cap) safe) 38 rfl).alloc (.cells (wdCells noPg noPg noPg (.slice none 0 0) 0) 38)
 have N0 := Blk.new (w.alloc (.cells (wdCells p q r (.slice a l.length cap) safe) 38)) (w.heap.size + 1) (wdCells noPg noPg noPg (.slice none 0 0) 0) 38 (by simp)
 have H := worldError_any p q r a l.length cap l safe _ (h.recs.ext E0) h.le h.max
 have hb : (worldErr p q r l safe != 0) = true := by simpa using hz
 generalize worldErr p q r l safe = we at *
 clear hz
 have b0 := B0.cell
 go_enter Tryz.func31, Tryz.ntmps31
 go_wp2_with fail
 refine H.mono ?_
 rintro e w1 ⟨rfl, hE⟩
 have E := E0.trans hE
 have B := B0.ext hE
 have N := N0.ext hE
 clear H b0 B0 N0 E0 hE
 have n := N.cell
 have f := N.fr
 have E9 := put14_ext E (w.heap.size + 1) (by omega) (.int .i64 0) (.int .i64 0) (.int .i64 0) (.int .i64 0) (.int .i64 0) (.int .i64 0) (.int .i64 0) (.int .i64 0) (.int .i64 0) (.int .i64 0) (.int .i64 0) (.int .i64 0) (.slice none 0 0) (.int .i64 0)
 go_wp2_with fail
 refine bodyPost_ret (v := .tuple #[.agg (wdCells noPg noPg noPg (.slice none 0 0) 0), .int .i64 we]) (by simp [results, Tryz.results31, go_sem, n]) rfl ⟨rfl, ?_⟩
 exact E9
theorem abortOf_e (p q r : Pg) (a : Option Addr) (cap : Nat) (l : List Rc) (safe : Int) (t : Int) (w : World) (h : LogIn w a l.length cap l) (hz : worldErr p q r l safe = 0) (hx : rollErr l t ≠ 0) :
  Calls Tryz.prog 31 #[wdVal p q r (.slice a l.length cap) safe, .int .i64 t] w fun e w' => e = .returned (.tuple #[wdVal noPg noPg noPg (.slice none 0 0) 0, .int .i64 (rollErr l t)]) ∧ Ext w w' := by
 have E0 := ((Ext.refl w).alloc (.cells (wdCells p q r (.slice a l.length cap) safe) 38)).alloc (.cells (wdCells noPg noPg noPg (.slice none 0 0) 0) 38)
 have B0 := (Blk.new w w.heap.size (wdCells p q r (.slice a l.length cap) safe) 38 rfl).alloc (.cells (wdCells noPg noPg noPg (.slice none 0 0) 0) 38)
 have N0 := Blk.new (w.alloc (.cells (wdCells p q r (.slice a l.length cap) safe) 38)) (w.heap.size + 1) (wdCells noPg noPg noPg (.slice none 0 0) 0) 38 (by simp)
 have H := worldError_any p q r a l.length cap l safe _ (h.recs.ext E0) h.le h.max
 rw [hz] at H
 have hS : stepAns l t = (zRc, rollErr l t) := by unfold stepAns; rw [if_pos (worldErr_zero hz).1, nextRec_bad hx]
 have HC : Hid (∀ w', Ext w w' → Calls Tryz.prog 52 #[.slice a l.length cap, .int .i64 t] w' fun e w'' => e = .returned (.tuple #[zRc.val, .int .i64 (rollErr l t)]) ∧ Ext w' w'') := fun w' e => by have := rollOf_any a l.length cap l t w' (h.recs.ext e) h.le h.max; rw [hS] at this; exact this
 have hb : (rollErr l t != 0) = true := by simpa using hx
 clear hz hx hS
 generalize rollErr l t = x at *
 have b0 := B0.cell
 go_enter Tryz.func31, Tryz.ntmps31
 go_wp2_with fail
 refine H.mono ?_
 rintro e w1 ⟨rfl, hE⟩
 have E := E0.trans hE
 have B := B0.ext hE
 have N := N0.ext hE
 clear H b0 B0 N0 E0 hE
 have b1 := B.cell
 go_wp2_with fail
 refine (HC.out _ E).mono ?_
 rintro e w2 ⟨rfl, hE2⟩
 have E2 := (E.trans hE2).alloc (.cells #[.int .i64 0, .int .i64 0, .int .i64 0, .int .i64 0, .int .i64 0, .int .i64 0, .int .i64 0, .int .i64 0] 81)
 have N2 := (N.ext hE2).alloc (.cells #[.int .i64 0, .int .i64 0, .int .i64 0, .int .i64 0, .int .i64 0, .int .i64 0, .int .i64 0, .int .i64 0] 81)
 have n := N2.cell
 have f := N2.fr
 have E9 := put14_ext E2 (w.heap.size + 1) (by omega) (.int .i64 0) (.int .i64 0) (.int .i64 0) (.int .i64 0) (.int .i64 0) (.int .i64 0) (.int .i64 0) (.int .i64 0) (.int .i64 0) (.int .i64 0) (.int .i64 0) (.int .i64 0) (.slice none 0 0) (.int .i64 0)
 clear b1 B N E hE2 HC
 go_wp2_with fail
 refine bodyPost_ret (v := .tuple #[.agg (wdCells noPg noPg noPg (.slice none 0 0) 0), .int .i64 x]) (by simp [results, Tryz.results31, go_sem, n]) rfl ⟨rfl, ?_⟩
 exact E9
theorem abortOf_go (p q r : Pg) (a : Option Addr) (cap : Nat) (l : List Rc) (safe : Int) (t : Int) (w : World) (h : LogIn w a l.length cap l) (hz : worldErr p q r l safe = 0) (hro : rollErr l t = 0) :
  Calls Tryz.prog 31 #[wdVal p q r (.slice a l.length cap) safe, .int .i64 t] w fun e w' => Ext w w' ∧ WorkAns w.heap.size w' e p q r (abortErr l t) (abortR l t) safe := by
 have E0 := ((Ext.refl w).alloc (.cells (wdCells p q r (.slice a l.length cap) safe) 38)).alloc (.cells (wdCells noPg noPg noPg (.slice none 0 0) 0) 38)
 have B0 := (Blk.new w w.heap.size (wdCells p q r (.slice a l.length cap) safe) 38 rfl).alloc (.cells (wdCells noPg noPg noPg (.slice none 0 0) 0) 38)
 have N0 := Blk.new (w.alloc (.cells (wdCells p q r (.slice a l.length cap) safe) 38)) (w.heap.size + 1) (wdCells noPg noPg noPg (.slice none 0 0) 0) 38 (by simp)
 have H := worldError_any p q r a l.length cap l safe _ (h.recs.ext E0) h.le h.max
 rw [hz] at H
 have hlz := (worldErr_zero hz).1
 obtain ⟨h60, hR⟩ := logErr_zero hlz
 have hS : stepAns l t = (rollRec l t, 0) := by unfold stepAns; rw [if_pos hlz, nextRec_ok hro, hro]
 have HC : Hid (∀ w', Ext w w' → Calls Tryz.prog 52 #[.slice a l.length cap, .int .i64 t] w' fun e w'' => e = .returned (.tuple #[(rollRec l t).val, .int .i64 0]) ∧ Ext w' w'') := fun w' e => by have := rollOf_any a l.length cap l t w' (h.recs.ext e) h.le h.max; rw [hS] at this; exact this
 obtain ⟨y, hy⟩ : ∃ y, rollRec l t = y := ⟨_, rfl⟩
 rw [hy] at HC
 obtain ⟨y0, y1, y2, y3, y4, y5, y6, y7⟩ := y
 clear hy hS hz hlz
 obtain ⟨ae, hae⟩ : ∃ ae, abortErr l t = ae := ⟨_, rfl⟩
 obtain ⟨al, hal⟩ : ∃ al, abortR l t = al := ⟨_, rfl⟩
 rw [hae, hal]
 have HAe := (show Hid (abortErr l t = ae) from hae)
 have HAl := (show Hid (abortR l t = al) from hal)
 have HRo := (show Hid (rollErr l t = 0) from hro)
 clear hae hal hro
 have b0 := B0.cell
 go_enter Tryz.func31, Tryz.ntmps31
 go_wp2_with fail
 refine H.mono ?_
 rintro e w1 ⟨rfl, hE⟩
 have E := E0.trans hE
 have B := B0.ext hE
 have N := N0.ext hE
 clear H b0 B0 N0 E0 hE
 have b1 := B.cell
 go_wp2_with fail
 refine (HC.out _ E).mono ?_
 rintro e w2 ⟨rfl, hE2⟩
 have E2 := (E.trans hE2).alloc (.cells #[.int .i64 y0, .int .i64 y1, .int .i64 y2, .int .i64 y3, .int .i64 y4, .int .i64 y5, .int .i64 y6, .int .i64 y7] 81)
 have B2 := (B.ext hE2).alloc (.cells #[.int .i64 y0, .int .i64 y1, .int .i64 y2, .int .i64 y3, .int .i64 y4, .int .i64 y5, .int .i64 y6, .int .i64 y7] 81)
 have N2 := (N.ext hE2).alloc (.cells #[.int .i64 y0, .int .i64 y1, .int .i64 y2, .int .i64 y3, .int .i64 y4, .int .i64 y5, .int .i64 y6, .int .i64 y7] 81)
 clear b1 B N E hE2 HC
 have b2 := B2.cell
 go_wp2_with fail
 refine (ownWorld_any p q r a l.length cap l safe _ (h.ext E2) h60).mono ?_
 rintro e w4 ⟨a', cap', rfl, hw, hown⟩
 generalize w2.alloc (.cells #[.int .i64 y0, .int .i64 y1, .int .i64 y2, .int .i64 y3, .int .i64 y4, .int .i64 y5, .int .i64 y6, .int .i64 y7] 81) = w3 at *
 have E4 := (E2.trans hw).alloc (.cells (wdCells p q r (.slice a' l.length cap') safe) 38)
 have N4 := (N2.ext hw).alloc (.cells (wdCells p q r (.slice a' l.length cap') safe) 38)
 have D4 := Blk.new w4 w4.heap.size (wdCells p q r (.slice a' l.length cap') safe) 38 rfl
 have own4 := own_ext hown ((Ext.refl w4).alloc (.cells (wdCells p q r (.slice a' l.length cap') safe) 38))
 have hd4 : w3.heap.size ≤ w4.heap.size := hw.size
 have hn4 : w.heap.size + 1 < w3.heap.size := N2.lt
 have hEs := E2.size
 clear b2 hown hw B2
 go_wp2_with fail
 clear h
 generalize w4.alloc (.cells (wdCells p q r (.slice a' l.length cap') safe) 38) = w5 at *
 go_loopg [] ((standB l t).length + 1) (fun k wr => ∃ m am cm, Blk wr w4.heap.size (wdCells p q r (.slice am m.length cm) safe) 38 ∧ wr.ownsRow w3.heap.size 81 8 (.slice am m.length cm) m.length (flat m) ∧ Below w3.heap.size w5 wr ∧ Hid (Right m ∧ ((rollErr m t = 0 ∧ abortErr m t = ae ∧ abortR m t = al ∧ (standB m t).length < k) ∨ (stateR m t = 4 ∧ ae = 0 ∧ m = al))))
 case atStart => exact ⟨l, a', cap', D4, own4, Below.mono (Ext.refl w5) (by have := D4.lt; omega), hR, Or.inl ⟨HRo.out, HAe.out, HAl.out, Nat.lt_succ_self _⟩⟩
 case round =>
  obtain ⟨m, am, cm, D, hown, hbel, HI⟩ := hrel
  have hRm := HI.out.1
  have hm60 := right_len m hRm
  have HIn := own_in2 hown hm60
  have E5 : Ext w wr := Below.trans E4 (Below.mono hbel hEs)
  have N5 : Blk wr (w.heap.size + 1) (wdCells noPg noPg noPg (.slice none 0 0) 0) 38 := by
   have := hbel.block (w.heap.size + 1) hn4
   unfold Blk; rw [this]; exact N4
  have c := D.cell
  by_cases hs4 : stateR m t = 4
  ·have HX : Hid (ae = 0 ∧ m = al) := by
    rcases HI.out.2 with ⟨h1, _⟩ | ⟨_, h2, h3⟩
    ·have := (rollErr_zero h1).2; omega
    ·exact ⟨h2, h3⟩
   have hb : (stateR m t != 4) = false := by simpa using hs4
   obtain ⟨rfl, rfl⟩ := HX.out
   clear HI hs4 HAe HAl HX
   go_wp2_with fail
   refine (state_any am m.length cm m t _ HIn.recs (by omega)).mono ?_
   rintro e w6 ⟨rfl, rfl⟩
   have n := N5.cell
   have f := N5.fr
   have hne : w4.heap.size ≠ w.heap.size + 1 := by omega
   have E9 := put14_ext E5 (w.heap.size + 1) (by omega) (.int .i64 p.c0) (.int .i64 p.c1) (.int .i64 p.c2) (.int .i64 p.last) (.int .i64 q.c0) (.int .i64 q.c1) (.int .i64 q.c2) (.int .i64 q.last) (.int .i64 r.c0) (.int .i64 r.c1) (.int .i64 r.c2) (.int .i64 r.last) (.slice am m.length cm) (.int .i64 safe)
   have G9 := put14_gr w6 (w.heap.size + 1) (.int .i64 p.c0) (.int .i64 p.c1) (.int .i64 p.c2) (.int .i64 p.last) (.int .i64 q.c0) (.int .i64 q.c1) (.int .i64 q.c2) (.int .i64 q.last) (.int .i64 r.c0) (.int .i64 r.c1) (.int .i64 r.c2) (.int .i64 r.last) (.slice am m.length cm) (.int .i64 safe)
   have own9 := own_gr hown G9 (fun k hk e => by injection e with e; have := own_from hown k hk; omega)
   have HIn9 := (show Hid _ from own_in2 own9 hm60)
   have HFrom : Hid (∀ ad, am = some ad → w.heap.size ≤ ad.block) := fun ad e => by have := own_from hown ad.block (by rw [e]; rfl); omega
   clear own9 G9
   go_wp2_with fail
   refine bodyPost_ret (v := .tuple #[.agg (wdCells p q r (.slice am m.length cm) safe), .int .i64 0]) (by simp [results, Tryz.results31, go_sem, n]) rfl ⟨?_, Or.inl ⟨rfl, am, cm, rfl, ?_, HFrom.out⟩⟩
   ·exact E9
   ·exact HIn9.out
  ·have HL : Hid (rollErr m t = 0 ∧ abortErr m t = ae ∧ abortR m t = al ∧ (standB m t).length < gk) := by
    rcases HI.out.2 with h1 | ⟨h1, _⟩
    ·exact h1
    ·exact absurd h1 hs4
   have hb : (stateR m t != 4) = true := by simpa using hs4
   have HS4 := (show Hid (stateR m t ≠ 4) from hs4)
   clear HI hs4
   go_wp2_with fail
   refine (state_any am m.length cm m t _ HIn.recs (by omega)).mono ?_
   rintro e w6 ⟨rfl, rfl⟩
   go_wp2_with fail
   refine (rolled_any am m.length cm m t _ HIn.recs hm60 hRm HS4.out).mono ?_
   rintro e w7 ⟨rfl, hE7⟩
   have E7 := E5.trans hE7
   have D7 := D.ext hE7
   have N7 := N5.ext hE7
   have own7 := own_ext hown hE7
   have hbel7 : Below w3.heap.size w5 w7 := Below.trans hbel (Below.mono hE7 (by have := D.lt; omega))
   clear c
   by_cases hfull : m.length = 60
   ·have HX : Hid (ae = 2) := by rw [Hid, ← HL.out.2.1]; exact abortErr_2 HL.out.1 (by omega)
    obtain rfl := HX.out
    clear HL HX
    go_wp2_with fail
    refine (refPut_full w4.heap.size p q r am cm m safe (rollRec m t) _ D7 hfull).mono ?_
    rintro e w8 ⟨rfl, hE8⟩
    have N8 := N7.ext hE8
    have n := N8.cell
    have f := N8.fr
    have E9 := put14_ext (E7.trans hE8) (w.heap.size + 1) (by omega) (.int .i64 0) (.int .i64 0) (.int .i64 0) (.int .i64 0) (.int .i64 0) (.int .i64 0) (.int .i64 0) (.int .i64 0) (.int .i64 0) (.int .i64 0) (.int .i64 0) (.int .i64 0) (.slice none 0 0) (.int .i64 0)
    go_wp2_with fail
    refine bodyPost_ret (v := .tuple #[.agg (wdCells noPg noPg noPg (.slice none 0 0) 0), .int .i64 2]) (by simp [results, Tryz.results31, go_sem, n]) rfl ⟨?_, Or.inr ⟨by decide, rfl⟩⟩
    exact E9
   ·have hlt : m.length < 60 := by omega
    have HNx : Hid (Right (m ++ [rollRec m t]) ∧ ∃ k, k < gk ∧ ((rollErr (m ++ [rollRec m t]) t = 0 ∧ abortErr (m ++ [rollRec m t]) t = ae ∧ abortR (m ++ [rollRec m t]) t = al ∧ (standB (m ++ [rollRec m t]) t).length < k) ∨ (stateR (m ++ [rollRec m t]) t = 4 ∧ ae = 0 ∧ m ++ [rollRec m t] = al))) := by
     obtain ⟨l1, l2, l3, l4⟩ := HL.out
     obtain ⟨he, hf⟩ := roll_step hRm l1 hlt
     refine ⟨(right_snoc _ _).2 ⟨hRm, he, hf⟩, ?_⟩
     rcases List.eq_nil_or_concat (standB m t) with hst | ⟨st, u, hst⟩
     ·refine ⟨0, by omega, Or.inr ⟨?_, ?_, ?_⟩⟩
      ·rw [stateR_snoc he hf, if_pos (rollRec_txn m t), rollRec_end hst]
      ·rw [← l2]; exact abortErr_0 l1 (by rw [hst]; simp; omega)
      ·rw [← l3]; exact (abortR_end hst).symm
     ·rw [List.concat_eq_append] at hst
      obtain ⟨_, k2, k3, _⟩ := roll_next hRm l1 hlt hst
      refine ⟨(standB m t).length, l4, Or.inl ⟨k2, ?_, ?_, ?_⟩⟩
      ·rw [← abortErr_back hRm l1 hlt hst]; exact l2
      ·rw [← abortR_back hRm l1 hlt hst]; exact l3
      ·rw [k3, hst]; simp
    have HLk : Hid (m ++ [linkR m (rollRec m t)] = m ++ [rollRec m t]) := by rw [Hid, linkR_roll]
    have HP := refPut_any w3.heap.size w4.heap.size p q r am cm m safe (rollRec m t) w7 D7 own7 hlt hd4
    rw [HLk.out] at HP
    clear HL HLk hfull
    generalize rollRec m t = rr at *
    go_wp2_with fail
    refine HP.mono ?_
    rintro e w8 ⟨rfl, hbel8, a8, cap8, D8, own8⟩
    have hB8 := Below.trans hbel7 hbel8
    clear HP
    go_wp2_with fail
    obtain ⟨hRx, k, hk, hI⟩ := HNx.out
    have hlen : (m ++ [rr]).length = m.length + 1 := by simp
    go_roundg k
    case measure => exact hk
    case rel => exact ⟨m ++ [rr], a8, cap8, by rw [hlen]; exact D8, by rw [hlen] at own8 ⊢; exact own8, hB8, hRx, hI⟩
theorem abortOf_any (p q r : Pg) (a : Option Addr) (len cap : Nat) (l : List Rc) (safe t : Int) (w : World) (h : LogIn w a len cap l) :
  Calls Tryz.prog 31 #[wdVal p q r (.slice a len cap) safe, .int .i64 t] w fun e w' => Ext w w' ∧ WorkAns w.heap.size w' e p q r (errOf (worldErr p q r l safe) (abortErr l t)) (abortR l t) safe := by
 obtain rfl := h.recs.len
 have nope : ∀ (k x : Int), x = k → k ≠ 0 → Calls Tryz.prog 31 #[wdVal p q r (.slice a l.length cap) safe, .int .i64 t] w (fun e w' => e = .returned (.tuple #[wdVal noPg noPg noPg (.slice none 0 0) 0, .int .i64 k]) ∧ Ext w w') →
   Calls Tryz.prog 31 #[wdVal p q r (.slice a l.length cap) safe, .int .i64 t] w fun e w' => Ext w w' ∧ WorkAns w.heap.size w' e p q r x (abortR l t) safe := fun k x hx hk H => by
  subst hx
  exact H.mono fun e w' ⟨h1, h2⟩ => ⟨h2, Or.inr ⟨hk, h1⟩⟩
 by_cases hz : worldErr p q r l safe = 0
 ·rw [errOf_good hz]
  by_cases hx : rollErr l t = 0
  ·exact abortOf_go p q r a cap l safe t w h hz hx
  ·exact nope _ _ (abortErr_bad hx) hx (abortOf_e p q r a cap l safe t w h hz hx)
 ·exact nope _ _ (errOf_ill hz) hz (abortOf_w p q r a cap l safe t w h hz)
end Go.Proofs.YtibfgbmhmdggmaaGreatDoor.B
