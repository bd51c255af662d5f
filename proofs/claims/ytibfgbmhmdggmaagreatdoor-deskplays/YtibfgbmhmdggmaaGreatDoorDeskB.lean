/- How a slice of records that a law is handed is opened. The contracts of the world's Check and Now, and of the reference's WorldError and NowOf. How a world that a law is handed is opened. The contracts of the reference's SameLogs and SameWorlds at worlds that are the same, of world.Begin and of the laws' lab; worldBegun answers true. -/
import Derived.Deep.Slices
import Derived.Test.YtibfgbmhmdggmaaGreatDoorDeskA
namespace Go.Proofs.YtibfgbmhmdggmaaGreatDoor.B
set_option maxHeartbeats 32000000
set_option maxRecDepth 100000
open Go.ChangeShapes Go.WideShapes Go.ChangeAt Go.RowKit
def nowOr (p q r : Pg) (l : List Rc) (safe : Int) : List Int := if worldErr p q r l safe = 0 then pagesR l else List.replicate 12 0
theorem worldErr_zero {p q r : Pg} {l : List Rc} {safe : Int} (h : worldErr p q r l safe = 0) : logErr l = 0 ∧ out 0 (l.length : Nat) [safe] = false ∧ untoldTo l safe p q r 3 = false := by
 by_cases h0 : logErr l = 0
 ·cases ho : out 0 (l.length : Nat) [safe]
  ·cases hu : untoldTo l safe p q r 3
   ·exact ⟨h0, rfl, rfl⟩
   ·rw [worldErr_disk h0 ho hu] at h; cases h
  ·rw [worldErr_safe h0 ho] at h; cases h
 ·rw [worldErr_log h0] at h; exact absurd h h0
theorem eqPg_comm (p q : Pg) : eqPg p q = eqPg q p := by
 rw [Bool.eq_iff_iff, eqPg_iff, eqPg_iff]; exact ⟨Eq.symm, Eq.symm⟩
theorem worldCheck_any (p q r : Pg) (a : Option Addr) (len cap : Nat) (l : List Rc) (safe : Int) (w : World) (h : Recs w a len l) (hnil : a = none → cap = 0) (hm : len ≤ maxLen) :
  Calls Tryz.prog 166 #[wdVal p q r (.slice a len cap) safe] w fun e w' => e = .returned (.int .i64 (worldErr p q r l safe)) ∧ Ext w w' := by
 have E0 := (Ext.refl w).alloc (.cells (wdCells p q r (.slice a len cap) safe) 38)
 have H := open_any p q r a len cap l safe (w.alloc (.cells (wdCells p q r (.slice a len cap) safe) 38)) (h.ext E0) hnil hm
 generalize worldErr p q r l safe = we at *
 go_enter Tryz.func166, Tryz.ntmps166
 go_wp2_with fail
 refine H.mono ?_
 rintro e w1 ⟨v, rfl, hE, _⟩
 go_wp2_with fail
 go_ret
 exact ⟨rfl, E0.trans hE⟩
theorem now_any (p q r : Pg) (a : Option Addr) (len cap : Nat) (l : List Rc) (safe : Int) (w : World) (h : Recs w a len l) (hnil : a = none → cap = 0) (hm : len ≤ maxLen) :
  Calls Tryz.prog 76 #[wdVal p q r (.slice a len cap) safe] w fun e w' => e = .returned (.tuple #[.agg (ints (nowOr p q r l safe)), .int .i64 (worldErr p q r l safe)]) ∧ Ext w w' := by
 have E0 := ((Ext.refl w).alloc (.cells (wdCells p q r (.slice a len cap) safe) 38)).alloc (.cells #[.int .i64 0, .int .i64 0, .int .i64 0, .int .i64 0, .int .i64 0, .int .i64 0, .int .i64 0, .int .i64 0, .int .i64 0, .int .i64 0, .int .i64 0, .int .i64 0] 35)
 have Z0 := Blk.new (w.alloc (.cells (wdCells p q r (.slice a len cap) safe) 38)) (w.heap.size + 1) #[.int .i64 0, .int .i64 0, .int .i64 0, .int .i64 0, .int .i64 0, .int .i64 0, .int .i64 0, .int .i64 0, .int .i64 0, .int .i64 0, .int .i64 0, .int .i64 0] 35 (by simp)
 have H := open_any p q r a len cap l safe ((w.alloc (.cells (wdCells p q r (.slice a len cap) safe) 38)).alloc (.cells #[.int .i64 0, .int .i64 0, .int .i64 0, .int .i64 0, .int .i64 0, .int .i64 0, .int .i64 0, .int .i64 0, .int .i64 0, .int .i64 0, .int .i64 0, .int .i64 0] 35)) (h.ext E0) hnil hm
 have HN0 : Hid (worldErr p q r l safe = 0 → nowOr p q r l safe = pagesR l) := fun h0 => by unfold nowOr; rw [if_pos h0]
 have HN1 : Hid (worldErr p q r l safe ≠ 0 → nowOr p q r l safe = List.replicate 12 0) := fun h0 => by unfold nowOr; rw [if_neg h0]
 generalize worldErr p q r l safe = we at *
 generalize nowOr p q r l safe = no at *
 go_enter Tryz.func76, Tryz.ntmps76
 go_wp2_with fail
 refine H.mono ?_
 rintro e w1 ⟨v, rfl, hE, ⟨h0, db, pb, mt, mh, tx, ho, lv, rfl, hD⟩ | ⟨h0, rfl⟩⟩
 ·subst h0
  have hno := HN0.out rfl
  subst hno
  have Z1 := Z0.ext hE
  have E1 := E0.trans hE
  have b := hD.book.blk
  obtain ⟨a0, a1, a2, a3, a4, a5, a6, a7, a8, a9, a10, a11, hps⟩ := list12 _ (pagesR_len l)
  have HP := (show Hid (pagesR l = [a0, a1, a2, a3, a4, a5, a6, a7, a8, a9, a10, a11]) from hps)
  rw [hps, bookArr_eq] at b
  have c := b.cell
  have cd := hD.blk.cell
  have c0 := Z1.cell
  have f0 := Z1.fr
  have hne : w.heap.size + 1 ≠ pb := by have := hD.book.ge; simp at this; omega
  have hne2 : w.heap.size + 1 ≠ db := by have := hD.ge; simp at this; omega
  clear hD H b hps
  go_wp2_with fail
  refine bodyPost_ret (v := .tuple #[.agg #[.int .i64 a0, .int .i64 a1, .int .i64 a2, .int .i64 a3, .int .i64 a4, .int .i64 a5, .int .i64 a6, .int .i64 a7, .int .i64 a8, .int .i64 a9, .int .i64 a10, .int .i64 a11], .int .i64 0]) (by simp [results, Tryz.results76, go_sem, c0]) rfl ⟨by rw [HP.out]; rfl, ?_⟩
  exact ((((((((((((E1.setCell (by simp) _).setCell (by simp) _).setCell (by simp) _).setCell (by simp) _).setCell (by simp) _).setCell (by simp) _).setCell (by simp) _).setCell (by simp) _).setCell (by simp) _).setCell (by simp) _).setCell (by simp) _).setCell (by simp) _)
 ·have hb : (we != 0) = true := by simpa using h0
  have hno := HN1.out h0
  subst hno
  have Z1 := Z0.ext hE
  have E1 := E0.trans hE
  have c0 := Z1.cell
  have f0 := Z1.fr
  clear H
  go_wp2_with fail
  refine bodyPost_ret (v := .tuple #[.agg #[.int .i64 0, .int .i64 0, .int .i64 0, .int .i64 0, .int .i64 0, .int .i64 0, .int .i64 0, .int .i64 0, .int .i64 0, .int .i64 0, .int .i64 0, .int .i64 0], .int .i64 we]) (by simp [results, Tryz.results76, go_sem, c0]) rfl ⟨rfl, ?_⟩
  exact ((((((((((((E1.setCell (by simp) _).setCell (by simp) _).setCell (by simp) _).setCell (by simp) _).setCell (by simp) _).setCell (by simp) _).setCell (by simp) _).setCell (by simp) _).setCell (by simp) _).setCell (by simp) _).setCell (by simp) _).setCell (by simp) _)
theorem worldError_any (p q r : Pg) (a : Option Addr) (len cap : Nat) (l : List Rc) (safe : Int) (w : World) (h : Recs w a len l) (hcap : len ≤ cap) (hm : len ≤ maxLen) :
  Calls Tryz.prog 47 #[wdVal p q r (.slice a len cap) safe] w fun e w' => e = .returned (.int .i64 (worldErr p q r l safe)) ∧ Ext w w' := by
 have E0 := (Ext.refl w).alloc (.cells (wdCells p q r (.slice a len cap) safe) 38)
 have B0 := Blk.new w w.heap.size (wdCells p q r (.slice a len cap) safe) 38 rfl
 have H := logError_any a len cap l (w.alloc (.cells (wdCells p q r (.slice a len cap) safe) 38)) (h.ext E0) hcap hm
 have hlen := h.len
 have X1 : Hid (logErr l ≠ 0 → worldErr p q r l safe = logErr l) := worldErr_log
 have X2 : Hid (logErr l = 0 → out 0 (len : Nat) [safe] = true → worldErr p q r l safe = 3) := fun h0 ho => worldErr_safe h0 (by rw [hlen]; exact ho)
 have X3 : Hid (logErr l = 0 → out 0 (len : Nat) [safe] = false → untoldTo l safe p q r 3 = true → worldErr p q r l safe = 1) := fun h0 ho hu => worldErr_disk h0 (by rw [hlen]; exact ho) hu
 have X4 : Hid (logErr l = 0 → out 0 (len : Nat) [safe] = false → untoldTo l safe p q r 3 = false → worldErr p q r l safe = 0) := fun h0 ho hu => worldErr_none h0 (by rw [hlen]; exact ho) hu
 have HLog : Hid (logErr l = 0 → len ≤ 60 ∧ Fits l) := fun h0 => ⟨by have := (logErr_zero h0).1; omega, right_fits l (logErr_zero h0).2⟩
 generalize worldErr p q r l safe = we at *
 generalize logErr l = x at *
 go_enter Tryz.func47, Tryz.ntmps47
 go_wp2_with fail
 refine H.mono ?_
 rintro e w1 ⟨rfl, hE1⟩
 have B1 := B0.ext hE1
 have E1 := E0.trans hE1
 clear H hE1 B0 E0
 have b1 := B1.cell
 by_cases h0 : x = 0
 ·subst h0
  obtain ⟨hl60, hfit⟩ := HLog.out rfl
  clear X1 HLog
  go_wp2_with fail
  refine (within_any safe 0 (len : Nat) _).mono ?_
  rintro e w2 ⟨rfl, rfl⟩
  cases hwi : wi safe 0 (len : Nat)
  ·have HO : Hid (out 0 (len : Nat) [safe] = true) := by rw [Hid, out_one, hwi]; rfl
   have hwe := X2.out (by trivial) HO.out
   subst hwe
   go_wp2_with fail
   go_ret
   exact ⟨rfl, E1⟩
  ·have HO : Hid (out 0 (len : Nat) [safe] = false) := by rw [Hid, out_one, hwi]; rfl
   have hsafe := (out1_false HO.out).2
   have hsafe0 := (out1_false HO.out).1
   clear X2
   clear hwi
   go_wp2_with fail
   clear b1
   go_loopw [4] (fun i wr => ∃ k : Nat, k ≤ 3 ∧ i = .int .i64 k ∧ Ext w2 wr ∧ untoldTo l safe p q r k = false) (fun i _ => 3 - (intOf i).toNat)
   case atStart => exact ⟨0, by omega, rfl, Ext.refl _, rfl⟩
   case round =>
    obtain ⟨k, hk, rfl, hE, hu⟩ := hrel
    have HU := (show Hid (untoldTo l safe p q r k = false) from hu)
    clear hu
    have E4 := E1.trans hE
    have b4 := (B1.ext hE).cell
    have hkc : k = 0 ∨ k = 1 ∨ k = 2 ∨ k = 3 := by omega
    rcases hkc with rfl | rfl | rfl | rfl
    ·have HN : Hid (untoldTo l safe p q r (0 + 1) = (untoldTo l safe p q r 0 || untoldB l safe 0 p)) := rfl
     have HB0 : Hid (untoldB l safe 0 p = (out 0 safe [p.last] || !eqPg p (pgAt (pagesR (l.take p.last.toNat)) 0))) := rfl
     cases hwi : wi p.last 0 safe
     ·have HB : Hid (untoldB l safe 0 p = true) := by rw [Hid, HB0.out, out_one, hwi]; rfl
      have HWI := (show Hid (wi p.last 0 safe = false) from hwi)
      go_wp2_with fail
      refine wp_region_calm (by kernel_rfl) (by kernel_rfl) (fun F hF => ?_)
      have cL := hF.cell (B1.ext hE)
      have HC1 : Hid (∀ y, Calls Tryz.prog 46 #[.int .i64 p.last, .int .i64 0, .int .i64 safe] (F y) fun e w' => e = .returned (.bool false) ∧ w' = F y) := fun y => by have hh := within_any p.last 0 safe (F y); rw [HWI.out] at hh; exact hh
      repeat (go_big_quiet_step ((go_at_call 46; exact hF.still (HC1.out _))))
      refine wpQuiet_nil ?_
      rintro _ ⟨v, rfl⟩
      have hwe := X3.out (by trivial) HO.out (by have := untoldTo_mono (k := 0 + 1) (by rw [HN.out, HB.out]; exact Bool.or_true _) 2; exact this)
      subst hwe
      go_wp2_with fail
      go_ret
      exact ⟨rfl, E4.trans (hF.ext v)⟩
     ·have hdl := out1_false (show out 0 safe [p.last] = false by rw [out_one, hwi]; rfl)
      have HB1 : Hid (untoldB l safe 0 p = !eqPg p (pgAt (pagesR (l.take p.last.toNat)) 0)) := by rw [Hid, HB0.out, out_one, hwi]; rfl
      have HWI := (show Hid (wi p.last 0 safe = true) from hwi)
      clear HB0 hwi
      obtain ⟨d0, d1, d2, dl⟩ := p
      dsimp only at hdl HB1 HWI
      obtain ⟨n, rfl⟩ : ∃ n : Nat, dl = (n : Int) := ⟨dl.toNat, by omega⟩
      rw [Int.toNat_natCast] at HB1
      have hnl : n ≤ len := by omega
      have hnc : n ≤ cap := by omega
      have HPG0 := fun w' (e : Ext w w') => pages_any a n cap (l.take n) w' ((h.ext e).take n hnl) (by omega) (fun x hx => hfit x (List.mem_of_mem_take hx))
      obtain ⟨a0, a1, a2, a3, a4, a5, a6, a7, a8, a9, a10, a11, hps⟩ := list12 _ (pagesR_len (l.take n))
      rw [hps] at HPG0
      rw [show ints [a0, a1, a2, a3, a4, a5, a6, a7, a8, a9, a10, a11] = #[.int .i64 a0, .int .i64 a1, .int .i64 a2, .int .i64 a3, .int .i64 a4, .int .i64 a5, .int .i64 a6, .int .i64 a7, .int .i64 a8, .int .i64 a9, .int .i64 a10, .int .i64 a11] from rfl] at HPG0
      have HB2 : Hid (untoldB l safe 0 ⟨d0, d1, d2, (n : Int)⟩ = !eqPg ⟨a0, a1, a2, a3⟩ ⟨d0, d1, d2, (n : Int)⟩) := by
       rw [Hid, HB1.out, hps, eqPg_comm]; rfl
      clear hps HB1
      have hix : ∀ w, (Instr.index 35 (.agg #[.int .i64 a0, .int .i64 a1, .int .i64 a2, .int .i64 a3, .int .i64 a4, .int .i64 a5, .int .i64 a6, .int .i64 a7, .int .i64 a8, .int .i64 a9, .int .i64 a10, .int .i64 a11]) (.int .i64 0)).run Tryz.prog w = .ok (.agg #[.int .i64 a0, .int .i64 a1, .int .i64 a2, .int .i64 a3]) w := fun w => by rw [index_pages _ 0 (by decide) (by decide)]; rfl
      have hnq := neq_page ⟨a0, a1, a2, a3⟩ ⟨d0, d1, d2, (n : Int)⟩
      dsimp only [Pg.val] at hnq
      dsimp only [wdCells] at b4
      go_wp2_with fail
      refine wp_region_calm (by kernel_rfl) (by kernel_rfl) (fun F hF => ?_)
      have cL := hF.cell (B1.ext hE)
      dsimp only [wdCells] at cL
      have HC1 : Hid (∀ y, Calls Tryz.prog 46 #[.int .i64 (n : Int), .int .i64 0, .int .i64 safe] (F y) fun e w' => e = .returned (.bool true) ∧ w' = F y) := fun y => by have hh := within_any (n : Int) 0 safe (F y); rw [HWI.out] at hh; exact hh
      have HC2 : Hid (∀ y, Calls Tryz.prog 25 #[.slice a n cap] (F y) fun e w' => e = .returned (.agg #[.int .i64 a0, .int .i64 a1, .int .i64 a2, .int .i64 a3, .int .i64 a4, .int .i64 a5, .int .i64 a6, .int .i64 a7, .int .i64 a8, .int .i64 a9, .int .i64 a10, .int .i64 a11]) ∧ Ext (F y) w') := fun y => HPG0 (F y) (E4.trans (hF.ext y))
      repeat (go_big_quiet_step (first | (go_at_call 46; exact hF.still (HC1.out _)) | (go_at_call 25; exact hF.call (HC2.out _))))
      refine wpQuiet_nil ?_
      rintro _ ⟨v, rfl⟩
      cases hq : eqPg ⟨a0, a1, a2, a3⟩ ⟨d0, d1, d2, (n : Int)⟩
      ·have HB : Hid (untoldB l safe 0 ⟨d0, d1, d2, (n : Int)⟩ = true) := by rw [Hid, HB2.out, hq]; rfl
       have hwe := X3.out (by trivial) HO.out (by have := untoldTo_mono (k := 0 + 1) (by rw [HN.out, HB.out]; exact Bool.or_true _) 2; exact this)
       subst hwe
       go_wp2_with fail
       go_ret
       exact ⟨rfl, E4.trans (hF.ext v)⟩
      ·have HB : Hid (untoldB l safe 0 ⟨d0, d1, d2, (n : Int)⟩ = false) := by rw [Hid, HB2.out, hq]; rfl
       go_wp2_with fail
       go_roundw
       case rel => exact ⟨0 + 1, by omega, by go_num, hE.trans (hF.ext v), by rw [HN.out, HU.out, HB.out]; rfl⟩
       case measure => simp [intOf]
    ·have HN : Hid (untoldTo l safe p q r (1 + 1) = (untoldTo l safe p q r 1 || untoldB l safe 1 q)) := rfl
     have HB0 : Hid (untoldB l safe 1 q = (out 0 safe [q.last] || !eqPg q (pgAt (pagesR (l.take q.last.toNat)) 1))) := rfl
     cases hwi : wi q.last 0 safe
     ·have HB : Hid (untoldB l safe 1 q = true) := by rw [Hid, HB0.out, out_one, hwi]; rfl
      have HWI := (show Hid (wi q.last 0 safe = false) from hwi)
      go_wp2_with fail
      refine wp_region_calm (by kernel_rfl) (by kernel_rfl) (fun F hF => ?_)
      have cL := hF.cell (B1.ext hE)
      have HC1 : Hid (∀ y, Calls Tryz.prog 46 #[.int .i64 q.last, .int .i64 0, .int .i64 safe] (F y) fun e w' => e = .returned (.bool false) ∧ w' = F y) := fun y => by have hh := within_any q.last 0 safe (F y); rw [HWI.out] at hh; exact hh
      repeat (go_big_quiet_step ((go_at_call 46; exact hF.still (HC1.out _))))
      refine wpQuiet_nil ?_
      rintro _ ⟨v, rfl⟩
      have hwe := X3.out (by trivial) HO.out (by have := untoldTo_mono (k := 1 + 1) (by rw [HN.out, HB.out]; exact Bool.or_true _) 1; exact this)
      subst hwe
      go_wp2_with fail
      go_ret
      exact ⟨rfl, E4.trans (hF.ext v)⟩
     ·have hdl := out1_false (show out 0 safe [q.last] = false by rw [out_one, hwi]; rfl)
      have HB1 : Hid (untoldB l safe 1 q = !eqPg q (pgAt (pagesR (l.take q.last.toNat)) 1)) := by rw [Hid, HB0.out, out_one, hwi]; rfl
      have HWI := (show Hid (wi q.last 0 safe = true) from hwi)
      clear HB0 hwi
      obtain ⟨d0, d1, d2, dl⟩ := q
      dsimp only at hdl HB1 HWI
      obtain ⟨n, rfl⟩ : ∃ n : Nat, dl = (n : Int) := ⟨dl.toNat, by omega⟩
      rw [Int.toNat_natCast] at HB1
      have hnl : n ≤ len := by omega
      have hnc : n ≤ cap := by omega
      have HPG0 := fun w' (e : Ext w w') => pages_any a n cap (l.take n) w' ((h.ext e).take n hnl) (by omega) (fun x hx => hfit x (List.mem_of_mem_take hx))
      obtain ⟨a0, a1, a2, a3, a4, a5, a6, a7, a8, a9, a10, a11, hps⟩ := list12 _ (pagesR_len (l.take n))
      rw [hps] at HPG0
      rw [show ints [a0, a1, a2, a3, a4, a5, a6, a7, a8, a9, a10, a11] = #[.int .i64 a0, .int .i64 a1, .int .i64 a2, .int .i64 a3, .int .i64 a4, .int .i64 a5, .int .i64 a6, .int .i64 a7, .int .i64 a8, .int .i64 a9, .int .i64 a10, .int .i64 a11] from rfl] at HPG0
      have HB2 : Hid (untoldB l safe 1 ⟨d0, d1, d2, (n : Int)⟩ = !eqPg ⟨a4, a5, a6, a7⟩ ⟨d0, d1, d2, (n : Int)⟩) := by
       rw [Hid, HB1.out, hps, eqPg_comm]; rfl
      clear hps HB1
      have hix : ∀ w, (Instr.index 35 (.agg #[.int .i64 a0, .int .i64 a1, .int .i64 a2, .int .i64 a3, .int .i64 a4, .int .i64 a5, .int .i64 a6, .int .i64 a7, .int .i64 a8, .int .i64 a9, .int .i64 a10, .int .i64 a11]) (.int .i64 1)).run Tryz.prog w = .ok (.agg #[.int .i64 a4, .int .i64 a5, .int .i64 a6, .int .i64 a7]) w := fun w => by rw [index_pages _ 1 (by decide) (by decide)]; rfl
      have hnq := neq_page ⟨a4, a5, a6, a7⟩ ⟨d0, d1, d2, (n : Int)⟩
      dsimp only [Pg.val] at hnq
      dsimp only [wdCells] at b4
      go_wp2_with fail
      refine wp_region_calm (by kernel_rfl) (by kernel_rfl) (fun F hF => ?_)
      have cL := hF.cell (B1.ext hE)
      dsimp only [wdCells] at cL
      have HC1 : Hid (∀ y, Calls Tryz.prog 46 #[.int .i64 (n : Int), .int .i64 0, .int .i64 safe] (F y) fun e w' => e = .returned (.bool true) ∧ w' = F y) := fun y => by have hh := within_any (n : Int) 0 safe (F y); rw [HWI.out] at hh; exact hh
      have HC2 : Hid (∀ y, Calls Tryz.prog 25 #[.slice a n cap] (F y) fun e w' => e = .returned (.agg #[.int .i64 a0, .int .i64 a1, .int .i64 a2, .int .i64 a3, .int .i64 a4, .int .i64 a5, .int .i64 a6, .int .i64 a7, .int .i64 a8, .int .i64 a9, .int .i64 a10, .int .i64 a11]) ∧ Ext (F y) w') := fun y => HPG0 (F y) (E4.trans (hF.ext y))
      repeat (go_big_quiet_step (first | (go_at_call 46; exact hF.still (HC1.out _)) | (go_at_call 25; exact hF.call (HC2.out _))))
      refine wpQuiet_nil ?_
      rintro _ ⟨v, rfl⟩
      cases hq : eqPg ⟨a4, a5, a6, a7⟩ ⟨d0, d1, d2, (n : Int)⟩
      ·have HB : Hid (untoldB l safe 1 ⟨d0, d1, d2, (n : Int)⟩ = true) := by rw [Hid, HB2.out, hq]; rfl
       have hwe := X3.out (by trivial) HO.out (by have := untoldTo_mono (k := 1 + 1) (by rw [HN.out, HB.out]; exact Bool.or_true _) 1; exact this)
       subst hwe
       go_wp2_with fail
       go_ret
       exact ⟨rfl, E4.trans (hF.ext v)⟩
      ·have HB : Hid (untoldB l safe 1 ⟨d0, d1, d2, (n : Int)⟩ = false) := by rw [Hid, HB2.out, hq]; rfl
       go_wp2_with fail
       go_roundw
       case rel => exact ⟨1 + 1, by omega, by go_num, hE.trans (hF.ext v), by rw [HN.out, HU.out, HB.out]; rfl⟩
       case measure => simp [intOf]
    ·have HN : Hid (untoldTo l safe p q r (2 + 1) = (untoldTo l safe p q r 2 || untoldB l safe 2 r)) := rfl
     have HB0 : Hid (untoldB l safe 2 r = (out 0 safe [r.last] || !eqPg r (pgAt (pagesR (l.take r.last.toNat)) 2))) := rfl
     cases hwi : wi r.last 0 safe
     ·have HB : Hid (untoldB l safe 2 r = true) := by rw [Hid, HB0.out, out_one, hwi]; rfl
      have HWI := (show Hid (wi r.last 0 safe = false) from hwi)
      go_wp2_with fail
      refine wp_region_calm (by kernel_rfl) (by kernel_rfl) (fun F hF => ?_)
      have cL := hF.cell (B1.ext hE)
      have HC1 : Hid (∀ y, Calls Tryz.prog 46 #[.int .i64 r.last, .int .i64 0, .int .i64 safe] (F y) fun e w' => e = .returned (.bool false) ∧ w' = F y) := fun y => by have hh := within_any r.last 0 safe (F y); rw [HWI.out] at hh; exact hh
      repeat (go_big_quiet_step ((go_at_call 46; exact hF.still (HC1.out _))))
      refine wpQuiet_nil ?_
      rintro _ ⟨v, rfl⟩
      have hwe := X3.out (by trivial) HO.out (by have := untoldTo_mono (k := 2 + 1) (by rw [HN.out, HB.out]; exact Bool.or_true _) 0; exact this)
      subst hwe
      go_wp2_with fail
      go_ret
      exact ⟨rfl, E4.trans (hF.ext v)⟩
     ·have hdl := out1_false (show out 0 safe [r.last] = false by rw [out_one, hwi]; rfl)
      have HB1 : Hid (untoldB l safe 2 r = !eqPg r (pgAt (pagesR (l.take r.last.toNat)) 2)) := by rw [Hid, HB0.out, out_one, hwi]; rfl
      have HWI := (show Hid (wi r.last 0 safe = true) from hwi)
      clear HB0 hwi
      obtain ⟨d0, d1, d2, dl⟩ := r
      dsimp only at hdl HB1 HWI
      obtain ⟨n, rfl⟩ : ∃ n : Nat, dl = (n : Int) := ⟨dl.toNat, by omega⟩
      rw [Int.toNat_natCast] at HB1
      have hnl : n ≤ len := by omega
      have hnc : n ≤ cap := by omega
      have HPG0 := fun w' (e : Ext w w') => pages_any a n cap (l.take n) w' ((h.ext e).take n hnl) (by omega) (fun x hx => hfit x (List.mem_of_mem_take hx))
      obtain ⟨a0, a1, a2, a3, a4, a5, a6, a7, a8, a9, a10, a11, hps⟩ := list12 _ (pagesR_len (l.take n))
      rw [hps] at HPG0
      rw [show ints [a0, a1, a2, a3, a4, a5, a6, a7, a8, a9, a10, a11] = #[.int .i64 a0, .int .i64 a1, .int .i64 a2, .int .i64 a3, .int .i64 a4, .int .i64 a5, .int .i64 a6, .int .i64 a7, .int .i64 a8, .int .i64 a9, .int .i64 a10, .int .i64 a11] from rfl] at HPG0
      have HB2 : Hid (untoldB l safe 2 ⟨d0, d1, d2, (n : Int)⟩ = !eqPg ⟨a8, a9, a10, a11⟩ ⟨d0, d1, d2, (n : Int)⟩) := by
       rw [Hid, HB1.out, hps, eqPg_comm]; rfl
      clear hps HB1
      have hix : ∀ w, (Instr.index 35 (.agg #[.int .i64 a0, .int .i64 a1, .int .i64 a2, .int .i64 a3, .int .i64 a4, .int .i64 a5, .int .i64 a6, .int .i64 a7, .int .i64 a8, .int .i64 a9, .int .i64 a10, .int .i64 a11]) (.int .i64 2)).run Tryz.prog w = .ok (.agg #[.int .i64 a8, .int .i64 a9, .int .i64 a10, .int .i64 a11]) w := fun w => by rw [index_pages _ 2 (by decide) (by decide)]; rfl
      have hnq := neq_page ⟨a8, a9, a10, a11⟩ ⟨d0, d1, d2, (n : Int)⟩
      dsimp only [Pg.val] at hnq
      dsimp only [wdCells] at b4
      go_wp2_with fail
      refine wp_region_calm (by kernel_rfl) (by kernel_rfl) (fun F hF => ?_)
      have cL := hF.cell (B1.ext hE)
      dsimp only [wdCells] at cL
      have HC1 : Hid (∀ y, Calls Tryz.prog 46 #[.int .i64 (n : Int), .int .i64 0, .int .i64 safe] (F y) fun e w' => e = .returned (.bool true) ∧ w' = F y) := fun y => by have hh := within_any (n : Int) 0 safe (F y); rw [HWI.out] at hh; exact hh
      have HC2 : Hid (∀ y, Calls Tryz.prog 25 #[.slice a n cap] (F y) fun e w' => e = .returned (.agg #[.int .i64 a0, .int .i64 a1, .int .i64 a2, .int .i64 a3, .int .i64 a4, .int .i64 a5, .int .i64 a6, .int .i64 a7, .int .i64 a8, .int .i64 a9, .int .i64 a10, .int .i64 a11]) ∧ Ext (F y) w') := fun y => HPG0 (F y) (E4.trans (hF.ext y))
      repeat (go_big_quiet_step (first | (go_at_call 46; exact hF.still (HC1.out _)) | (go_at_call 25; exact hF.call (HC2.out _))))
      refine wpQuiet_nil ?_
      rintro _ ⟨v, rfl⟩
      cases hq : eqPg ⟨a8, a9, a10, a11⟩ ⟨d0, d1, d2, (n : Int)⟩
      ·have HB : Hid (untoldB l safe 2 ⟨d0, d1, d2, (n : Int)⟩ = true) := by rw [Hid, HB2.out, hq]; rfl
       have hwe := X3.out (by trivial) HO.out (by have := untoldTo_mono (k := 2 + 1) (by rw [HN.out, HB.out]; exact Bool.or_true _) 0; exact this)
       subst hwe
       go_wp2_with fail
       go_ret
       exact ⟨rfl, E4.trans (hF.ext v)⟩
      ·have HB : Hid (untoldB l safe 2 ⟨d0, d1, d2, (n : Int)⟩ = false) := by rw [Hid, HB2.out, hq]; rfl
       go_wp2_with fail
       go_roundw
       case rel => exact ⟨2 + 1, by omega, by go_num, hE.trans (hF.ext v), by rw [HN.out, HU.out, HB.out]; rfl⟩
       case measure => simp [intOf]
    ·have hwe := X4.out (by trivial) HO.out HU.out
     subst hwe
     go_wp2_with fail
     go_ret
     exact ⟨rfl, E4⟩
 ·have hb : (x != 0) = true := by simpa using h0
  have hwe := X1.out h0
  subst hwe
  go_wp2_with fail
  go_ret
  exact ⟨rfl, E1⟩
theorem size14 {α : Type} {cs : Array α} (h : cs.size = 14) : ∃ a0 a1 a2 a3 a4 a5 a6 a7 a8 a9 a10 a11 a12 a13, cs = #[a0, a1, a2, a3, a4, a5, a6, a7, a8, a9, a10, a11, a12, a13] := by
 obtain ⟨l⟩ := cs
 match l, h with
 | [a0, a1, a2, a3, a4, a5, a6, a7, a8, a9, a10, a11, a12, a13], _ => exact ⟨a0, a1, a2, a3, a4, a5, a6, a7, a8, a9, a10, a11, a12, a13, rfl⟩
structure LogIn (W : World) (a : Option Addr) (len cap : Nat) (l : List Rc) : Prop where
 recs : Recs W a len l
 le : len ≤ cap
 max : len ≤ maxLen
 nil : a = none → cap = 0
 fr : ∀ ad, a = some ad → ∀ i, i < len * 8 → W.frozen? ⟨ad.block, ad.off + i, none⟩ = false
theorem Recs.lt {W : World} {a : Option Addr} {len : Nat} {l : List Rc} (h : Recs W a len l) (hl : 0 < len) : ∀ ad, a = some ad → ad.block < W.heap.size := by
 intro ad e
 obtain ⟨b, off, ha, hk, hr⟩ := h.at hl
 rw [ha] at e
 obtain rfl := Option.some.inj e
 exact cell_lt hr.1
theorem frozen_at {W W' : World} {b : Nat} (h : W'.heap[b]? = W.heap[b]?) (o : Nat) : W'.frozen? ⟨b, o, none⟩ = W.frozen? ⟨b, o, none⟩ := by simp only [World.frozen?, h]
theorem LogIn.ext {W W' : World} {a : Option Addr} {len cap : Nat} {l : List Rc} (h : LogIn W a len cap l) (e : Ext W W') : LogIn W' a len cap l :=
 ⟨h.recs.ext e, h.le, h.max, h.nil, fun ad ha i hi => (frozen_at (e.block _ (h.recs.lt (by omega) ad ha)) _).trans (h.fr ad ha i hi)⟩
abbrev zPg : Pg := ⟨0, 0, 0, 0⟩
theorem begin_any (w : World) : Calls Tryz.prog 10 #[] w fun e w' => e = .returned (wdVal zPg zPg zPg (.slice none 0 0) 0) ∧ Ext w w' := by
 have Z := Blk.new w w.heap.size (wdCells zPg zPg zPg (.slice none 0 0) 0) 38 rfl
 have c0 := Z.cell
 have f0 := Z.fr
 have E1 := (Ext.refl w).alloc (.cells (wdCells zPg zPg zPg (.slice none 0 0) 0) 38)
 go_enter Tryz.func10, Tryz.ntmps10
 go_wp2_with fail
 refine bodyPost_ret (v := .agg (wdCells zPg zPg zPg (.slice none 0 0) 0)) (by simp [results, Tryz.results10, go_sem, c0]) rfl ⟨rfl, ?_⟩
 exact E1
theorem recs_none (w : World) : Recs w none 0 [] := ⟨rfl, Or.inl ⟨rfl, rfl⟩⟩
end Go.Proofs.YtibfgbmhmdggmaaGreatDoor.B
