/- The contracts of the reference's next and mended. -/
import Derived.Test.YtibfgbmhmdggmaaGreatDoorRollB
import Derived.Test.YtibfgbmhmdggmaaGreatDoorAnsB
namespace Go.Proofs.YtibfgbmhmdggmaaGreatDoor.B
set_option maxHeartbeats 32000000
set_option maxRecDepth 100000
open Go.ChangeShapes Go.WideShapes Go.ChangeAt Go.RowKit
abbrev vals12 (p q r : Pg) : Array Value := #[.int .i64 p.c0, .int .i64 p.c1, .int .i64 p.c2, .int .i64 p.last, .int .i64 q.c0, .int .i64 q.c1, .int .i64 q.c2, .int .i64 q.last, .int .i64 r.c0, .int .i64 r.c1, .int .i64 r.c2, .int .i64 r.last]
abbrev put8 (w : World) (b : Nat) (x0 x1 x2 x3 x4 x5 x6 x7 : Value) : World := ((((((((w.setCell ⟨b, 0, none⟩ x0).setCell ⟨b, 1, none⟩ x1).setCell ⟨b, 2, none⟩ x2).setCell ⟨b, 3, none⟩ x3).setCell ⟨b, 4, none⟩ x4).setCell ⟨b, 5, none⟩ x5).setCell ⟨b, 6, none⟩ x6).setCell ⟨b, 7, none⟩ x7)
theorem put8_ext {a w : World} (h : Ext a w) (b : Nat) (hb : a.heap.size ≤ b) (x0 x1 x2 x3 x4 x5 x6 x7 : Value) : Ext a (put8 w b x0 x1 x2 x3 x4 x5 x6 x7) := ((((((((h.setCell (p := ⟨b, 0, none⟩) hb x0).setCell (p := ⟨b, 1, none⟩) hb x1).setCell (p := ⟨b, 2, none⟩) hb x2).setCell (p := ⟨b, 3, none⟩) hb x3).setCell (p := ⟨b, 4, none⟩) hb x4).setCell (p := ⟨b, 5, none⟩) hb x5).setCell (p := ⟨b, 6, none⟩) hb x6).setCell (p := ⟨b, 7, none⟩) hb x7)
theorem put8_blk {w : World} {b : Nat} {y0 y1 y2 y3 y4 y5 y6 y7 : Value} {t : TypeId} (h : Blk w b #[y0, y1, y2, y3, y4, y5, y6, y7] t) (x0 x1 x2 x3 x4 x5 x6 x7 : Value) : Blk (put8 w b x0 x1 x2 x3 x4 x5 x6 x7) b #[x0, x1, x2, x3, x4, x5, x6, x7] t := by
 have h2 := ((((((((h.set 0 x0).set 1 x1).set 2 x2).set 3 x3).set 4 x4).set 5 x5).set 6 x6).set 7 x7)
 simpa using h2
theorem first_at {l : List Rc} {k : Nat} (hk : k < 9) (h0 : ofState [2] (stateR l) k = []) (hs : stateR l (1 + (k : Int)) = 2) : firstR l = 1 + (k : Int) := by
 rw [Int.add_comm] at hs ⊢
 have hc : [2].contains (stateR l ((k : Int) + 1)) = true := by rw [hs]; rfl
 exact (firstR_some hk hc (by rw [ofState_succ, h0, hc, if_pos rfl]; rfl)).1
theorem first_next {l : List Rc} {k : Nat} (h0 : ofState [2] (stateR l) k = []) (hs : ¬ stateR l (1 + (k : Int)) = 2) : ofState [2] (stateR l) (k + 1) = [] := by
 rw [Int.add_comm] at hs
 rw [ofState_succ, h0, if_neg (by simpa using fun h => hs h)]
theorem refNext_any (a : Option Addr) (len cap : Nat) (l : List Rc) (w : World) (h : Recs w a len l) (hl : len ≤ 60) (hR : Right l) :
  Calls Tryz.prog 86 #[.slice a len cap] w fun e w' => e = .returned (.tuple #[(nextAns l).val, .bool (isNext l)]) ∧ Ext w w' := by
 have E0 := (Ext.refl w).alloc (.cells #[.int .i64 0, .int .i64 0, .int .i64 0, .int .i64 0, .int .i64 0, .int .i64 0, .int .i64 0, .int .i64 0] 81)
 have B0 := Blk.new w w.heap.size #[.int .i64 0, .int .i64 0, .int .i64 0, .int .i64 0, .int .i64 0, .int .i64 0, .int .i64 0, .int .i64 0] 81 rfl
 have XF : Hid (firstR l ≠ 0 → isNext l = true ∧ nextAns l = endOf l (firstR l)) := next_first
 have XB : Hid (firstR l = 0 → bestR l ≠ 0 → isNext l = true ∧ nextAns l = rollRec l (bestR l)) := next_best
 have XN : Hid (firstR l = 0 → bestR l = 0 → isNext l = false ∧ nextAns l = zRc) := next_none
 have HBM : Hid (bestR l ≠ 0 → stateR l (bestR l) ≠ 4) := fun hb => by have := (bestR_mem hb).2; omega
 have HB : Hid (bestOf l (losersR l) = bestR l) := rfl
 have HL := fun W (e : Ext w W) => refLosers_any a len cap l W (h.ext e) (by omega)
 generalize nextAns l = na at *
 generalize isNext l = isn at *
 have hcap : ∀ k : Nat, k ≤ 9 → (1 + (k : Int)) ≤ 10 := fun k hk => by omega
 have hlo : (losersR l).length ≤ 9 := Nat.le_trans (List.length_filter_le _ _) (by decide)
 generalize losersR l = lo at *
 go_enter Tryz.func86, Tryz.ntmps86
 go_wp2_with fail
 generalize w.alloc (.cells #[.int .i64 0, .int .i64 0, .int .i64 0, .int .i64 0, .int .i64 0, .int .i64 0, .int .i64 0, .int .i64 0] 81) = w0 at *
 obtain ⟨b, hb⟩ : ∃ b, w.heap.size = b := ⟨_, rfl⟩
 rw [hb] at B0 ⊢
 go_loopw [4] (fun i wr => ∃ k : Nat, k ≤ 9 ∧ i = .int .i64 (1 + (k : Int)) ∧ wr = w0 ∧ Hid (ofState [2] (stateR l) k = [])) (fun i _ => 10 - (intOf i).toNat)
 case atStart => exact ⟨0, by omega, rfl, rfl, rfl⟩
 case round =>
  obtain ⟨k, hk, rfl, rfl, HO⟩ := hrel
  by_cases hlt : k < 9
  ·have i1 : (1 + (k : Int)) ≤ 9 := by omega
   by_cases hs : stateR l (1 + (k : Int)) = 2
   ·have hf := first_at hlt HO.out hs
    have HF : Hid (isn = true ∧ na = endOf l (1 + (k : Int))) := by have := XF.out (by rw [hf]; omega); rw [hf] at this; exact this
    have HS := state_any a len cap l (1 + (k : Int)) wr (h.ext E0) (by omega)
    rw [hs] at HS
    have bc := B0.cell
    have bf := B0.fr
    clear XF XB XN HBM HB HL HO hf hs
    go_wp2_with fail
    refine HS.mono ?_
    rintro e w1 ⟨rfl, rfl⟩
    go_wp2_with fail
    refine (last_any a len cap l (1 + (k : Int)) _ (h.ext E0) (by omega)).mono ?_
    rintro e w1 ⟨rfl, rfl⟩
    have n_ := (put8_blk B0 (.int .i64 4) (.int .i64 (1 + (k : Int))) (.int .i64 (lastR l (1 + (k : Int)) : Nat)) (.int .i64 0) (.int .i64 0) (.int .i64 0) (.int .i64 0) (.int .i64 0)).cell
    have hE_ := put8_ext E0 b (Nat.le_of_eq hb) (.int .i64 4) (.int .i64 (1 + (k : Int))) (.int .i64 (lastR l (1 + (k : Int)) : Nat)) (.int .i64 0) (.int .i64 0) (.int .i64 0) (.int .i64 0) (.int .i64 0)
    go_wp2_with fail
    refine bodyPost_ret (v := .tuple #[.agg #[.int .i64 4, .int .i64 (1 + (k : Int)), .int .i64 (lastR l (1 + (k : Int)) : Nat), .int .i64 0, .int .i64 0, .int .i64 0, .int .i64 0, .int .i64 0], .bool true]) (by simp [results, Tryz.results86, go_sem, n_]) rfl ⟨by rw [HF.out.1, HF.out.2] <;> rfl, hE_⟩
   ·have HO2 : Hid (ofState [2] (stateR l) (k + 1) = []) := first_next HO.out hs
    have HS := state_any a len cap l (1 + (k : Int)) wr (h.ext E0) (by omega)
    generalize stateR l (1 + (k : Int)) = s at *
    have hbf : (s == 2) = false := by simpa using hs
    clear XF XB XN HBM HB HL HO
    go_wp2_with fail
    refine HS.mono ?_
    rintro e w1 ⟨rfl, rfl⟩
    go_wp2_with fail
    go_roundw
    case rel => exact ⟨k + 1, by omega, by go_num, trivial, HO2⟩
    case measure => simp [intOf]; omega
  ·obtain rfl : k = 9 := by omega
   have hf := firstR_none HO.out
   clear XF
   go_wp2_with fail
   refine (HL _ E0).mono ?_
   rintro e w3 ⟨a3, cap3, rfl, hc3, hI, hw⟩
   have E3 := E0.trans hw
   have B3 := B0.ext hw
   clear hw HL E0 B0
   go_wp2_with fail
   go_loopw [5, 24] (fun d i wq => ∃ j : Nat, j ≤ lo.length ∧ i = .int .i64 j ∧ d = .int .i64 (bestOf l (lo.take j)) ∧ wq = w3) (fun _ i _ => lo.length - (intOf i).toNat)
   case atStart => exact ⟨0, Nat.zero_le _, rfl, rfl, rfl⟩
   case round =>
    obtain ⟨j, hj, rfl, rfl, rfl⟩ := hrel
    by_cases hjl : j < lo.length
    ·obtain ⟨bl, rfl, hcl⟩ := hI.at hjl
     have i1 : ((j : Int) < (lo.length : Int)) := by omega
     have HNx : Hid (bestOf l (lo.take (j + 1)) = betterR l (bestOf l (lo.take j)) lo[j]) := by rw [Hid, List.take_succ_eq_append_getElem hjl, bestOf_snoc]
     generalize lo[j] = t at *
     generalize bestOf l (lo.take j) = bb at *
     have HLa := fun t => last_any a len cap l t wr (h.ext E3) (by omega)
     clear XB XN HBM HB
     by_cases hb0 : bb = 0
     ·subst hb0
      have HNy : Hid (bestOf l (lo.take (j + 1)) = t) := by rw [Hid, HNx.out]; unfold betterR; rw [if_pos (Or.inl rfl)]
      clear HNx
      go_wp2_with fail
      go_roundw
      case rel => exact ⟨j + 1, by omega, by go_num, by rw [HNy.out], trivial⟩
      case measure => simp [intOf]; omega
     ·have hbf : (bb == 0) = false := by simpa using hb0
      have HLb := HLa bb
      have HLt := HLa t
      have HNy : Hid (bestOf l (lo.take (j + 1)) = if lastR l bb < lastR l t then t else bb) := by rw [Hid, HNx.out]; unfold betterR; simp [hb0]
      clear HNx HLa
      generalize lastR l bb = lb at *
      generalize lastR l t = lt at *
      by_cases hlt : lb < lt
      ·have i2 : ((lb : Int) < (lt : Int)) := by omega
       have HNz : Hid (bestOf l (lo.take (j + 1)) = t) := by rw [Hid, HNy.out, if_pos hlt]
       clear HNy
       go_wp2_with fail
       refine HLt.mono ?_
       rintro e w4 ⟨rfl, rfl⟩
       go_wp2_with fail
       refine HLb.mono ?_
       rintro e w4 ⟨rfl, rfl⟩
       go_wp2_with fail
       go_roundw
       case rel => exact ⟨j + 1, by omega, by go_num, by rw [HNz.out], trivial⟩
       case measure => simp [intOf]; omega
      ·have i2 : ¬ ((lb : Int) < (lt : Int)) := by omega
       have HNz : Hid (bestOf l (lo.take (j + 1)) = bb) := by rw [Hid, HNy.out, if_neg hlt]
       clear HNy
       go_wp2_with fail
       refine HLt.mono ?_
       rintro e w4 ⟨rfl, rfl⟩
       go_wp2_with fail
       refine HLb.mono ?_
       rintro e w4 ⟨rfl, rfl⟩
       go_wp2_with fail
       go_roundw
       case rel => exact ⟨j + 1, by omega, by go_num, by rw [HNz.out], trivial⟩
       case measure => simp [intOf]; omega
    ·obtain rfl : j = lo.length := by omega
     rw [List.take_length, HB.out]
     have bc := B3.cell
     have bf := B3.fr
     by_cases hbz : bestR l = 0
     ·have HF := (show Hid (isn = false ∧ na = zRc) from XN.out hf hbz)
      rw [hbz]
      clear XB XN HBM HB
      have n_ := (put8_blk B3 (.int .i64 0) (.int .i64 0) (.int .i64 0) (.int .i64 0) (.int .i64 0) (.int .i64 0) (.int .i64 0) (.int .i64 0)).cell
      have hE_ := put8_ext E3 b (Nat.le_of_eq hb) (.int .i64 0) (.int .i64 0) (.int .i64 0) (.int .i64 0) (.int .i64 0) (.int .i64 0) (.int .i64 0) (.int .i64 0)
      go_wp2_with fail
      refine bodyPost_ret (v := .tuple #[.agg #[.int .i64 0, .int .i64 0, .int .i64 0, .int .i64 0, .int .i64 0, .int .i64 0, .int .i64 0, .int .i64 0], .bool false]) (by simp [results, Tryz.results86, go_sem, n_]) rfl ⟨by rw [HF.out.1, HF.out.2] <;> rfl, hE_⟩
     ·have HF := (show Hid (isn = true ∧ na = rollRec l (bestR l)) from XB.out hf hbz)
      have HRo := rolled_any a len cap l (bestR l) wr (h.ext E3) hl hR (HBM.out hbz)
      generalize rollRec l (bestR l) = rr at *
      obtain ⟨r0, r1, r2, r3, r4, r5, r6, r7⟩ := rr
      generalize bestR l = br at *
      have hbf : (br == 0) = false := by simpa using hbz
      clear XB XN HBM HB
      go_wp2_with fail
      refine HRo.mono ?_
      rintro e w4 ⟨rfl, hw⟩
      have E4 := E3.trans hw
      have bc := (B3.ext hw).cell
      have bf := (B3.ext hw).fr
      have n_ := (put8_blk (B3.ext hw) (.int .i64 r0) (.int .i64 r1) (.int .i64 r2) (.int .i64 r3) (.int .i64 r4) (.int .i64 r5) (.int .i64 r6) (.int .i64 r7)).cell
      have hE_ := put8_ext E4 b (Nat.le_of_eq hb) (.int .i64 r0) (.int .i64 r1) (.int .i64 r2) (.int .i64 r3) (.int .i64 r4) (.int .i64 r5) (.int .i64 r6) (.int .i64 r7)
      go_wp2_with fail
      refine bodyPost_ret (v := .tuple #[.agg #[.int .i64 r0, .int .i64 r1, .int .i64 r2, .int .i64 r3, .int .i64 r4, .int .i64 r5, .int .i64 r6, .int .i64 r7], .bool true]) (by simp [results, Tryz.results86, go_sem, n_]) rfl ⟨by rw [HF.out.1, HF.out.2] <;> rfl, hE_⟩
theorem link_next {m : List Rc} (h : isNext m = true) : linkR m (nextAns m) = nextAns m := by
 unfold nextAns mendRec
 rw [h, if_pos rfl]
 split
 ·exact linkR_roll _ _
 ·rfl
abbrev noEnd : Nat := (9223372036854775807 : Int).toNat
theorem all_stop {c : List Rc} (hR : Right c) {k : Nat} {m : List Rc} (h : MendAt c noEnd k m) (hs : isNext m = false) : mendErr c = 0 ∧ needR c = k ∧ mendR c = m := by
 obtain ⟨h1, h2, h3⟩ := h.stop (Or.inl hs)
 obtain ⟨g1, g2, g3⟩ := all_half hR
 have e0 : mendErr c = 0 := by rw [← g1]; exact h1
 refine ⟨e0, ?_, by rw [← g3 e0]; exact h3⟩
 have : allNum c = needR c := by unfold allNum; rw [if_pos e0]
 rw [← this, ← g2]; exact h2
theorem all_under {c : List Rc} (hR : Right c) {k : Nat} {m : List Rc} (h : MendAt c noEnd k m) (hs : isNext m = true) : k < needR c ∧ k < noEnd := by
 have h1 := h.need
 have h2 : needR m ≠ 0 := fun e => by rw [need_zero.1 e] at hs; cases hs
 have h3 := needR_le c hR
 have h4 : noEnd = 9223372036854775807 := rfl
 constructor <;> omega
theorem all_many {c : List Rc} (hR : Right c) {k : Nat} {m : List Rc} (h : MendAt c noEnd k m) (hs : isNext m = true) (h60 : 60 ≤ m.length) : mendErr c = 2 := by
 obtain ⟨g1, _, _⟩ := all_half hR
 rw [← g1]; exact (h.many hs (all_under hR h hs).2 h60).1
theorem all_next {c : List Rc} (hR : Right c) {k : Nat} {m : List Rc} (h : MendAt c noEnd k m) (hs : isNext m = true) (h60 : m.length < 60) : MendAt c noEnd (k + 1) (m ++ [nextAns m]) := by
 have : nextAns m = mendRec m := by unfold nextAns; rw [hs, if_pos rfl]
 rw [this]; exact (h.next hs (all_under hR h hs).2 h60).1
theorem refMended_no (p q r : Pg) (a : Option Addr) (len cap : Nat) (l : List Rc) (safe : Int) (w : World) (h : LogIn w a len cap l) (hz : ¬ worldErr p q r l safe = 0) :
  Calls Tryz.prog 42 #[wdVal p q r (.slice a len cap) safe, .int .i64 (-1), .agg #[.bool true, .bool true, .bool true]] w fun e w' => Ext w w' ∧ e = .returned (.tuple #[wdVal noPg noPg noPg (.slice none 0 0) 0, .int .i64 0, .int .i64 (worldErr p q r l safe)]) := by
 have E0 := (((Ext.refl w).alloc (.cells (wdCells p q r (.slice a len cap) safe) 38)).alloc (.cells #[.bool true, .bool true, .bool true] 78)).alloc (.cells (wdCells noPg noPg noPg (.slice none 0 0) 0) 38)
 have B0 := ((Blk.new w w.heap.size (wdCells p q r (.slice a len cap) safe) 38 rfl).alloc (.cells #[.bool true, .bool true, .bool true] 78)).alloc (.cells (wdCells noPg noPg noPg (.slice none 0 0) 0) 38)
 have N0 := Blk.new ((w.alloc (.cells (wdCells p q r (.slice a len cap) safe) 38)).alloc (.cells #[.bool true, .bool true, .bool true] 78)) (w.heap.size + 1 + 1) (wdCells noPg noPg noPg (.slice none 0 0) 0) 38 (by simp)
 have HC := fun W (e : Ext w W) => (crashOf_any p q r a len cap l safe W (h.ext e))
 generalize worldErr p q r l safe = we at *
 have hwe : (we != 0) = true := by simpa using hz
 go_enter Tryz.func42, Tryz.ntmps42
 have b0 := B0.cell
 go_wp2_with fail
 refine (HC _ E0).mono ?_
 rintro e w2 ⟨hw, ⟨h0, _⟩ | ⟨_, rfl⟩⟩
 ·exact absurd h0 hz
 have o2 := hw.alloc (.cells (wdCells noPg noPg noPg (.slice none 0 0) 0) 38)
 have E2 := E0.trans o2
 have N2 := N0.ext o2
 clear hw o2 b0 B0 E0 N0 HC
 have n_ := N2.cell
 have f_ := N2.fr
 have E9 := put14_ext E2 (w.heap.size + 1 + 1) (by omega) (.int .i64 0) (.int .i64 0) (.int .i64 0) (.int .i64 0) (.int .i64 0) (.int .i64 0) (.int .i64 0) (.int .i64 0) (.int .i64 0) (.int .i64 0) (.int .i64 0) (.int .i64 0) (.slice none 0 0) (.int .i64 0)
 go_wp2_with fail
 refine bodyPost_ret (v := .tuple #[.agg (wdCells noPg noPg noPg (.slice none 0 0) 0), .int .i64 0, .int .i64 we]) (by simp [results, Tryz.results42, go_sem, n_]) rfl ⟨E9, rfl⟩
theorem pages12 (m : List Rc) : ints (pagesR m) = vals12 (pgAt (pagesR m) 0) (pgAt (pagesR m) 1) (pgAt (pagesR m) 2) := by
 have h : pagesR m = numsOf (pgAt (pagesR m) 0) (pgAt (pagesR m) 1) (pgAt (pagesR m) 2) := pages_ext (pagesR_len m) rfl fun i hi => by
  rw [numsOf_at _ _ _ hi]
  have hc : i = 0 ∨ i = 1 ∨ i = 2 := by omega
  rcases hc with rfl | rfl | rfl <;> rfl
 exact congrArg ints h
theorem index3 (P Q R : Pg) : (∀ w, (Instr.index 35 (val3 P Q R) (.int .i64 0)).run Tryz.prog w = .ok (.agg #[.int .i64 P.c0, .int .i64 P.c1, .int .i64 P.c2, .int .i64 P.last]) w) ∧ (∀ w, (Instr.index 35 (val3 P Q R) (.int .i64 1)).run Tryz.prog w = .ok (.agg #[.int .i64 Q.c0, .int .i64 Q.c1, .int .i64 Q.c2, .int .i64 Q.last]) w) ∧ (∀ w, (Instr.index 35 (val3 P Q R) (.int .i64 2)).run Tryz.prog w = .ok (.agg #[.int .i64 R.c0, .int .i64 R.c1, .int .i64 R.c2, .int .i64 R.last]) w) :=
 ⟨fun w => by rw [index_pages _ 0 (by decide) (by decide)]; rfl, fun w => by rw [index_pages _ 1 (by decide) (by decide)]; rfl, fun w => by rw [index_pages _ 2 (by decide) (by decide)]; rfl⟩
theorem own_put {W : World} {base b : Nat} {a : Option Addr} {n cap : Nat} {m : List Rc} {c : Array Value} (h : W.ownsRow base 81 8 (.slice a n cap) m.length (flat m)) (D : Blk W b c 38) (p : Addr) (hp : p.block = b) (v : Value) : (W.setCell p v).ownsRow base 81 8 (.slice a n cap) m.length (flat m) :=
 own_set h (fun k hk => by rw [hp]; exact own_notblk h D (by decide) k hk) v
theorem refMended_ok (p q r : Pg) (a : Option Addr) (len cap : Nat) (l : List Rc) (safe : Int) (w : World) (h : LogIn w a len cap l) (hz : worldErr p q r l safe = 0) :
  Calls Tryz.prog 42 #[wdVal p q r (.slice a len cap) safe, .int .i64 (-1), .agg #[.bool true, .bool true, .bool true]] w fun e w' => Ext w w' ∧
   AllAns w.heap.size w' e (pgAt (pagesR (mendR (l.take safe.toNat))) 0) (pgAt (pagesR (mendR (l.take safe.toNat))) 1) (pgAt (pagesR (mendR (l.take safe.toNat))) 2) (mendErr (l.take safe.toNat)) (needR (l.take safe.toNat)) (mendR (l.take safe.toNat)) ((mendR (l.take safe.toNat)).length : Nat) := by
 have E0 := (((Ext.refl w).alloc (.cells (wdCells p q r (.slice a len cap) safe) 38)).alloc (.cells #[.bool true, .bool true, .bool true] 78)).alloc (.cells (wdCells noPg noPg noPg (.slice none 0 0) 0) 38)
 have B0 := ((Blk.new w w.heap.size (wdCells p q r (.slice a len cap) safe) 38 rfl).alloc (.cells #[.bool true, .bool true, .bool true] 78)).alloc (.cells (wdCells noPg noPg noPg (.slice none 0 0) 0) 38)
 have L0 := (Blk.new (w.alloc (.cells (wdCells p q r (.slice a len cap) safe) 38)) (w.heap.size + 1) #[.bool true, .bool true, .bool true] 78 (by simp)).alloc (.cells (wdCells noPg noPg noPg (.slice none 0 0) 0) 38)
 have N0 := Blk.new ((w.alloc (.cells (wdCells p q r (.slice a len cap) safe) 38)).alloc (.cells #[.bool true, .bool true, .bool true] 78)) (w.heap.size + 1 + 1) (wdCells noPg noPg noPg (.slice none 0 0) 0) 38 (by simp)
 have HC := fun W (e : Ext w W) => (crashOf_any p q r a len cap l safe W (h.ext e))
 have hRc := (logErr_zero (worldErr_zero (world_cut hz).1).1).2
 rw [hz] at HC
 generalize l.take safe.toNat = c at *
 clear hz
 have HNext := fun k m => all_next hRc (k := k) (m := m)
 have HMany := fun k m => all_many hRc (k := k) (m := m)
 have HStop := fun k m => all_stop hRc (k := k) (m := m)
 have HUnder := fun k m => all_under hRc (k := k) (m := m)
 have M0 : MendAt c noEnd 0 c := ⟨rfl, hRc, rfl, rfl, Nat.zero_le _⟩
 have hn10 := needR_le c hRc
 go_enter Tryz.func42, Tryz.ntmps42
 have b0 := B0.cell
 go_wp2_with fail
 refine (HC _ E0).mono ?_
 rintro e w2 ⟨hw, ⟨_, a2, cap2, rfl, own2, hl2⟩ | ⟨h0, _⟩⟩
 rotate_left
 ·exact absurd rfl h0
 have hbs := N0.lt
 have hws := hw.size
 generalize (((w.alloc (.cells (wdCells p q r (.slice a len cap) safe) 38)).alloc (.cells #[.bool true, .bool true, .bool true] 78)).alloc (.cells (wdCells noPg noPg noPg (.slice none 0 0) 0) 38)).heap.size = bs at *
 have o2 := (Ext.refl w2).alloc (.cells (wdCells p q r (.slice a2 c.length cap2) safe) 38)
 have D3 := Blk.new w2 w2.heap.size (wdCells p q r (.slice a2 c.length cap2) safe) 38 rfl
 have E3 := (E0.trans hw).trans o2
 have N3 := (N0.ext hw).ext o2
 have L3 := (L0.ext hw).ext o2
 have own3 := own_ext own2 o2
 clear hw o2 b0 B0 E0 N0 L0 HC own2 hl2
 go_wp2_with fail
 generalize w2.alloc (.cells (wdCells p q r (.slice a2 c.length cap2) safe) 38) = w3 at *
 generalize w2.heap.size = bd at *
 obtain ⟨bw, hbw⟩ : ∃ bw, w.heap.size = bw := ⟨_, rfl⟩
 rw [hbw] at N3 L3 hbs ⊢
 go_loopw [11] (fun i wr => ∃ (k : Nat) (m : List Rc) (a' : Option Addr) (cap' : Nat), i = .int .i64 k ∧ Hid (MendAt c noEnd k m) ∧ Blk wr bd (wdCells p q r (.slice a' m.length cap') safe) 38 ∧ wr.ownsRow bs 81 8 (.slice a' m.length cap') m.length (flat m) ∧ Below bs w3 wr) (fun i _ => needR c + 1 - (intOf i).toNat)
 case atStart => exact ⟨0, c, a2, cap2, rfl, M0, D3, own3, Below.refl _ _⟩
 case round =>
  obtain ⟨k, m, a', cap', rfl, HM, D, own, hB⟩ := hrel
  have hRm := HM.out.right
  have h60 := right_len m hRm
  have hin := own_in2 own h60
  have hk0 : ((k : Int) == -1) = false := by simp
  have hk1 : ((k : Int) != -1) = true := by simp
  have E4 : Ext w wr := Below.trans E3 (Below.mono hB (by omega))
  have N4 : Blk wr (bw + 1 + 1) (wdCells noPg noPg noPg (.slice none 0 0) 0) 38 := by unfold Blk; rw [hB.block _ (by omega)]; exact N3
  have L4 : Blk wr (bw + 1) #[.bool true, .bool true, .bool true] 78 := by unfold Blk; rw [hB.block _ (by omega)]; exact L3
  have hbr : bs ≤ wr.heap.size := Nat.le_trans hws (Nat.le_of_lt D.lt)
  have hNx := refNext_any a' m.length cap' m wr hin.recs h60 hRm
  have dc := D.cell
  by_cases hnx : isNext m = true
  ·obtain ⟨hu, _⟩ := HUnder k m HM.out hnx
   have HL := (show Hid (linkR m (nextAns m) = nextAns m) from link_next hnx)
   have HN2 : Hid (m.length < 60 → MendAt c noEnd (k + 1) (m ++ [nextAns m])) := fun hf => HNext k m HM.out hnx hf
   have HM2 : Hid (60 ≤ m.length → mendErr c = 2) := fun hf => HMany k m HM.out hnx hf
   rw [hnx] at hNx
   generalize nextAns m = rr at *
   obtain ⟨r0, r1, r2, r3, r4, r5, r6, r7⟩ := rr
   clear HNext HMany HStop HUnder HM hin hRm
   go_wp2_with fail
   refine hNx.mono ?_
   rintro e w4 ⟨rfl, hw⟩
   have o4 := (Ext.refl w4).alloc (.cells #[.int .i64 r0, .int .i64 r1, .int .i64 r2, .int .i64 r3, .int .i64 r4, .int .i64 r5, .int .i64 r6, .int .i64 r7] 81)
   have D5 := (D.ext hw).ext o4
   have N5 := (N4.ext hw).ext o4
   have own5 := own_ext (own_ext own hw) o4
   have B5 := Below.trans hB (Below.mono (hw.trans o4) hbr)
   have E5 := (E4.trans hw).trans o4
   clear hNx hw o4 D own hB dc N4 L4 E4 hk0 hk1
   by_cases hf : m.length < 60
   ·have HN3 := (show Hid _ from HN2.out hf)
    clear HN2 HM2
    go_wp2_with fail
    refine (refPut_any bs bd p q r a' cap' m safe ⟨r0, r1, r2, r3, r4, r5, r6, r7⟩ _ D5 own5 hf hws).mono ?_
    rintro e w6 ⟨rfl, hbel, a6, cap6, D6, own6⟩
    rw [HL.out] at own6
    have hlen : (m ++ [(⟨r0, r1, r2, r3, r4, r5, r6, r7⟩ : Rc)]).length = m.length + 1 := by simp
    have B6 := Below.trans B5 hbel
    clear D5 own5 B5 hbel N5 E5 HL
    go_wp2_with fail
    go_roundw
    case rel => exact ⟨k + 1, m ++ [⟨r0, r1, r2, r3, r4, r5, r6, r7⟩], a6, cap6, by go_num, HN3, by rw [hlen]; exact D6, by rw [hlen] at own6 ⊢; exact own6, B6⟩
    case measure => simp [intOf]; omega
   ·have HE := (show Hid _ from HM2.out (by omega))
    clear HN2 HM2 own5 B5
    go_wp2_with fail
    refine (refPut_full bd p q r a' cap' m safe ⟨r0, r1, r2, r3, r4, r5, r6, r7⟩ _ D5 (by omega)).mono ?_
    rintro e w6 ⟨rfl, hw⟩
    have n_ := (N5.ext hw).cell
    have f_ := (N5.ext hw).fr
    have E9 := put14_ext (E5.trans hw) (bw + 1 + 1) (by omega) (.int .i64 0) (.int .i64 0) (.int .i64 0) (.int .i64 0) (.int .i64 0) (.int .i64 0) (.int .i64 0) (.int .i64 0) (.int .i64 0) (.int .i64 0) (.int .i64 0) (.int .i64 0) (.slice none 0 0) (.int .i64 0)
    clear hw D5 N5 E5
    go_wp2_with fail
    refine bodyPost_ret (v := .tuple #[.agg (wdCells noPg noPg noPg (.slice none 0 0) 0), .int .i64 0, .int .i64 2]) (by simp [results, Tryz.results42, go_sem, n_]) rfl ⟨E9, Or.inr ⟨by rw [HE.out]; decide, by rw [HE.out]⟩⟩
  ·have hnf : isNext m = false := by simpa using hnx
   have HS := (show Hid _ from HStop k m HM.out hnf)
   rw [hnf] at hNx
   generalize nextAns m = rr at *
   obtain ⟨r0, r1, r2, r3, r4, r5, r6, r7⟩ := rr
   have HPg := fun W (e : LogIn W a' m.length cap' m) => pages_any a' m.length cap' m W e.recs (by omega) (right_fits m hRm)
   rw [pages12] at HPg
   clear HNext HMany HStop HUnder HM hin hnx
   go_wp2_with fail
   refine hNx.mono ?_
   rintro e w4 ⟨rfl, hw⟩
   have o4 := (Ext.refl w4).alloc (.cells #[.int .i64 r0, .int .i64 r1, .int .i64 r2, .int .i64 r3, .int .i64 r4, .int .i64 r5, .int .i64 r6, .int .i64 r7] 81)
   have D5 := (D.ext hw).ext o4
   have own5 := own_ext (own_ext own hw) o4
   have B5 := Below.trans hB (Below.mono (hw.trans o4) hbr)
   clear hNx hw o4 D own hB dc N4 L4 E4 hk0 hk1
   have D6 := D5.set 13 (.int .i64 (m.length : Nat))
   have own6 := own_put own5 D5 ⟨bd, 13, none⟩ rfl (.int .i64 (m.length : Nat))
   have B6 := B5.setCell (p := ⟨bd, 13, none⟩) hws (.int .i64 (m.length : Nat))
   have dc := D5.cell
   have df := D5.fr
   clear own5 B5 D5
   go_wp2_with fail
   clear dc df
   obtain ⟨hs1, hs2, hs3⟩ := HS.out
   have HG : Hid (mendErr c = 0 ∧ needR c = k ∧ mendR c = m) := ⟨hs1, hs2, hs3⟩
   have HP : Hid (pgAt (pagesR m) 0 = pgAt (pagesR m) 0) := rfl
   clear HS hs1 hs2 hs3
   obtain ⟨hi0, hi1, hi2⟩ := index3 (pgAt (pagesR m) 0) (pgAt (pagesR m) 1) (pgAt (pagesR m) 2)
   obtain ⟨g0, hg0⟩ : ∃ g0, pgAt (pagesR m) 0 = g0 := ⟨_, rfl⟩
   obtain ⟨g1, hg1⟩ : ∃ g1, pgAt (pagesR m) 1 = g1 := ⟨_, rfl⟩
   obtain ⟨g2, hg2⟩ : ∃ g2, pgAt (pagesR m) 2 = g2 := ⟨_, rfl⟩
   rw [hg0, hg1, hg2] at HPg hi0 hi1 hi2
   have HGs : Hid (pgAt (pagesR m) 0 = g0 ∧ pgAt (pagesR m) 1 = g1 ∧ pgAt (pagesR m) 2 = g2) := ⟨hg0, hg1, hg2⟩
   clear hg0 hg1 hg2 HP
   go_loopw [14] (fun i wq => ∃ (j : Nat) (P Q R : Pg), j ≤ 3 ∧ i = .int .i64 j ∧ ((j = 0 ∧ p = P ∧ q = Q ∧ r = R) ∨ (j = 1 ∧ g0 = P ∧ q = Q ∧ r = R) ∨ (j = 2 ∧ g0 = P ∧ g1 = Q ∧ r = R) ∨ (j = 3 ∧ g0 = P ∧ g1 = Q ∧ g2 = R)) ∧ Blk wq bd (wdCells P Q R (.slice a' m.length cap') (m.length : Nat)) 38 ∧ wq.ownsRow bs 81 8 (.slice a' m.length cap') m.length (flat m) ∧ Below bs w3 wq) (fun i _ => 3 - (intOf i).toNat)
   case atStart => exact ⟨0, p, q, r, by decide, rfl, Or.inl ⟨rfl, rfl, rfl, rfl⟩, D6, own6, B6⟩
   case round =>
    obtain ⟨j, P, Q, R, hj3, rfl, hcase, hj⟩ := hrel
    clear D6 own6 B6
    rcases hcase with ⟨rfl, rfl, rfl, rfl⟩ | ⟨rfl, rfl, rfl, rfl⟩ | ⟨rfl, rfl, rfl, rfl⟩ | ⟨rfl, rfl, rfl, rfl⟩
    ·obtain ⟨D7, own7, B7⟩ := hj
     have L7 : Blk wr (bw + 1) #[.bool true, .bool true, .bool true] 78 := by unfold Blk; rw [B7.block _ (by omega)]; exact L3
     have lc := L7.cell
     have dc := D7.cell
     go_wp2_with fail
     refine (HPg wr (own_in2 own7 h60)).mono ?_
     rintro e w8 ⟨rfl, hw⟩
     have D8 := D7.ext hw
     have own8 := own_ext own7 hw
     have B8 := Below.trans B7 (Below.mono hw (Nat.le_trans hws (Nat.le_of_lt D7.lt)))
     clear lc dc hw D7 own7 B7 L7
     have dc := D8.cell
     have df := D8.fr
     have D8_0 := D8.set 0 (.int .i64 g0.c0)
     have own8_0 := own_put own8 D8 ⟨bd, 0, none⟩ rfl (.int .i64 g0.c0)
     have B8_0 := B8.setCell (p := ⟨bd, 0, none⟩) hws (.int .i64 g0.c0)
     have D8_1 := D8_0.set 1 (.int .i64 g0.c1)
     have own8_1 := own_put own8_0 D8_0 ⟨bd, 1, none⟩ rfl (.int .i64 g0.c1)
     have B8_1 := B8_0.setCell (p := ⟨bd, 1, none⟩) hws (.int .i64 g0.c1)
     have D8_2 := D8_1.set 2 (.int .i64 g0.c2)
     have own8_2 := own_put own8_1 D8_1 ⟨bd, 2, none⟩ rfl (.int .i64 g0.c2)
     have B8_2 := B8_1.setCell (p := ⟨bd, 2, none⟩) hws (.int .i64 g0.c2)
     have D8_3 := D8_2.set 3 (.int .i64 g0.last)
     have own8_3 := own_put own8_2 D8_2 ⟨bd, 3, none⟩ rfl (.int .i64 g0.last)
     have B8_3 := B8_2.setCell (p := ⟨bd, 3, none⟩) hws (.int .i64 g0.last)
     clear D8 own8 B8 D8_0 D8_1 D8_2 own8_0 own8_1 own8_2 B8_0 B8_1 B8_2
     go_wp2_with fail
     go_roundw
     case rel => exact ⟨1, g0, q, r, by decide, by go_num, Or.inr (Or.inl ⟨rfl, rfl, rfl, rfl⟩), D8_3, own8_3, B8_3⟩
     case measure => simp [intOf]
    ·obtain ⟨D7, own7, B7⟩ := hj
     have L7 : Blk wr (bw + 1) #[.bool true, .bool true, .bool true] 78 := by unfold Blk; rw [B7.block _ (by omega)]; exact L3
     have lc := L7.cell
     have dc := D7.cell
     go_wp2_with fail
     refine (HPg wr (own_in2 own7 h60)).mono ?_
     rintro e w8 ⟨rfl, hw⟩
     have D8 := D7.ext hw
     have own8 := own_ext own7 hw
     have B8 := Below.trans B7 (Below.mono hw (Nat.le_trans hws (Nat.le_of_lt D7.lt)))
     clear lc dc hw D7 own7 B7 L7
     have dc := D8.cell
     have df := D8.fr
     have D8_0 := D8.set 4 (.int .i64 g1.c0)
     have own8_0 := own_put own8 D8 ⟨bd, 4, none⟩ rfl (.int .i64 g1.c0)
     have B8_0 := B8.setCell (p := ⟨bd, 4, none⟩) hws (.int .i64 g1.c0)
     have D8_1 := D8_0.set 5 (.int .i64 g1.c1)
     have own8_1 := own_put own8_0 D8_0 ⟨bd, 5, none⟩ rfl (.int .i64 g1.c1)
     have B8_1 := B8_0.setCell (p := ⟨bd, 5, none⟩) hws (.int .i64 g1.c1)
     have D8_2 := D8_1.set 6 (.int .i64 g1.c2)
     have own8_2 := own_put own8_1 D8_1 ⟨bd, 6, none⟩ rfl (.int .i64 g1.c2)
     have B8_2 := B8_1.setCell (p := ⟨bd, 6, none⟩) hws (.int .i64 g1.c2)
     have D8_3 := D8_2.set 7 (.int .i64 g1.last)
     have own8_3 := own_put own8_2 D8_2 ⟨bd, 7, none⟩ rfl (.int .i64 g1.last)
     have B8_3 := B8_2.setCell (p := ⟨bd, 7, none⟩) hws (.int .i64 g1.last)
     clear D8 own8 B8 D8_0 D8_1 D8_2 own8_0 own8_1 own8_2 B8_0 B8_1 B8_2
     go_wp2_with fail
     go_roundw
     case rel => exact ⟨2, g0, g1, r, by decide, by go_num, Or.inr (Or.inr (Or.inl ⟨rfl, rfl, rfl, rfl⟩)), D8_3, own8_3, B8_3⟩
     case measure => simp [intOf]
    ·obtain ⟨D7, own7, B7⟩ := hj
     have L7 : Blk wr (bw + 1) #[.bool true, .bool true, .bool true] 78 := by unfold Blk; rw [B7.block _ (by omega)]; exact L3
     have lc := L7.cell
     have dc := D7.cell
     go_wp2_with fail
     refine (HPg wr (own_in2 own7 h60)).mono ?_
     rintro e w8 ⟨rfl, hw⟩
     have D8 := D7.ext hw
     have own8 := own_ext own7 hw
     have B8 := Below.trans B7 (Below.mono hw (Nat.le_trans hws (Nat.le_of_lt D7.lt)))
     clear lc dc hw D7 own7 B7 L7
     have dc := D8.cell
     have df := D8.fr
     have D8_0 := D8.set 8 (.int .i64 g2.c0)
     have own8_0 := own_put own8 D8 ⟨bd, 8, none⟩ rfl (.int .i64 g2.c0)
     have B8_0 := B8.setCell (p := ⟨bd, 8, none⟩) hws (.int .i64 g2.c0)
     have D8_1 := D8_0.set 9 (.int .i64 g2.c1)
     have own8_1 := own_put own8_0 D8_0 ⟨bd, 9, none⟩ rfl (.int .i64 g2.c1)
     have B8_1 := B8_0.setCell (p := ⟨bd, 9, none⟩) hws (.int .i64 g2.c1)
     have D8_2 := D8_1.set 10 (.int .i64 g2.c2)
     have own8_2 := own_put own8_1 D8_1 ⟨bd, 10, none⟩ rfl (.int .i64 g2.c2)
     have B8_2 := B8_1.setCell (p := ⟨bd, 10, none⟩) hws (.int .i64 g2.c2)
     have D8_3 := D8_2.set 11 (.int .i64 g2.last)
     have own8_3 := own_put own8_2 D8_2 ⟨bd, 11, none⟩ rfl (.int .i64 g2.last)
     have B8_3 := B8_2.setCell (p := ⟨bd, 11, none⟩) hws (.int .i64 g2.last)
     clear D8 own8 B8 D8_0 D8_1 D8_2 own8_0 own8_1 own8_2 B8_0 B8_1 B8_2
     go_wp2_with fail
     go_roundw
     case rel => exact ⟨3, g0, g1, g2, by decide, by go_num, Or.inr (Or.inr (Or.inr ⟨rfl, rfl, rfl, rfl⟩)), D8_3, own8_3, B8_3⟩
     case measure => simp [intOf]
    ·obtain ⟨D7, own7, B7⟩ := hj
     have N7 : Blk wr (bw + 1 + 1) (wdCells noPg noPg noPg (.slice none 0 0) 0) 38 := by unfold Blk; rw [B7.block _ (by omega)]; exact N3
     have E7 : Ext w wr := Below.trans E3 (Below.mono B7 (by omega))
     have E9 := put14_ext E7 (bw + 1 + 1) (by omega) (.int .i64 g0.c0) (.int .i64 g0.c1) (.int .i64 g0.c2) (.int .i64 g0.last) (.int .i64 g1.c0) (.int .i64 g1.c1) (.int .i64 g1.c2) (.int .i64 g1.last) (.int .i64 g2.c0) (.int .i64 g2.c1) (.int .i64 g2.c2) (.int .i64 g2.last) (.slice a' m.length cap') (.int .i64 (m.length : Nat))
     have G9 := put14_gr wr (bw + 1 + 1) (.int .i64 g0.c0) (.int .i64 g0.c1) (.int .i64 g0.c2) (.int .i64 g0.last) (.int .i64 g1.c0) (.int .i64 g1.c1) (.int .i64 g1.c2) (.int .i64 g1.last) (.int .i64 g2.c0) (.int .i64 g2.c1) (.int .i64 g2.c2) (.int .i64 g2.last) (.slice a' m.length cap') (.int .i64 (m.length : Nat))
     have own9 := own_gr own7 G9 (fun k hk e => by injection e with e; have := own_from own7 k hk; omega)
     have HIn := (show Hid _ from own_in2 own9 h60)
     have HFrom : Hid (∀ ad, a' = some ad → w.heap.size ≤ ad.block) := fun ad e => by have := own_from own7 ad.block (by rw [e]; rfl); omega
     have dd := D7.cell
     have nn := N7.cell
     have ff := N7.fr
     have hne : bd ≠ bw + 1 + 1 := by omega
     clear own9 G9 own7 B7 E7 D7 N7
     go_wp2_with fail
     refine bodyPost_ret (v := .tuple #[.agg (wdCells g0 g1 g2 (.slice a' m.length cap') (m.length : Nat)), .int .i64 k, .int .i64 0]) (by simp [results, Tryz.results42, go_sem, nn]) rfl ⟨E9, ?_⟩
     rw [HG.out.1, HG.out.2.1, HG.out.2.2, HGs.out.1, HGs.out.2.1, HGs.out.2.2]
     exact Or.inl ⟨rfl, a', cap', rfl, HIn.out, HFrom.out⟩
end Go.Proofs.YtibfgbmhmdggmaaGreatDoor.B
