/- ActKept holds: who has once committed has won for ever, whatever acts are done then, crashes too; and of those who have not, nothing is left behind a crash. -/
import Derived.Test.YtbfefocehnafgaaGreatAct5
import Derived.Test.YtbfefocehnafgaaGreatAnsB
import Derived.Test.YtbfefocehnafgaaGreatMendedA
namespace Go.Proofs.YtbfefocehnafgaaGreat.B
set_option maxRecDepth 100000
open Go.ChangeShapes Go.WideShapes Go.ChangeAt Go.RowKit

theorem nine9 {m c : List Rc} (h : ∀ i j, i < 3 → j < 3 → (pagesR m).getD (i * 4 + j) 0 = (cellsR c).getD (i * 3 + j) 0) :
    ints (cellsR c) = val9 (pgAt (pagesR m) 0) (pgAt (pagesR m) 1) (pgAt (pagesR m) 2) := by
  obtain ⟨x0, x1, x2, x3, x4, x5, x6, x7, x8, hx⟩ := len9 (cellsR_len c)
  rw [hx] at h ⊢
  have a0 := h 0 0 (by decide) (by decide)
  have a1 := h 0 1 (by decide) (by decide)
  have a2 := h 0 2 (by decide) (by decide)
  have b0 := h 1 0 (by decide) (by decide)
  have b1 := h 1 1 (by decide) (by decide)
  have b2 := h 1 2 (by decide) (by decide)
  have c0 := h 2 0 (by decide) (by decide)
  have c1 := h 2 1 (by decide) (by decide)
  have c2 := h 2 2 (by decide) (by decide)
  simp only [val9, pgAt]
  show ints _ = #[.int .i64 ((pagesR m).getD (0 * 4 + 0) 0), .int .i64 ((pagesR m).getD (0 * 4 + 1) 0), .int .i64 ((pagesR m).getD (0 * 4 + 2) 0), .int .i64 ((pagesR m).getD (1 * 4 + 0) 0), .int .i64 ((pagesR m).getD (1 * 4 + 1) 0), .int .i64 ((pagesR m).getD (1 * 4 + 2) 0), .int .i64 ((pagesR m).getD (2 * 4 + 0) 0), .int .i64 ((pagesR m).getD (2 * 4 + 1) 0), .int .i64 ((pagesR m).getD (2 * 4 + 2) 0)]
  rw [a0, a1, a2, b0, b1, b2, c0, c1, c2]
  rfl
theorem any_take (ws : List Int) (t : Int) (k : Nat) (h : k < ws.length) : ((ws.take (k + 1)).any fun y => y == t) = (((ws.take k).any fun y => y == t) || ws[k] == t) := by
  rw [List.take_succ_eq_append_getElem h, List.any_append]
  simp
set_option maxHeartbeats 32000000 in
theorem actKept_ok (w : World) (p q r : Pg) (a : Option Addr) (len cap : Nat) (l : List Rc) (safe : Int) (h : LogIn w a len cap l) (t : Int) (xa : Option Addr) (xlen xcap : Nat) (xs : List Ac) (hxs : Acts w xa xlen xs) (_hxm : xlen ≤ maxLen) (hz : errOf (worldErr p q r l safe) (commitErr l t) = 0) :
    Calls Tryz.prog 6 #[wdVal p q r (.slice a len cap) safe, .int .i64 t, .slice xa xlen xcap] w fun e w' => e = .returned (.bool true) ∧ Ext w w' := by
  have hW0 := won_commit hz
  have hw0 := (errOf_zero hz).1
  have HC := fun W (e : Ext w W) => (workCommit_any p q r a len cap l safe t W (h.ext e)).mono fun _ _ ⟨h1, h2⟩ => And.intro h1 h2.dw
  rw [hz, if_pos rfl] at HC
  have H2 := fun w' (e : Ext w w') => worldError_any p q r a len cap l safe w' (h.recs.ext e) h.le h.max
  rw [hw0] at H2
  have hl0 : 0 < ((l ++ [commitRec l t]) ++ [endRec l t]).length := by simp
  change Won ⟨p, q, r, (l ++ [commitRec l t]) ++ [endRec l t], ((l.length + 1 : Nat) : Int)⟩ t at hW0
  clear hw0 hz
  generalize (l ++ [commitRec l t]) ++ [endRec l t] = l0 at *
  generalize ((l.length + 1 : Nat) : Int) = s0 at *
  have hxl := hxs.len
  unfold maxLen at _hxm
  have HW0 := (show Hid (Won ⟨p, q, r, l0, s0⟩ t) from hW0)
  clear hW0
  unfold DoW at HC
  dsimp only at HC
  have E0 := (Ext.refl w).alloc (.cells (wdCells p q r (.slice a len cap) safe) 28)
  have B0 := Blk.new w w.heap.size (wdCells p q r (.slice a len cap) safe) 28 rfl
  have b0 := B0.cell
  go_enter Tryz.func6, Tryz.ntmps6
  go_wp2_with fail
  refine (HC _ E0).mono ?_
  rintro e w1 ⟨hw, a1, cap1, rfl, L1, hf1⟩
  have o1 := (Ext.refl w1).alloc (.cells (wdCells p q r (.slice a1 l0.length cap1) s0) 28)
  have X1 := Blk.new w1 w1.heap.size (wdCells p q r (.slice a1 l0.length cap1) s0) 28 rfl
  have E1 := (E0.trans hw).trans o1
  have B1 := (B0.ext hw).ext o1
  have R1 := L1.ext o1
  have hab : ∀ ad, a1 = some ad → ad.block ≠ w1.heap.size := fun ad e e2 => by
    obtain ⟨b, off, e3, _, hc, _⟩ := L1.recs.at hl0
    rw [e3] at e
    injection e with e
    have := cell_lt hc
    rw [← e] at e2
    dsimp only at e2 this
    omega
  have hb5 : w.heap.size ≤ w1.heap.size := Nat.le_trans E0.size hw.size
  clear hw o1 b0 B0 E0 HC L1 hf1 hl0
  have b1 := B1.cell
  go_wp2_with fail
  refine (H2 _ E1).mono ?_
  rintro e w3 ⟨rfl, hw⟩
  have E3 := E1.trans hw
  have D3 := X1.ext hw
  have L3 := R1.ext hw
  clear hw b1 B1 E1 H2 X1 R1
  generalize w1.heap.size = b5 at *
  go_wp2_with fail
  go_loopw [9] (fun i wr => ∃ (k : Nat) (a' : Option Addr) (cap' : Nat) (DD : Wd), k ≤ xlen ∧ i = .int .i64 k ∧ Hid (Won DD t) ∧ Blk wr b5 (wdCells DD.p DD.q DD.r (.slice a' DD.l.length cap') DD.safe) 28 ∧ LogIn wr a' DD.l.length cap' DD.l ∧ Hid (∀ ad, a' = some ad → ad.block ≠ b5) ∧ Below b5 w3 wr) (fun i _ => xlen - (intOf i).toNat)
  case atStart => exact ⟨0, a1, cap1, ⟨p, q, r, l0, s0⟩, Nat.zero_le _, rfl, HW0, D3, L3, hab, Below.refl _ _⟩
  case round =>
    obtain ⟨k, a', cap', DD, hk, rfl, HW, D, hin, HF, hB⟩ := hrel
    have E4 : Ext w wr := Below.trans E3 (Below.mono hB hb5)
    have hb5r : b5 < wr.heap.size := D.lt
    clear D3 L3 hab HW0
    by_cases hlt : k < xlen ∧ k < 20
    · obtain ⟨hlt, hlt20⟩ := hlt
      obtain ⟨ba, oa, rfl, hkl, c0, c1, c2, c3, c4⟩ := (hxs.ext E4).at hlt
      generalize xs[k] = xx at *
      have hac : ba < wr.heap.size := cell_lt c0
      have HDo := fun W (i : LogIn W a' DD.l.length cap' DD.l) => actDo_any DD a' DD.l.length cap' xx W i
      have HV : Hid (doErr DD xx = 0 → Won (doV DD xx) t) := fun e => by have := won_do HW.out xx; rw [doOr_pos e] at this; exact this
      have HD : Hid (True) := trivial
      generalize doErr DD xx = ex at *
      generalize doV DD xx = VV at *
      obtain ⟨P, Q, R, m, s⟩ := VV
      obtain ⟨p1, q1, r1, ld, sd⟩ := DD
      obtain ⟨xk, xt, xp, xc, xv⟩ := xx
      unfold DoW at HDo
      dsimp only at c0 c1 c2 c3 c4 D hin HDo
      have hhd := D.cell
      go_wp2_with fail
      clear hhd
      have Ed := (Ext.refl wr).drew
      have KC : Hid (∀ W, Ext wr W → (∀ o, W.cell? ⟨b5, o, none⟩ = (wdCells p1 q1 r1 (.slice a' ld.length cap') sd)[o]?) ∧ W.cell? ⟨ba, oa + k * 5, none⟩ = some (.int .i64 xk) ∧ W.cell? ⟨ba, oa + k * 5 + 1, none⟩ = some (.int .i64 xt) ∧ W.cell? ⟨ba, oa + k * 5 + 2, none⟩ = some (.int .i64 xp) ∧ W.cell? ⟨ba, oa + k * 5 + 3, none⟩ = some (.int .i64 xc) ∧ W.cell? ⟨ba, oa + k * 5 + 4, none⟩ = some (.int .i64 xv)) := fun W e => ⟨(D.ext e).cell, e.cell c0, e.cell c1, e.cell c2, e.cell c3, e.cell c4⟩
      go_cut [10, 11] (fun s8 s9 wx => ∃ (bz : Nat) (a4 : Option Addr) (cap4 : Nat), s8 = .pointer (some ⟨bz, 0, none⟩) ∧ s9 = .int .i64 ex ∧ Blk wx bz (wdCells P Q R (.slice a4 m.length cap4) s) 28 ∧ LogIn wx a4 m.length cap4 m ∧ (∀ ad, a4 = some ad → b5 < ad.block) ∧ Ext wr wx ∧ wr.heap.size ≤ bz)
      case first =>
        clear HV HD HF
        refine wp_region_held_drew (S := fun W => (∀ o, W.cell? ⟨b5, o, none⟩ = (wdCells p1 q1 r1 (.slice a' ld.length cap') sd)[o]?) ∧ W.cell? ⟨ba, oa + k * 5, none⟩ = some (.int .i64 xk) ∧ W.cell? ⟨ba, oa + k * 5 + 1, none⟩ = some (.int .i64 xt) ∧ W.cell? ⟨ba, oa + k * 5 + 2, none⟩ = some (.int .i64 xp) ∧ W.cell? ⟨ba, oa + k * 5 + 3, none⟩ = some (.int .i64 xc) ∧ W.cell? ⟨ba, oa + k * 5 + 4, none⟩ = some (.int .i64 xv)) (by kernel_rfl) (KC.out _ Ed) (fun hHeld => ?_)
        refine wpAnyH_take (i := 0) (v := ?v1) rfl (by kernel_rfl) (by kernel_rfl) (by kernel_rfl) (fun _ _ _ h => h) (Or.inl ⟨by rfl, ?hy1⟩) hHeld ?r1
        case hy1 => first | (intro w hSw; (try dsimp only at hSw); go_simp; done) | (intro w hSw; (try dsimp only at hSw); go_simp; with_reducible rfl)
        simp only [Act.put]
        refine wpAnyH_take (i := 1) (v := ?v2) rfl (by kernel_rfl) (by kernel_rfl) (by kernel_rfl) (fun _ _ _ h => h) (Or.inl ⟨by rfl, ?hy2⟩) hHeld ?r2
        case hy2 => first | (intro w hSw; (try dsimp only at hSw); go_simp; done) | (intro w hSw; (try dsimp only at hSw); go_simp; with_reducible rfl)
        simp only [Act.put]
        refine wpAnyH_take (i := 2) (v := ?v3) rfl (by kernel_rfl) (by kernel_rfl) (by kernel_rfl) (fun _ _ _ h => h) (Or.inl ⟨by rfl, ?hy3⟩) hHeld ?r3
        case hy3 => first | (intro w hSw; (try dsimp only at hSw); go_simp; done) | (intro w hSw; (try dsimp only at hSw); go_simp; with_reducible rfl)
        simp only [Act.put]
        refine wpAnyH_take (i := 3) (v := ?v4) rfl (by kernel_rfl) (by kernel_rfl) (by kernel_rfl) (fun _ _ _ h => h) (Or.inl ⟨by rfl, ?hy4⟩) hHeld ?r4
        case hy4 => first | (intro w hSw; (try dsimp only at hSw); go_simp; done) | (intro w hSw; (try dsimp only at hSw); go_simp; with_reducible rfl)
        simp only [Act.put]
        refine wpAnyH_take (i := 4) (v := ?v5) rfl (by kernel_rfl) (by kernel_rfl) (by kernel_rfl) (fun _ _ _ h => h) (Or.inl ⟨by rfl, ?hy5⟩) hHeld ?r5
        case hy5 => first | (intro w hSw; (try dsimp only at hSw); go_simp; done) | (intro w hSw; (try dsimp only at hSw); go_simp; with_reducible rfl)
        simp only [Act.put]
        refine wpAnyH_ready (rs := [5, 9]) (by kernel_rfl) (by simp) ?_
        refine AllReadyH.cons rfl (fun K hK => ?_) (AllReadyH.cons rfl (fun K hK => ?_) AllReadyH.nil)
        · go_simp
          refine (HDo _ (hin.ext Ed)).mono ?_
          rintro e w4 ⟨hw, a4, cap4, rfl, hin4, hf4⟩
          have E4' := Ed.trans hw
          have D4 := D.ext E4'
          have K4 := KC.out _ E4'
          go_wp2_with fail
          refine hK.out _ _ K4 (fun hHeld => ?_)
          clear hK K
          refine wpAnyH_take (i := 6) (v := ?v6) rfl (by kernel_rfl) (by kernel_rfl) (by kernel_rfl) (fun _ _ _ h => h) (Or.inl ⟨by rfl, ?hy6⟩) hHeld ?r6
          case hy6 => first | (intro w hSw; (try dsimp only at hSw); go_simp; done) | (intro w hSw; (try dsimp only at hSw); go_simp; with_reducible rfl)
          simp only [Act.put]
          refine wpAnyH_take (i := 7) (v := ?v7) rfl (by kernel_rfl) (by kernel_rfl) (by kernel_rfl) (fun _ _ _ h => h) (Or.inl ⟨by rfl, ?hy7⟩) hHeld ?r7
          case hy7 => first | (intro w hSw; (try dsimp only at hSw); go_simp; done) | (intro w hSw; (try dsimp only at hSw); go_simp; with_reducible rfl)
          simp only [Act.put]
          refine wpAnyH_take (i := 8) (v := ?v8) rfl (by kernel_rfl) (by kernel_rfl) (by kernel_rfl) (fun _ _ _ h => h) (Or.inl ⟨by rfl, ?hy8⟩) hHeld ?r8
          case hy8 => first | (intro w hSw; (try dsimp only at hSw); go_simp; done) | (intro w hSw; (try dsimp only at hSw); go_simp; with_reducible rfl)
          simp only [Act.put]
          refine wpAnyH_ready (rs := [9]) (by kernel_rfl) (by simp) ?_
          refine AllReadyH.cons rfl (fun K hK => ?_) AllReadyH.nil
          go_simp
          have Z5 := Blk.new w4 w4.heap.size (wdCells noPg noPg noPg (.slice none 0 0) 0) 28 rfl
          have E5 := E4'.alloc (.cells (wdCells noPg noPg noPg (.slice none 0 0) 0) 28)
          have hs4 := E4'.size
          have K5 := KC.out _ E5
          have L6 := (show Hid _ from hin4.ext (put14_ext ((Ext.refl w4).alloc (.cells (wdCells noPg noPg noPg (.slice none 0 0) 0) 28)) w4.heap.size (Nat.le_refl _) (.int .i64 P.c0) (.int .i64 P.c1) (.int .i64 P.c2) (.int .i64 P.last) (.int .i64 Q.c0) (.int .i64 Q.c1) (.int .i64 Q.c2) (.int .i64 Q.last) (.int .i64 R.c0) (.int .i64 R.c1) (.int .i64 R.c2) (.int .i64 R.last) (.slice a4 m.length cap4) (.int .i64 s)))
          have HF6 : Hid (∀ ad, a4 = some ad → b5 < ad.block) := fun ad e => by have := hf4 ad e; have h2 := Ed.size; omega
          refine hK.out _ _ K5 (fun hHeld => ?_)
          clear hK K
          generalize w4.alloc (.cells (wdCells noPg noPg noPg (.slice none 0 0) 0) 28) = w5 at *
          have Z6 := put14_blk Z5 (.int .i64 P.c0) (.int .i64 P.c1) (.int .i64 P.c2) (.int .i64 P.last) (.int .i64 Q.c0) (.int .i64 Q.c1) (.int .i64 Q.c2) (.int .i64 Q.last) (.int .i64 R.c0) (.int .i64 R.c1) (.int .i64 R.c2) (.int .i64 R.last) (.slice a4 m.length cap4) (.int .i64 s)
          have E6 := put14_ext E5 w4.heap.size hs4 (.int .i64 P.c0) (.int .i64 P.c1) (.int .i64 P.c2) (.int .i64 P.last) (.int .i64 Q.c0) (.int .i64 Q.c1) (.int .i64 Q.c2) (.int .i64 Q.last) (.int .i64 R.c0) (.int .i64 R.c1) (.int .i64 R.c2) (.int .i64 R.last) (.slice a4 m.length cap4) (.int .i64 s)
          have K6 := KC.out _ E6
          have z5 := Z5.cell
          have f5 := Z5.fr
          refine wpAnyH_ready (rs := [10]) (by kernel_rfl) (by simp) ?_
          refine AllReadyH.cons rfl (fun K hK => ?_) AllReadyH.nil
          go_simp
          refine hK.out _ _ K6 (fun hHeld => ?_)
          clear hK K z5 f5
          refine wpAnyH_ready (rs := [11]) (by kernel_rfl) (by simp) ?_
          refine AllReadyH.cons rfl (fun K hK => ?_) AllReadyH.nil
          go_simp
          refine hK.out _ _ K6 (fun hHeld => ?_)
          clear hK K
          refine wpAnyH_done (by kernel_rfl) ?_ _
          clear hHeld KC K4 K5 K6 hin4 hf4 D4 Z5 E5 D hin HDo c0 c1 c2 c3 c4
          have hlast : wr.heap.size ≤ w4.heap.size := hs4
          go_wp2_with fail
          go_meet
          case rel => exact ⟨_, a4, cap4, rfl, rfl, Z6, L6.out, HF6.out, E6, hlast⟩
        · go_simp
          have o5 := ((Ext.refl wr).alloc (.cells (wdCells noPg noPg noPg (.slice none 0 0) 0) 28)).drew
          have Z4 := (Blk.new wr wr.heap.size (wdCells noPg noPg noPg (.slice none 0 0) 0) 28 rfl).drew
          have K4 := KC.out _ o5
          have I4 := hin.ext o5
          refine hK.out _ _ K4 (fun hHeld => ?_)
          clear hK K
          generalize (wr.alloc (.cells (wdCells noPg noPg noPg (.slice none 0 0) 0) 28)).drew = w2 at *
          refine wpAnyH_ready (rs := [5]) (by kernel_rfl) (by simp) ?_
          refine AllReadyH.cons rfl (fun K hK => ?_) AllReadyH.nil
          go_simp
          refine (HDo _ I4).mono ?_
          rintro e w4 ⟨hw, a4, cap4, rfl, hin4, hf4⟩
          have E4' := o5.trans hw
          have Z5 := Z4.ext hw
          have K5 := KC.out _ E4'
          have hzl := Z4.lt
          have L6 := (show Hid _ from hin4.gr (put14_gr w4 wr.heap.size (.int .i64 P.c0) (.int .i64 P.c1) (.int .i64 P.c2) (.int .i64 P.last) (.int .i64 Q.c0) (.int .i64 Q.c1) (.int .i64 Q.c2) (.int .i64 Q.last) (.int .i64 R.c0) (.int .i64 R.c1) (.int .i64 R.c2) (.int .i64 R.last) (.slice a4 m.length cap4) (.int .i64 s)) (fun ad e e2 => by injection e2 with e2; have := hf4 ad e; omega))
          have HF6 : Hid (∀ ad, a4 = some ad → b5 < ad.block) := fun ad e => by have := hf4 ad e; omega
          go_wp2_with fail
          refine hK.out _ _ K5 (fun hHeld => ?_)
          clear hK K
          refine wpAnyH_take (i := 6) (v := ?v9) rfl (by kernel_rfl) (by kernel_rfl) (by kernel_rfl) (fun _ _ _ h => h) (Or.inl ⟨by rfl, ?hy9⟩) hHeld ?r9
          case hy9 => first | (intro w hSw; (try dsimp only at hSw); go_simp; done) | (intro w hSw; (try dsimp only at hSw); go_simp; with_reducible rfl)
          simp only [Act.put]
          refine wpAnyH_take (i := 7) (v := ?v10) rfl (by kernel_rfl) (by kernel_rfl) (by kernel_rfl) (fun _ _ _ h => h) (Or.inl ⟨by rfl, ?hy10⟩) hHeld ?r10
          case hy10 => first | (intro w hSw; (try dsimp only at hSw); go_simp; done) | (intro w hSw; (try dsimp only at hSw); go_simp; with_reducible rfl)
          simp only [Act.put]
          refine wpAnyH_take (i := 8) (v := ?v11) rfl (by kernel_rfl) (by kernel_rfl) (by kernel_rfl) (fun _ _ _ h => h) (Or.inl ⟨by rfl, ?hy11⟩) hHeld ?r11
          case hy11 => first | (intro w hSw; (try dsimp only at hSw); go_simp; done) | (intro w hSw; (try dsimp only at hSw); go_simp; with_reducible rfl)
          simp only [Act.put]
          have Z6 := put14_blk Z5 (.int .i64 P.c0) (.int .i64 P.c1) (.int .i64 P.c2) (.int .i64 P.last) (.int .i64 Q.c0) (.int .i64 Q.c1) (.int .i64 Q.c2) (.int .i64 Q.last) (.int .i64 R.c0) (.int .i64 R.c1) (.int .i64 R.c2) (.int .i64 R.last) (.slice a4 m.length cap4) (.int .i64 s)
          have E6 := put14_ext E4' wr.heap.size (Nat.le_refl _) (.int .i64 P.c0) (.int .i64 P.c1) (.int .i64 P.c2) (.int .i64 P.last) (.int .i64 Q.c0) (.int .i64 Q.c1) (.int .i64 Q.c2) (.int .i64 Q.last) (.int .i64 R.c0) (.int .i64 R.c1) (.int .i64 R.c2) (.int .i64 R.last) (.slice a4 m.length cap4) (.int .i64 s)
          have K6 := KC.out _ E6
          have z5 := Z5.cell
          have f5 := Z5.fr
          refine wpAnyH_ready (rs := [10]) (by kernel_rfl) (by simp) ?_
          refine AllReadyH.cons rfl (fun K hK => ?_) AllReadyH.nil
          go_simp
          refine hK.out _ _ K6 (fun hHeld => ?_)
          clear hK K z5 f5
          refine wpAnyH_ready (rs := [11]) (by kernel_rfl) (by simp) ?_
          refine AllReadyH.cons rfl (fun K hK => ?_) AllReadyH.nil
          go_simp
          refine hK.out _ _ K6 (fun hHeld => ?_)
          clear hK K
          refine wpAnyH_done (by kernel_rfl) ?_ _
          clear hHeld KC K4 K5 K6 hin4 hf4 Z5 D hin HDo c0 c1 c2 c3 c4
          go_wp2_with fail
          go_meet
          case rel => exact ⟨_, a4, cap4, rfl, rfl, Z6, L6.out, HF6.out, E6, Nat.le_refl _⟩
      case rest =>
        obtain ⟨bz, a4, cap4, rfl, rfl, X5, L5, hf5, hE, hbz⟩ := hcut
        have HF6 := (show Hid (∀ ad, a4 = some ad → b5 < ad.block) from hf5)
        have D5 := D.ext hE
        have LD5 := hin.ext hE
        have B5 := Below.trans hB (Below.mono hE (by omega))
        have d4 := D5.cell
        have g4 := D5.fr
        have x5 := X5.cell
        have HF5 := (show Hid (∀ ad, a4 = some ad → ad.block ≠ b5) from fun ad e e2 => by have := hf5 ad e; omega)
        clear hin D hB HDo E4 c0 c1 c2 c3 c4 KC Ed hE
        by_cases hx : ex = 0
        · have HW2 : Hid (Won ⟨P, Q, R, m, s⟩ t) := HV.out hx
          have hx1 : (ex == 0) = true := by simp [hx]
          have D6 := put14_blk D5 (.int .i64 P.c0) (.int .i64 P.c1) (.int .i64 P.c2) (.int .i64 P.last) (.int .i64 Q.c0) (.int .i64 Q.c1) (.int .i64 Q.c2) (.int .i64 Q.last) (.int .i64 R.c0) (.int .i64 R.c1) (.int .i64 R.c2) (.int .i64 R.last) (.slice a4 m.length cap4) (.int .i64 s)
          have L6 := (show Hid _ from L5.gr (put14_gr _ b5 (.int .i64 P.c0) (.int .i64 P.c1) (.int .i64 P.c2) (.int .i64 P.last) (.int .i64 Q.c0) (.int .i64 Q.c1) (.int .i64 Q.c2) (.int .i64 Q.last) (.int .i64 R.c0) (.int .i64 R.c1) (.int .i64 R.c2) (.int .i64 R.last) (.slice a4 m.length cap4) (.int .i64 s)) (fun ad e e2 => by injection e2 with e2; have := hf5 ad e; omega))
          have B6 := below14 B5 (Nat.le_refl _) (.int .i64 P.c0) (.int .i64 P.c1) (.int .i64 P.c2) (.int .i64 P.last) (.int .i64 Q.c0) (.int .i64 Q.c1) (.int .i64 Q.c2) (.int .i64 Q.last) (.int .i64 R.c0) (.int .i64 R.c1) (.int .i64 R.c2) (.int .i64 R.last) (.slice a4 m.length cap4) (.int .i64 s)
          clear X5 L5 LD5 D5 B5 hf5
          go_wp2_with fail
          go_roundw
          case rel => exact ⟨k + 1, a4, cap4, ⟨P, Q, R, m, s⟩, by omega, by go_num, HW2, D6, L6.out, HF5, B6⟩
          case measure => simp [intOf]; omega
        · have hx1 : (ex == 0) = false := by simp [hx]
          clear X5 L5
          go_wp2_with fail
          go_roundw
          case rel => exact ⟨k + 1, a', cap', ⟨p1, q1, r1, ld, sd⟩, by omega, by go_num, HW, D5, LD5, HF, B5⟩
          case measure => simp [intOf]; omega
    · have HWon := HW
      obtain ⟨hDe, _⟩ := HW.out
      have HM := fun W (i : LogIn W a' DD.l.length cap' DD.l) => (mendAll_any DD.p DD.q DD.r a' DD.l.length cap' DD.l DD.safe W i).mono fun _ _ ⟨z1, z2⟩ => And.intro z1 z2.dw3
      rw [show errOf (worldErr DD.p DD.q DD.r DD.l DD.safe) (mendErr (DD.l.take DD.safe.toNat)) = mendErr DD.cut from by unfold errOf; rw [if_pos (show worldErr DD.p DD.q DD.r DD.l DD.safe = 0 from hDe)]; rfl] at HM
      have hend : ((k : Int) < (xlen : Int)) = False ∨ (((k : Int) < (xlen : Int)) = True ∧ ((k : Int) < 20) = False) := by
        by_cases h1 : k < xlen
        · right; exact ⟨by simp [h1], by simp; omega⟩
        · left; simp; omega
      have HK : Hid (mendErr DD.cut = 0 → _) := fun e => kept_all HWon.out e
      have HMa : Hid (mendErr DD.cut ≠ 0 → mendErr DD.cut = 2) := mendErr_many
      generalize mendErr DD.cut = x3 at *
      generalize ansS x3 (needR (DD.l.take DD.safe.toNat) : Nat) = n3 at *
      clear hDe HW HWon hB hlt
      by_cases hx : x3 = 0
      · obtain ⟨k1, k2, k3, k4, k5⟩ := HK.out hx
        simp only [if_pos hx] at HM
        subst hx
        unfold Wd.err mendWd at k1
        unfold Wd.cut at k1 k2 k3 k4 k5
        dsimp only at k1
        generalize mendR (DD.l.take DD.safe.toNat) = m at *
        have h9 := nine9 k5
        have h12 : ints (pagesR m) = val12 (pgAt (pagesR m) 0) (pgAt (pagesR m) 1) (pgAt (pagesR m) 2) := pages12 m
        have hwl : (winsR m).length ≤ 60 := Nat.le_trans (winsR_le m) k3
        have HWn : Hid ((winsR m).any (fun y => y == t) = true) := List.any_eq_true.2 ⟨t, k4, by simp⟩
        have HW5 : Hid (∀ W a1 cap1, LogIn W a1 m.length cap1 m → Calls Tryz.prog 20 #[.slice a1 m.length cap1] W fun e w' => (∃ a' cap', e = .returned (.tuple #[.slice a' (winsR m).length cap', .int .i64 0]) ∧ (winsR m).length ≤ cap' ∧ Ints W.heap.size w' a' (winsR m)) ∧ Ext W w') := fun W a1 cap1 i => by
          have := wins_any a1 m.length cap1 m W i.recs i.max
          rw [winsOr_ok k2, k2] at this
          exact this
        have HC5 : Hid (∀ W a1 cap1, LogIn W a1 m.length cap1 m → Calls Tryz.prog 21 #[.slice a1 m.length cap1] W fun e w' => e = .returned (.tuple #[.agg (val9 (pgAt (pagesR m) 0) (pgAt (pagesR m) 1) (pgAt (pagesR m) 2)), .int .i64 0]) ∧ Ext W w') := fun W a1 cap1 i => by
          have := cells_any a1 m.length cap1 m W i.recs i.max
          rw [cellsOr_ok k2, k2, h9] at this
          exact this
        have HN5 : Hid (∀ W a1 cap1, LogIn W a1 m.length cap1 m → Calls Tryz.prog 22 #[wdVal (pgAt (pagesR m) 0) (pgAt (pagesR m) 1) (pgAt (pagesR m) 2) (.slice a1 m.length cap1) (m.length : Nat)] W fun e w' => e = .returned (.tuple #[val3 (pgAt (pagesR m) 0) (pgAt (pagesR m) 1) (pgAt (pagesR m) 2), .int .i64 0]) ∧ Ext W w') := fun W a1 cap1 i => by
          have := now_any (pgAt (pagesR m) 0) (pgAt (pagesR m) 1) (pgAt (pagesR m) 2) a1 m.length cap1 m (m.length : Nat) W i.recs i.nil i.max
          rw [nowOr, if_pos k1, k1, h12] at this
          exact this
        clear k1 k2 k4 k5 h9 h12 HK HMa
        generalize pgAt (pagesR m) 0 = p2 at *
        generalize pgAt (pagesR m) 1 = q2 at *
        generalize pgAt (pagesR m) 2 = r2 at *
        generalize ((m.length : Nat) : Int) = s2 at *
        generalize winsR m = ws at *
        obtain ⟨p1, q1, r1, ld, sd⟩ := DD
        dsimp only at D hin HM
        have d_ := D.cell
        have HMM := HM _ hin
        clear HM
        rcases hend with he | ⟨he, he2⟩
        all_goals
          go_wp2_with fail
          refine HMM.mono ?_
          rintro e w4 ⟨hw, a4, cap4, rfl, L4, _⟩
          have o4 := (Ext.refl w4).alloc (.cells (wdCells p2 q2 r2 (.slice a4 m.length cap4) s2) 28)
          have X4 := Blk.new w4 w4.heap.size (wdCells p2 q2 r2 (.slice a4 m.length cap4) s2) 28 rfl
          have E5 := (E4.trans hw).trans o4
          have R4 := L4.ext o4
          clear hw o4 L4 d_ D hin HMM he
          have x4 := X4.cell
          go_wp2_with fail
          refine (HW5.out _ _ _ R4).mono ?_
          rintro e w5 ⟨⟨a6, cap6, rfl, hwc, hI⟩, hw⟩
          have E6 := E5.trans hw
          have X5 := X4.ext hw
          have R5 := R4.ext hw
          clear hw x4 X4 R4 E5
          generalize w4.heap.size = bx at *
          have x5 := X5.cell
          go_wp2_with fail
          refine (HC5.out _ _ _ R5).mono ?_
          rintro e w6 ⟨rfl, hw⟩
          have o6 := hw.alloc (.cells (val9 p2 q2 r2) 48)
          have C6 := Blk.new w6 w6.heap.size (val9 p2 q2 r2) 48 rfl
          have E7 := E6.trans o6
          have X6 := X5.ext o6
          have R6 := R5.ext o6
          have I6 := hI.ext o6
          clear hw o6 x5 X5 R5 E6 hI
          have x6 := X6.cell
          go_wp2_with fail
          refine (HN5.out _ _ _ R6).mono ?_
          rintro e w7 ⟨rfl, hw⟩
          have o7 := hw.alloc (.cells (val12 p2 q2 r2) 25)
          have D7 := Blk.new w7 w7.heap.size (val12 p2 q2 r2) 25 rfl
          have E8 := E7.trans o7
          have C7 := C6.ext o7
          have I7 := I6.ext o7
          clear hw o7 x6 X6 R6 E7 C6 I6 HW5 HC5 HN5
          generalize w6.heap.size = bc at *
          go_wp2_with fail
          generalize w7.alloc (.cells (val12 p2 q2 r2) 25) = w8 at *
          generalize w7.heap.size = bd at *
          go_loopw [21, 22] (fun v i wr2 => ∃ k2 : Nat, k2 ≤ ws.length ∧ i = .int .i64 k2 ∧ v = .bool ((ws.take k2).any fun y => y == t) ∧ Ext w8 wr2) (fun _ i _ => ws.length - (intOf i).toNat)
          case atStart => exact ⟨0, Nat.zero_le _, rfl, rfl, Ext.refl _⟩
          case round =>
            obtain ⟨k2, hk2, rfl, rfl, hE⟩ := hrel
            by_cases hlt2 : k2 < ws.length
            · obtain ⟨bi, rfl, ci⟩ := (I7.ext hE).at hlt2
              have HA := (show Hid _ from any_take ws t k2 hlt2)
              generalize ws[k2] = y at *
              generalize ((ws.take k2).any fun y => y == t) = bv at *
              cases bv
              · cases hy : (y == t)
                · have HY := (show Hid _ from hy)
                  go_wp2_with fail
                  go_roundw
                  case rel => exact ⟨k2 + 1, by omega, by go_num, by rw [HA.out, HY.out]; rfl, hE⟩
                  case measure => simp [intOf]; omega
                · have HY := (show Hid _ from hy)
                  go_wp2_with fail
                  go_roundw
                  case rel => exact ⟨k2 + 1, by omega, by go_num, by rw [HA.out, HY.out]; rfl, hE⟩
                  case measure => simp [intOf]; omega
              · go_wp2_with fail
                go_roundw
                case rel => exact ⟨k2 + 1, by omega, by go_num, by rw [HA.out]; rfl, hE⟩
                case measure => simp [intOf]; omega
            · have HT : Hid (ws.take k2 = ws) := List.take_of_length_le (by omega)
              rw [HT.out, HWn.out]
              go_wp2_with fail
              refine (actBegun_any _).mono ?_
              rintro e w9 ⟨rfl, hw⟩
              have o9 := hE.trans hw
              have c9 := (C7.ext o9).cell
              have d9 := (D7.ext o9).cell
              have E9 := E8.trans o9
              clear hw o9
              go_wp2_with fail
              refine (is_any p2 q2 r2 _).mono ?_
              rintro e wA ⟨rfl, hw⟩
              go_wp2_with fail
              go_ret
              exact ⟨by first | rfl | simp, E9.trans hw⟩
      · have hx2 := HMa.out hx
        simp only [if_neg hx] at HM
        subst hx2
        unfold noWd at HM
        dsimp only [List.length_nil] at HM
        clear HK HMa hx
        obtain ⟨p1, q1, r1, ld, sd⟩ := DD
        dsimp only at D hin HM
        have d_ := D.cell
        have HMM := HM _ hin
        clear HM
        rcases hend with he | ⟨he, he2⟩
        all_goals
          go_wp2_with fail
          refine HMM.mono ?_
          rintro e w4 ⟨hw, a4, cap4, rfl, L4, _⟩
          have o4 := hw.alloc (.cells (wdCells noPg noPg noPg (.slice a4 0 cap4) 0) 28)
          have E5 := E4.trans o4
          clear hw o4 L4 d_ D hin HMM he
          go_wp2_with fail
          refine (actBegun_any _).mono ?_
          rintro e w5 ⟨rfl, hw⟩
          go_wp2_with fail
          go_ret
          exact ⟨by first | rfl | simp, E5.trans hw⟩
set_option maxHeartbeats 8000000 in
theorem actKept_go (w : World) (p q r : Pg) (a : Option Addr) (len cap : Nat) (l : List Rc) (safe : Int) (h : LogIn w a len cap l) (t : Int) (_ht : IntKind.i64.has t) (xa : Option Addr) (xlen xcap : Nat) (xs : List Ac) (hxs : Acts w xa xlen xs ∧ xlen ≤ xcap ∧ xlen ≤ maxLen) :
    Calls Tryz.prog 6 #[wdVal p q r (.slice a len cap) safe, .int .i64 t, .slice xa xlen xcap] w fun e w' => e = .returned (.bool true) ∧ Ext w w' := by
  by_cases hz : errOf (worldErr p q r l safe) (commitErr l t) = 0
  · exact actKept_ok w p q r a len cap l safe h t xa xlen xcap xs hxs.1 hxs.2.2 hz
  · have HC := fun W (e : Ext w W) => (workCommit_any p q r a len cap l safe t W (h.ext e)).mono fun _ _ ⟨h1, h2⟩ => And.intro h1 h2.dw
    simp only [if_neg hz] at HC
    have hb : (errOf (worldErr p q r l safe) (commitErr l t) != 0) = true := by simpa using hz
    generalize errOf (worldErr p q r l safe) (commitErr l t) = x1 at *
    unfold DoW noWd at HC
    dsimp only [List.length_nil] at HC
    have E0 := (Ext.refl w).alloc (.cells (wdCells p q r (.slice a len cap) safe) 28)
    have b0 := (Blk.new w w.heap.size (wdCells p q r (.slice a len cap) safe) 28 rfl).cell
    go_enter Tryz.func6, Tryz.ntmps6
    go_wp2_with fail
    refine (HC _ E0).mono ?_
    rintro e w1 ⟨hw, a1, cap1, rfl, L1, _⟩
    have o1 := hw.alloc (.cells (wdCells noPg noPg noPg (.slice a1 0 cap1) 0) 28)
    have E1 := E0.trans o1
    clear hw o1 b0 E0 HC L1
    go_wp2_with fail
    refine (actBegun_any _).mono ?_
    rintro e w3 ⟨rfl, hw⟩
    go_wp2_with fail
    go_ret
    exact ⟨by first | rfl | simp, E1.trans hw⟩

set_option maxRecDepth 100000 in
theorem actKept_lifted (os : Os) (started : os.Started) (H : Type) (enc : TypeId × Value → H) :
    ReturnsInHanded {} Tryz.checked os 6 .any (Rows.actKeptSpec.pre6 enc Tryz.prog Tryz.f6 Rows.actKeptRow.domain false) (Rows.actKeptSpec.post enc Tryz.prog Tryz.f6 false true false false) := by
  refine returnsInHanded_of_change (C := Tryz.checked) own started (by kernel_rfl) Tryz.func6
    (ChangeSpec.witness6 (enc := enc) (C := Tryz.checked) false ⟨#[], #[.agg #[.int .i64 0, .int .i64 0, .int .i64 0, .int .i64 0, .int .i64 0, .int .i64 0, .int .i64 0, .int .i64 0, .int .i64 0, .int .i64 0, .int .i64 0, .int .i64 0, .slice none 0 0, .int .i64 0], .int .i64 0, .slice none 0 0], []⟩ 8 (by kernel_rfl) (by kernel_rfl) (by kernel_rfl) (by kernel_rfl)) ?_
  intro W base args ds gs before hval0 hW hcnd _
  have hval : ∀ (j : Nat) t v, Tryz.f6.params[j]? = some t → args[j]? = some v → Value.okWide Tryz.prog W .any base t v := hval0
  have hW' := hW
  obtain ⟨p, q, hA0, hV, rfl, hfz, hnd⟩ := hW
  have hA : DataW.TrodAll enc Tryz.prog W 0 (fun _ => true) true Tryz.f6.params.toList args.toList ds p := hA0
  rw [Tryz.params6] at hA hval
  obtain ⟨v0, vs0, d0, ds0, p0, q0, hargs, rfl, rfl, h0, r0⟩ := trodAll_cons hA
  obtain ⟨v1, vs1, d1, ds1, p1, q1, rfl, rfl, rfl, h1, r1⟩ := trodAll_cons r0
  obtain ⟨v2, vs2, d2, ds2, p2, q2, rfl, rfl, rfl, h2, r2⟩ := trodAll_cons r1
  obtain ⟨rfl, rfl, rfl⟩ := trodAll_nil r2
  obtain rfl : args = #[v0, v1, v2] := by cases args; simp_all
  obtain ⟨rfl, rfl⟩ := trodVars_none hV
  obtain ⟨P0, Q0, R0, x0, len0, cap0, l0, safe0, rfl, s0⟩ := open_wd (hval 0 28 v0 rfl rfl) h0
  obtain ⟨a1, rfl, b1⟩ := open_num (hval 1 3 v1 rfl rfl)
  obtain ⟨x2, len2, cap2, l2, rfl, s2⟩ := open_acts (hval 2 37 v2 rfl rfl) h2
  clear hA0 hval0
  refine (actKept_go W P0 Q0 R0 x0 len0 cap0 l0 safe0 s0 a1 b1 x2 len2 cap2 l2 s2).mono fun e W' ⟨he, bel⟩ => ?_
  subst he
  exact ⟨_, rfl, _, _, _, [], _, [], hW', trodAll_mk1 (shut_bool Tryz.underlying4 _),
    (trodAll_cons_mk (Below.trod laidOut (by kernel_rfl) (of_decide_eq_true (by kernel_rfl)) h0 bel (lt_of_trod h0))
    (trodAll_cons_mk (Below.trod laidOut (by kernel_rfl) (of_decide_eq_true (by kernel_rfl)) h1 bel (lt_of_trod h1))
    (trodAll_cons_mk (Below.trod laidOut (by kernel_rfl) (of_decide_eq_true (by kernel_rfl)) h2 bel (lt_of_trod h2))
    trodAll_mk0))), rfl, bel.frame _, fun h => by cases h⟩

theorem actKept_over : Rows.actKeptRow.holds Tryz.pinned (OpenSpec.ofChange Rows.actKeptSpec) :=
  OpenClaim.holds_of_wide 6 Tryz.f6 rfl rfl rfl rfl rfl rfl rfl ⟨rfl, rfl, rfl, rfl, rfl⟩ rfl rfl rfl rfl rfl (by kernel_rfl) Tryz.func6 (by kernel_rfl)
    (of_decide_eq_true (by kernel_rfl)) (by unfold Func.isWrapper; first | (rw [if_pos (by decide +kernel)]; kernel_rfl) | (rw [if_neg (by decide +kernel)]; exact ⟨rfl, rfl⟩))
    (fun os started H enc _ => actKept_lifted os started H enc)
end Go.Proofs.YtbfefocehnafgaaGreat.B
namespace Go.Proofs.YtbfefocehnafgaaGreat
theorem actKept_holds : Rows.ActKeptSaid := B.actKept_over
#print axioms actKept_holds
end Go.Proofs.YtbfefocehnafgaaGreat

