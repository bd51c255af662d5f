/- FlushTrue holds: what goes to the disk turns nothing: the pages are as they were, and the log; no less is safe; and nothing lies there that the safe log does not tell of. -/
import Derived.Test.YtmccggfegllfnaaFlush4
import Derived.Test.YtmccggfegllfnaaFlush5
import Derived.Test.YtmccggfegllfnaaChoose
import Derived.Deep.DeepCutAuto
namespace Go.Proofs.Ytmccggfegllfnaa.B
set_option maxRecDepth 100000
open Go.ChangeShapes Go.WideShapes Go.ChangeAt Go.RowKit

set_option maxHeartbeats 16000000 in
theorem flushTrue_go (w : World) (p q r : Pg) (a : Option Addr) (len cap : Nat) (l : List Rc) (safe : Int) (h : LogIn w a len cap l) (n : Int) (_ : IntKind.i64.has n) (o : Int) (ho : IntKind.i64.has o) :
    Calls Try.prog 8 #[wdVal p q r (.slice a len cap) safe, .int .i64 n, .int .i64 o] w fun e w' => e = .returned (.bool true) ∧ Ext w w' := by
  obtain rfl := h.recs.len
  have hc3 := chooseN_lt o (n := 3) (by decide)
  have HC := fun w' => choose_any o 3 w' ho (by decide) (by decide)
  obtain ⟨c, hc⟩ : ∃ c, chooseN o 3 = c := ⟨_, rfl⟩
  rw [hc] at HC hc3
  clear hc
  have H1 := fun w' (e : Ext w w') => flushSync_any p q r a l.length cap l safe n w' (h.ext e)
  have HA : Hid (errOf (worldErr p q r l safe) (syncErr l n) = 0 → _) := fun h0 => flush_all h0 c hc3
  have HB1 := fun w' (_ : Ext w w') => flushBegun_any w'
  generalize errOf (worldErr p q r l safe) (syncErr l n) = xx at *
  obtain ⟨j0, j1, j2, j3, j4, j5, j6, j7, j8, j9, j10, j11, hpa⟩ := list12 _ (pagesR_len l)
  have Q0 : Hid (c = 0 → layPg l c 0 p = ⟨j0, j1, j2, j3⟩) := fun e => by unfold layPg; rw [if_pos (by rw [e]), hpa]; rfl
  have Q1 : Hid (c = 1 → layPg l c 1 q = ⟨j4, j5, j6, j7⟩) := fun e => by unfold layPg; rw [if_pos (by rw [e]), hpa]; rfl
  have Q2 : Hid (c = 2 → layPg l c 2 r = ⟨j8, j9, j10, j11⟩) := fun e => by unfold layPg; rw [if_pos (by rw [e]), hpa]; rfl
  have E0 := (Ext.refl w).alloc (.cells (wdCells p q r (.slice a l.length cap) safe) 28)
  have B0 := Blk.new w w.heap.size (wdCells p q r (.slice a l.length cap) safe) 28 rfl
  have b0 := B0.cell
  go_enter Try.func8, Try.ntmps8
  go_wp2_with fail
  refine (H1 _ E0).mono ?_
  rintro e w1 ⟨hw, ⟨hx, a1, cap1, rfl, hin1, _⟩ | ⟨hx, rfl⟩⟩
  rotate_left
  · have HX := (show Hid (xx ≠ 0) from hx)
    have hb : (xx != 0) = true := by simpa using hx
    have E1 := (E0.trans hw).alloc (.cells (wdCells noPg noPg noPg (.slice none 0 0) 0) 28)
    clear hx HA H1 b0 hw E0 B0
    go_wp2_with fail
    refine (HB1 _ E1).mono ?_
    rintro e w3 ⟨rfl, hw⟩
    go_wp2_with fail
    go_ret
    exact ⟨by simp, E1.trans hw⟩
  obtain ⟨hz, hlz, hz1, he2, hz2, g1, g2, g3⟩ := HA.out hx
  have hl60 := (logErr_zero hlz).1
  clear HA hx H1
  have o1 := (Ext.refl w1).alloc (.cells (wdCells p q r (.slice a1 l.length cap1) (maxI safe n)) 28)
  have X := Blk.new w1 w1.heap.size (wdCells p q r (.slice a1 l.length cap1) (maxI safe n)) 28 rfl
  have E1 := (E0.trans hw).trans o1
  have B1 := (B0.ext hw).ext o1
  have I1 := hin1.ext o1
  clear hw o1 b0 B0 E0 hin1
  obtain ⟨hl1, hl2, hl3⟩ := world_last hz2
  have HN1 := fun w' (e : Ext w w') => now_any p q r a l.length cap l safe w' (h.recs.ext e) h.nil h.max
  have HN2 := fun w' a' cap' (i : LogIn w' a' l.length cap' l) => now_any (layPg l c 0 p) (layPg l c 1 q) (layPg l c 2 r) a' l.length cap' l (laySafe l (maxI safe n) c) w' i.recs i.nil i.max
  have HK := fun w' a' cap' (i : LogIn w' a' l.length cap' l) => worldCheck_any (layPg l c 0 p) (layPg l c 1 q) (layPg l c 2 r) a' l.length cap' l (laySafe l (maxI safe n) c) w' i.recs i.nil i.max
  have HP := fun w' (i : LogIn w' a1 l.length cap1 l) => flushPage_any p q r a1 l.length cap1 l (maxI safe n) c w' i
  rw [he2] at HP
  rw [hz, show nowOr p q r l safe = pagesR l from by unfold nowOr; rw [if_pos hz], hpa] at HN1
  rw [hz2, show nowOr (layPg l c 0 p) (layPg l c 1 q) (layPg l c 2 r) l (laySafe l (maxI safe n) c) = pagesR l from by unfold nowOr; rw [if_pos hz2], hpa] at HN2
  rw [hz2] at HK
  rw [show ints [j0, j1, j2, j3, j4, j5, j6, j7, j8, j9, j10, j11] = #[.int .i64 j0, .int .i64 j1, .int .i64 j2, .int .i64 j3, .int .i64 j4, .int .i64 j5, .int .i64 j6, .int .i64 j7, .int .i64 j8, .int .i64 j9, .int .i64 j10, .int .i64 j11] from rfl] at HN1 HN2
  clear hz hlz hz1 he2 hz2 hpa
  generalize layPg l c 0 p = p' at *
  generalize layPg l c 1 q = q' at *
  generalize layPg l c 2 r = r' at *
  generalize laySafe l (maxI safe n) c = s' at *
  generalize maxI safe n = s1 at *
  have G1 := (show Hid (safe ≤ s1 ∧ n ≤ s1 ∧ s1 ≤ s') from ⟨g1, g2, g3⟩)
  have G2 := (show Hid (p'.last ≤ s' ∧ q'.last ≤ s' ∧ r'.last ≤ s') from ⟨hl1, hl2, hl3⟩)
  clear g1 g2 g3 hl1 hl2 hl3
  go_wp2_with fail
  have Ed := (Ext.refl (w1.alloc (.cells (wdCells p q r (.slice a1 l.length cap1) s1) 28))).drew
  have hXW : w1.heap.size < (w1.alloc (.cells (wdCells p q r (.slice a1 l.length cap1) s1) 28)).heap.size := X.lt
  generalize w1.alloc (.cells (wdCells p q r (.slice a1 l.length cap1) s1) 28) = W at *
  go_cut [9, 10] (fun s9 s10 wx => ∃ (by_ : Nat) (ay : Option Addr) (cy : Nat), s9 = .pointer (some ⟨by_, 0, none⟩) ∧ s10 = .int .i64 0 ∧ Blk wx by_ (wdCells p' q' r' (.slice ay l.length cy) s') 28 ∧ LogIn wx ay l.length cy l ∧ Ext W wx)
  case first =>
    refine wp_region_held_drew (S := fun w' => ∀ o, w'.cell? ⟨w1.heap.size, o, none⟩ = (wdCells p q r (.slice a1 l.length cap1) s1)[o]?) (by kernel_rfl) (X.ext Ed).cell (fun hHeld => ?_)
    refine wpAnyH_take (i := 0) (v := ?v1) rfl (by kernel_rfl) (by kernel_rfl) (by kernel_rfl) (fun _ _ _ h => h) (Or.inl ⟨by rfl, ?hy1⟩) hHeld ?r1
    case hy1 => first | (intro w hSw; (try dsimp only at hSw); go_simp; done) | (intro w hSw; (try dsimp only at hSw); go_simp; with_reducible rfl)
    simp only [Act.put]
    refine wpAnyH_take (i := 1) (v := ?v2) rfl (by kernel_rfl) (by kernel_rfl) (by kernel_rfl) (fun _ _ _ h => h) (Or.inl ⟨by rfl, ?hy2⟩) hHeld ?r2
    case hy2 => first | (intro w hSw; (try dsimp only at hSw); go_simp; done) | (intro w hSw; (try dsimp only at hSw); go_simp; with_reducible rfl)
    simp only [Act.put]
    refine wpAnyH_ready (rs := [2, 7]) (by kernel_rfl) (by simp) ?_
    refine AllReadyH.cons rfl (fun K hK => ?_) (AllReadyH.cons rfl (fun K hK => ?_) AllReadyH.nil)
    · go_simp
      refine (HC _).mono ?_
      rintro e w2 ⟨rfl, rfl⟩
      go_wp2_with fail
      refine hK.out _ _ hHeld (fun hHeld => ?_)
      clear hK K
      refine wpAnyH_ready (rs := [3, 7]) (by kernel_rfl) (by simp) ?_
      refine AllReadyH.cons rfl (fun K hK => ?_) (AllReadyH.cons rfl (fun K hK => ?_) AllReadyH.nil)
      · go_simp
        refine (HP _ (I1.ext Ed)).mono ?_
        rintro e w3 ⟨hw, ⟨_, a3, cap3, rfl, hin3, hfr3⟩ | ⟨hx, _⟩⟩
        rotate_left
        · exact absurd rfl hx
        have X3 := (X.ext Ed).ext hw
        have E3 := (Ed).trans hw
        go_wp2_with fail
        refine hK.out _ _ X3.cell (fun hHeld => ?_)
        clear hK K
        refine wpAnyH_take (i := 4) (v := ?v3) rfl (by kernel_rfl) (by kernel_rfl) (by kernel_rfl) (fun _ _ _ h => h) (Or.inl ⟨by rfl, ?hy3⟩) hHeld ?r3
        case hy3 => first | (intro w hSw; (try dsimp only at hSw); go_simp; done) | (intro w hSw; (try dsimp only at hSw); go_simp; with_reducible rfl)
        simp only [Act.put]
        refine wpAnyH_take (i := 5) (v := ?v4) rfl (by kernel_rfl) (by kernel_rfl) (by kernel_rfl) (fun _ _ _ h => h) (Or.inl ⟨by rfl, ?hy4⟩) hHeld ?r4
        case hy4 => first | (intro w hSw; (try dsimp only at hSw); go_simp; done) | (intro w hSw; (try dsimp only at hSw); go_simp; with_reducible rfl)
        simp only [Act.put]
        refine wpAnyH_take (i := 6) (v := ?v5) rfl (by kernel_rfl) (by kernel_rfl) (by kernel_rfl) (fun _ _ _ h => h) (Or.inl ⟨by rfl, ?hy5⟩) hHeld ?r5
        case hy5 => first | (intro w hSw; (try dsimp only at hSw); go_simp; done) | (intro w hSw; (try dsimp only at hSw); go_simp; with_reducible rfl)
        simp only [Act.put]
        refine wpAnyH_ready (rs := [7]) (by kernel_rfl) (by simp) ?_
        refine AllReadyH.cons rfl (fun K hK => ?_) AllReadyH.nil
        go_simp
        have hs3 := E3.size
        have X5 := X3.alloc (.cells #[.int .i64 0, .int .i64 0, .int .i64 0, .int .i64 0, .int .i64 0, .int .i64 0, .int .i64 0, .int .i64 0, .int .i64 0, .int .i64 0, .int .i64 0, .int .i64 0, .slice none 0 0, .int .i64 0] 28)
        have E5 := E3.alloc (.cells #[.int .i64 0, .int .i64 0, .int .i64 0, .int .i64 0, .int .i64 0, .int .i64 0, .int .i64 0, .int .i64 0, .int .i64 0, .int .i64 0, .int .i64 0, .int .i64 0, .slice none 0 0, .int .i64 0] 28)
        have Z5 := Blk.new w3 w3.heap.size #[.int .i64 0, .int .i64 0, .int .i64 0, .int .i64 0, .int .i64 0, .int .i64 0, .int .i64 0, .int .i64 0, .int .i64 0, .int .i64 0, .int .i64 0, .int .i64 0, .slice none 0 0, .int .i64 0] 28 rfl
        have L6 := (show Hid _ from hin3.ext (put14_ext ((Ext.refl w3).alloc (.cells #[.int .i64 0, .int .i64 0, .int .i64 0, .int .i64 0, .int .i64 0, .int .i64 0, .int .i64 0, .int .i64 0, .int .i64 0, .int .i64 0, .int .i64 0, .int .i64 0, .slice none 0 0, .int .i64 0] 28)) w3.heap.size (Nat.le_refl _) (.int .i64 p'.c0) (.int .i64 p'.c1) (.int .i64 p'.c2) (.int .i64 p'.last) (.int .i64 q'.c0) (.int .i64 q'.c1) (.int .i64 q'.c2) (.int .i64 q'.last) (.int .i64 r'.c0) (.int .i64 r'.c1) (.int .i64 r'.c2) (.int .i64 r'.last) (.slice a3 l.length cap3) (.int .i64 s')))
        have hbx : w1.heap.size ≠ w3.heap.size := by omega
        have hbz : W.heap.size ≤ w3.heap.size := hs3
        refine hK.out _ _ X5.cell (fun hHeld => ?_)
        clear hK K
        generalize w3.alloc (.cells #[.int .i64 0, .int .i64 0, .int .i64 0, .int .i64 0, .int .i64 0, .int .i64 0, .int .i64 0, .int .i64 0, .int .i64 0, .int .i64 0, .int .i64 0, .int .i64 0, .slice none 0 0, .int .i64 0] 28) = w5 at *
        have X6 := put14_other X5 w3.heap.size hbx (.int .i64 p'.c0) (.int .i64 p'.c1) (.int .i64 p'.c2) (.int .i64 p'.last) (.int .i64 q'.c0) (.int .i64 q'.c1) (.int .i64 q'.c2) (.int .i64 q'.last) (.int .i64 r'.c0) (.int .i64 r'.c1) (.int .i64 r'.c2) (.int .i64 r'.last) (.slice a3 l.length cap3) (.int .i64 s')
        have Z6 := put14_blk Z5 (.int .i64 p'.c0) (.int .i64 p'.c1) (.int .i64 p'.c2) (.int .i64 p'.last) (.int .i64 q'.c0) (.int .i64 q'.c1) (.int .i64 q'.c2) (.int .i64 q'.last) (.int .i64 r'.c0) (.int .i64 r'.c1) (.int .i64 r'.c2) (.int .i64 r'.last) (.slice a3 l.length cap3) (.int .i64 s')
        have E6 := put14_ext E5 w3.heap.size hbz (.int .i64 p'.c0) (.int .i64 p'.c1) (.int .i64 p'.c2) (.int .i64 p'.last) (.int .i64 q'.c0) (.int .i64 q'.c1) (.int .i64 q'.c2) (.int .i64 q'.last) (.int .i64 r'.c0) (.int .i64 r'.c1) (.int .i64 r'.c2) (.int .i64 r'.last) (.slice a3 l.length cap3) (.int .i64 s')
        have z5 := Z5.cell
        have f5 := Z5.fr
        refine wpAnyH_ready (rs := [8]) (by kernel_rfl) (by simp) ?_
        refine AllReadyH.cons rfl (fun K hK => ?_) AllReadyH.nil
        go_simp
        refine hK.out _ _ X6.cell (fun hHeld => ?_)
        clear hK K z5 f5
        refine wpAnyH_ready (rs := [9]) (by kernel_rfl) (by simp) ?_
        refine AllReadyH.cons rfl (fun K hK => ?_) AllReadyH.nil
        go_simp
        refine hK.out _ _ X6.cell (fun hHeld => ?_)
        clear hK K hHeld
        refine wpAnyH_done (by kernel_rfl) ?_ _
        go_wp2_with fail
        go_meet
        case rel => exact ⟨_, a3, cap3, rfl, rfl, Z6, L6.out, E6⟩
      · go_simp
        have o5 := ((Ext.refl W).alloc (.cells #[.int .i64 0, .int .i64 0, .int .i64 0, .int .i64 0, .int .i64 0, .int .i64 0, .int .i64 0, .int .i64 0, .int .i64 0, .int .i64 0, .int .i64 0, .int .i64 0, .slice none 0 0, .int .i64 0] 28)).drew
        have X4 := X.ext o5
        have Z4 := (Blk.new W W.heap.size #[.int .i64 0, .int .i64 0, .int .i64 0, .int .i64 0, .int .i64 0, .int .i64 0, .int .i64 0, .int .i64 0, .int .i64 0, .int .i64 0, .int .i64 0, .int .i64 0, .slice none 0 0, .int .i64 0] 28 rfl).drew
        have I4 := I1.ext o5
        refine hK.out _ _ X4.cell (fun hHeld => ?_)
        clear hK K
        generalize (W.alloc (.cells #[.int .i64 0, .int .i64 0, .int .i64 0, .int .i64 0, .int .i64 0, .int .i64 0, .int .i64 0, .int .i64 0, .int .i64 0, .int .i64 0, .int .i64 0, .int .i64 0, .slice none 0 0, .int .i64 0] 28)).drew = w2 at *
        refine wpAnyH_ready (rs := [3]) (by kernel_rfl) (by simp) ?_
        refine AllReadyH.cons rfl (fun K hK => ?_) AllReadyH.nil
        go_simp
        refine (HP _ (I4)).mono ?_
        rintro e w3 ⟨hw, ⟨_, a3, cap3, rfl, hin3, hfr3⟩ | ⟨hx, _⟩⟩
        rotate_left
        · exact absurd rfl hx
        have X3 := (X4).ext hw
        have E3 := (o5).trans hw
        have Z5 := Z4.ext hw
        have X5 := X3
        have E5 := E3
        have hbx : w1.heap.size ≠ W.heap.size := by omega
        have hbz : W.heap.size ≤ W.heap.size := Nat.le_refl _
        have hzl := Z4.lt
        have L6 := (show Hid _ from hin3.gr (put14_gr w3 W.heap.size (.int .i64 p'.c0) (.int .i64 p'.c1) (.int .i64 p'.c2) (.int .i64 p'.last) (.int .i64 q'.c0) (.int .i64 q'.c1) (.int .i64 q'.c2) (.int .i64 q'.last) (.int .i64 r'.c0) (.int .i64 r'.c1) (.int .i64 r'.c2) (.int .i64 r'.last) (.slice a3 l.length cap3) (.int .i64 s')) (fun ad e e2 => by injection e2 with e2; have := hfr3 ad e; omega))
        go_wp2_with fail
        refine hK.out _ _ X3.cell (fun hHeld => ?_)
        clear hK K
        refine wpAnyH_take (i := 4) (v := ?v6) rfl (by kernel_rfl) (by kernel_rfl) (by kernel_rfl) (fun _ _ _ h => h) (Or.inl ⟨by rfl, ?hy6⟩) hHeld ?r6
        case hy6 => first | (intro w hSw; (try dsimp only at hSw); go_simp; done) | (intro w hSw; (try dsimp only at hSw); go_simp; with_reducible rfl)
        simp only [Act.put]
        refine wpAnyH_take (i := 5) (v := ?v7) rfl (by kernel_rfl) (by kernel_rfl) (by kernel_rfl) (fun _ _ _ h => h) (Or.inl ⟨by rfl, ?hy7⟩) hHeld ?r7
        case hy7 => first | (intro w hSw; (try dsimp only at hSw); go_simp; done) | (intro w hSw; (try dsimp only at hSw); go_simp; with_reducible rfl)
        simp only [Act.put]
        refine wpAnyH_take (i := 6) (v := ?v8) rfl (by kernel_rfl) (by kernel_rfl) (by kernel_rfl) (fun _ _ _ h => h) (Or.inl ⟨by rfl, ?hy8⟩) hHeld ?r8
        case hy8 => first | (intro w hSw; (try dsimp only at hSw); go_simp; done) | (intro w hSw; (try dsimp only at hSw); go_simp; with_reducible rfl)
        simp only [Act.put]
        have X6 := put14_other X5 W.heap.size hbx (.int .i64 p'.c0) (.int .i64 p'.c1) (.int .i64 p'.c2) (.int .i64 p'.last) (.int .i64 q'.c0) (.int .i64 q'.c1) (.int .i64 q'.c2) (.int .i64 q'.last) (.int .i64 r'.c0) (.int .i64 r'.c1) (.int .i64 r'.c2) (.int .i64 r'.last) (.slice a3 l.length cap3) (.int .i64 s')
        have Z6 := put14_blk Z5 (.int .i64 p'.c0) (.int .i64 p'.c1) (.int .i64 p'.c2) (.int .i64 p'.last) (.int .i64 q'.c0) (.int .i64 q'.c1) (.int .i64 q'.c2) (.int .i64 q'.last) (.int .i64 r'.c0) (.int .i64 r'.c1) (.int .i64 r'.c2) (.int .i64 r'.last) (.slice a3 l.length cap3) (.int .i64 s')
        have E6 := put14_ext E5 W.heap.size hbz (.int .i64 p'.c0) (.int .i64 p'.c1) (.int .i64 p'.c2) (.int .i64 p'.last) (.int .i64 q'.c0) (.int .i64 q'.c1) (.int .i64 q'.c2) (.int .i64 q'.last) (.int .i64 r'.c0) (.int .i64 r'.c1) (.int .i64 r'.c2) (.int .i64 r'.last) (.slice a3 l.length cap3) (.int .i64 s')
        have z5 := Z5.cell
        have f5 := Z5.fr
        refine wpAnyH_ready (rs := [8]) (by kernel_rfl) (by simp) ?_
        refine AllReadyH.cons rfl (fun K hK => ?_) AllReadyH.nil
        go_simp
        refine hK.out _ _ X6.cell (fun hHeld => ?_)
        clear hK K z5 f5
        refine wpAnyH_ready (rs := [9]) (by kernel_rfl) (by simp) ?_
        refine AllReadyH.cons rfl (fun K hK => ?_) AllReadyH.nil
        go_simp
        refine hK.out _ _ X6.cell (fun hHeld => ?_)
        clear hK K hHeld
        refine wpAnyH_done (by kernel_rfl) ?_ _
        go_wp2_with fail
        go_meet
        case rel => exact ⟨_, a3, cap3, rfl, rfl, Z6, L6.out, E6⟩
    · go_simp
      have o5 := ((Ext.refl W).alloc (.cells #[.int .i64 0, .int .i64 0, .int .i64 0, .int .i64 0, .int .i64 0, .int .i64 0, .int .i64 0, .int .i64 0, .int .i64 0, .int .i64 0, .int .i64 0, .int .i64 0, .slice none 0 0, .int .i64 0] 28)).drew
      have X4 := X.ext o5
      have Z4 := (Blk.new W W.heap.size #[.int .i64 0, .int .i64 0, .int .i64 0, .int .i64 0, .int .i64 0, .int .i64 0, .int .i64 0, .int .i64 0, .int .i64 0, .int .i64 0, .int .i64 0, .int .i64 0, .slice none 0 0, .int .i64 0] 28 rfl).drew
      have I4 := I1.ext o5
      refine hK.out _ _ X4.cell (fun hHeld => ?_)
      clear hK K
      generalize (W.alloc (.cells #[.int .i64 0, .int .i64 0, .int .i64 0, .int .i64 0, .int .i64 0, .int .i64 0, .int .i64 0, .int .i64 0, .int .i64 0, .int .i64 0, .int .i64 0, .int .i64 0, .slice none 0 0, .int .i64 0] 28)).drew = w2 at *
      refine wpAnyH_ready (rs := [2]) (by kernel_rfl) (by simp) ?_
      refine AllReadyH.cons rfl (fun K hK => ?_) AllReadyH.nil
      go_simp
      refine (HC _).mono ?_
      rintro e w2 ⟨rfl, rfl⟩
      go_wp2_with fail
      refine hK.out _ _ hHeld (fun hHeld => ?_)
      clear hK K
      refine wpAnyH_ready (rs := [3]) (by kernel_rfl) (by simp) ?_
      refine AllReadyH.cons rfl (fun K hK => ?_) AllReadyH.nil
      go_simp
      refine (HP _ (I4)).mono ?_
      rintro e w3 ⟨hw, ⟨_, a3, cap3, rfl, hin3, hfr3⟩ | ⟨hx, _⟩⟩
      rotate_left
      · exact absurd rfl hx
      have X3 := (X4).ext hw
      have E3 := (o5).trans hw
      have Z5 := Z4.ext hw
      have X5 := X3
      have E5 := E3
      have hbx : w1.heap.size ≠ W.heap.size := by omega
      have hbz : W.heap.size ≤ W.heap.size := Nat.le_refl _
      have hzl := Z4.lt
      have L6 := (show Hid _ from hin3.gr (put14_gr w3 W.heap.size (.int .i64 p'.c0) (.int .i64 p'.c1) (.int .i64 p'.c2) (.int .i64 p'.last) (.int .i64 q'.c0) (.int .i64 q'.c1) (.int .i64 q'.c2) (.int .i64 q'.last) (.int .i64 r'.c0) (.int .i64 r'.c1) (.int .i64 r'.c2) (.int .i64 r'.last) (.slice a3 l.length cap3) (.int .i64 s')) (fun ad e e2 => by injection e2 with e2; have := hfr3 ad e; omega))
      go_wp2_with fail
      refine hK.out _ _ X3.cell (fun hHeld => ?_)
      clear hK K
      refine wpAnyH_take (i := 4) (v := ?v9) rfl (by kernel_rfl) (by kernel_rfl) (by kernel_rfl) (fun _ _ _ h => h) (Or.inl ⟨by rfl, ?hy9⟩) hHeld ?r9
      case hy9 => first | (intro w hSw; (try dsimp only at hSw); go_simp; done) | (intro w hSw; (try dsimp only at hSw); go_simp; with_reducible rfl)
      simp only [Act.put]
      refine wpAnyH_take (i := 5) (v := ?v10) rfl (by kernel_rfl) (by kernel_rfl) (by kernel_rfl) (fun _ _ _ h => h) (Or.inl ⟨by rfl, ?hy10⟩) hHeld ?r10
      case hy10 => first | (intro w hSw; (try dsimp only at hSw); go_simp; done) | (intro w hSw; (try dsimp only at hSw); go_simp; with_reducible rfl)
      simp only [Act.put]
      refine wpAnyH_take (i := 6) (v := ?v11) rfl (by kernel_rfl) (by kernel_rfl) (by kernel_rfl) (fun _ _ _ h => h) (Or.inl ⟨by rfl, ?hy11⟩) hHeld ?r11
      case hy11 => first | (intro w hSw; (try dsimp only at hSw); go_simp; done) | (intro w hSw; (try dsimp only at hSw); go_simp; with_reducible rfl)
      simp only [Act.put]
      have X6 := put14_other X5 W.heap.size hbx (.int .i64 p'.c0) (.int .i64 p'.c1) (.int .i64 p'.c2) (.int .i64 p'.last) (.int .i64 q'.c0) (.int .i64 q'.c1) (.int .i64 q'.c2) (.int .i64 q'.last) (.int .i64 r'.c0) (.int .i64 r'.c1) (.int .i64 r'.c2) (.int .i64 r'.last) (.slice a3 l.length cap3) (.int .i64 s')
      have Z6 := put14_blk Z5 (.int .i64 p'.c0) (.int .i64 p'.c1) (.int .i64 p'.c2) (.int .i64 p'.last) (.int .i64 q'.c0) (.int .i64 q'.c1) (.int .i64 q'.c2) (.int .i64 q'.last) (.int .i64 r'.c0) (.int .i64 r'.c1) (.int .i64 r'.c2) (.int .i64 r'.last) (.slice a3 l.length cap3) (.int .i64 s')
      have E6 := put14_ext E5 W.heap.size hbz (.int .i64 p'.c0) (.int .i64 p'.c1) (.int .i64 p'.c2) (.int .i64 p'.last) (.int .i64 q'.c0) (.int .i64 q'.c1) (.int .i64 q'.c2) (.int .i64 q'.last) (.int .i64 r'.c0) (.int .i64 r'.c1) (.int .i64 r'.c2) (.int .i64 r'.last) (.slice a3 l.length cap3) (.int .i64 s')
      have z5 := Z5.cell
      have f5 := Z5.fr
      refine wpAnyH_ready (rs := [8]) (by kernel_rfl) (by simp) ?_
      refine AllReadyH.cons rfl (fun K hK => ?_) AllReadyH.nil
      go_simp
      refine hK.out _ _ X6.cell (fun hHeld => ?_)
      clear hK K z5 f5
      refine wpAnyH_ready (rs := [9]) (by kernel_rfl) (by simp) ?_
      refine AllReadyH.cons rfl (fun K hK => ?_) AllReadyH.nil
      go_simp
      refine hK.out _ _ X6.cell (fun hHeld => ?_)
      clear hK K hHeld
      refine wpAnyH_done (by kernel_rfl) ?_ _
      go_wp2_with fail
      go_meet
      case rel => exact ⟨_, a3, cap3, rfl, rfl, Z6, L6.out, E6⟩
  case rest =>
    obtain ⟨by_, ay, cy, rfl, rfl, Y, IY, hx⟩ := hcut
    have E2 := E1.trans hx
    have B2 := B1.ext hx
    have X2 := X.ext hx
    clear hx E1 B1 X Ed I1 HP hXW
    have b2 := B2.cell
    go_wp2_with fail
    refine (HN1 _ E2).mono ?_
    rintro e w3 ⟨rfl, hw⟩
    have o3 := hw.alloc (.cells #[.int .i64 j0, .int .i64 j1, .int .i64 j2, .int .i64 j3, .int .i64 j4, .int .i64 j5, .int .i64 j6, .int .i64 j7, .int .i64 j8, .int .i64 j9, .int .i64 j10, .int .i64 j11] 25)
    have A3 := Blk.new w3 w3.heap.size #[.int .i64 j0, .int .i64 j1, .int .i64 j2, .int .i64 j3, .int .i64 j4, .int .i64 j5, .int .i64 j6, .int .i64 j7, .int .i64 j8, .int .i64 j9, .int .i64 j10, .int .i64 j11] 25 rfl
    have E3 := E2.trans o3
    have B3 := B2.ext o3
    have X3 := X2.ext o3
    have Y3 := Y.ext o3
    have I3 := IY.ext o3
    clear hw o3 b2 B2 X2 Y IY E2 HN1
    have y3 := Y3.cell
    go_wp2_with fail
    refine (HN2 _ ay cy I3).mono ?_
    rintro e w4 ⟨rfl, hw⟩
    have o4 := hw.alloc (.cells #[.int .i64 j0, .int .i64 j1, .int .i64 j2, .int .i64 j3, .int .i64 j4, .int .i64 j5, .int .i64 j6, .int .i64 j7, .int .i64 j8, .int .i64 j9, .int .i64 j10, .int .i64 j11] 25)
    have C4 := Blk.new w4 w4.heap.size #[.int .i64 j0, .int .i64 j1, .int .i64 j2, .int .i64 j3, .int .i64 j4, .int .i64 j5, .int .i64 j6, .int .i64 j7, .int .i64 j8, .int .i64 j9, .int .i64 j10, .int .i64 j11] 25 rfl
    have E4 := E3.trans o4
    have A4 := A3.ext o4
    have B4 := B3.ext o4
    have X4 := X3.ext o4
    have Y4 := Y3.ext o4
    have I4 := I3.ext o4
    clear hw o4 y3 A3 B3 X3 Y3 I3 E3 HN2
    obtain ⟨g1, g2, g3⟩ := G1.out
    have m1 : ¬ s1 < safe := by omega
    have m2 : ¬ s1 < n := by omega
    have m3 : ¬ s' < s1 := by omega
    clear g1 g2 g3 G1
    have a4 := A4.cell
    have b4 := B4.cell
    have c4 := C4.cell
    have x4 := X4.cell
    have y4 := Y4.cell
    have e1 := eqn_pages ⟨j0, j1, j2, j3⟩ ⟨j4, j5, j6, j7⟩ ⟨j8, j9, j10, j11⟩
    dsimp only [val3] at e1
    go_wp2_with fail
    refine (sameLogs_eq a ay l.length cap cy l _ (h.recs.ext E4) I4.recs (by omega)).mono ?_
    rintro e w5 ⟨rfl, hw⟩
    have E5 := E4.trans hw
    have C5 := C4.ext hw
    have Y5 := Y4.ext hw
    have I5 := I4.ext hw
    have b5 := (B4.ext hw).cell
    have x5 := (X4.ext hw).cell
    have y5 := Y5.cell
    clear hw a4 b4 c4 x4 y4 A4 B4 C4 X4 Y4 I4 E4 e1
    go_wp2_with fail
    refine (HK _ ay cy I5).mono ?_
    rintro e w6 ⟨rfl, hw⟩
    have E6 := E5.trans hw
    have C6 := C5.ext hw
    have Y6 := Y5.ext hw
    clear hw b5 x5 y5 C5 Y5 I5 E5 HK
    obtain ⟨g1, g2, g3⟩ := G2.out
    have n1 : ¬ s' < p'.last := by omega
    have n2 : ¬ s' < q'.last := by omega
    have n3 : ¬ s' < r'.last := by omega
    clear g1 g2 g3 G2
    go_wp2_with fail
    clear m1 m2 m3
    go_loopw [15] (fun i wr => ∃ k : Nat, k ≤ 3 ∧ i = .int .i64 k ∧ Ext w6 wr) (fun i _ => 3 - (intOf i).toNat)
    case atStart => exact ⟨0, Nat.zero_le _, rfl, Ext.refl _⟩
    case round =>
      obtain ⟨k, hk, rfl, hE⟩ := hrel
      have yc := (Y6.ext hE).cell
      have hk4 : k = 0 ∨ k = 1 ∨ k = 2 ∨ k = 3 := by omega
      rcases hk4 with rfl | rfl | rfl | rfl
      · go_wp2_with fail
        go_quiet (fail)
        go_wp2_with fail
        go_roundw
        case rel => exact ⟨1, by omega, by simp, hE.drewN _⟩
        case measure => simp [intOf]
      · go_wp2_with fail
        go_quiet (fail)
        go_wp2_with fail
        go_roundw
        case rel => exact ⟨2, by omega, by simp, hE.drewN _⟩
        case measure => simp [intOf]
      · go_wp2_with fail
        go_quiet (fail)
        go_wp2_with fail
        go_roundw
        case rel => exact ⟨3, by omega, by simp, hE.drewN _⟩
        case measure => simp [intOf]
      · have Y7 := Y6.ext hE
        have C7 := C6.ext hE
        have E7 := E6.trans hE
        clear yc Y6 C6 E6 n1 n2 n3
        go_wp2_with fail
        have e1 := eql_page ⟨j0, j1, j2, j3⟩ ⟨j0, j1, j2, j3⟩
        have e2 := eql_page ⟨j4, j5, j6, j7⟩ ⟨j4, j5, j6, j7⟩
        have e3 := eql_page ⟨j8, j9, j10, j11⟩ ⟨j8, j9, j10, j11⟩
        rw [eqPg_refl] at e1 e2 e3
        have hc4 : c = 0 ∨ c = 1 ∨ c = 2 := by omega
        rcases hc4 with rfl | rfl | rfl
        · obtain rfl := Q0.out rfl
          refine wp_region_calm (by kernel_rfl) (by kernel_rfl) (fun F hF => ?_)
          have yc := hF.cell Y7
          have cc := hF.cell C7
          repeat (go_big_quiet_step ((first | (go_at_call 28; exact hF.call (flushBegun_any _)) | (go_at_call 9; exact hF.still (HC _)))))
          refine wpQuiet_nil ?_
          rintro _ ⟨y, rfl⟩
          have E8 := E7.trans (hF.ext y)
          go_wp2_with fail
          go_ret
          exact ⟨rfl, E8⟩
        · obtain rfl := Q1.out rfl
          refine wp_region_calm (by kernel_rfl) (by kernel_rfl) (fun F hF => ?_)
          have yc := hF.cell Y7
          have cc := hF.cell C7
          repeat (go_big_quiet_step ((first | (go_at_call 28; exact hF.call (flushBegun_any _)) | (go_at_call 9; exact hF.still (HC _)))))
          refine wpQuiet_nil ?_
          rintro _ ⟨y, rfl⟩
          have E8 := E7.trans (hF.ext y)
          go_wp2_with fail
          go_ret
          exact ⟨rfl, E8⟩
        · obtain rfl := Q2.out rfl
          refine wp_region_calm (by kernel_rfl) (by kernel_rfl) (fun F hF => ?_)
          have yc := hF.cell Y7
          have cc := hF.cell C7
          repeat (go_big_quiet_step ((first | (go_at_call 28; exact hF.call (flushBegun_any _)) | (go_at_call 9; exact hF.still (HC _)))))
          refine wpQuiet_nil ?_
          rintro _ ⟨y, rfl⟩
          have E8 := E7.trans (hF.ext y)
          go_wp2_with fail
          go_ret
          exact ⟨rfl, E8⟩

set_option maxRecDepth 100000 in
theorem flushTrue_lifted (os : Os) (started : os.Started) (H : Type) (enc : TypeId × Value → H) :
    ReturnsInHanded {} Try.checked os 8 .any (Rows.flushTrueSpec.pre6 enc Try.prog Try.f8 Rows.flushTrueRow.domain false) (Rows.flushTrueSpec.post enc Try.prog Try.f8 false true false false) := by
  refine returnsInHanded_of_change (C := Try.checked) own started (by kernel_rfl) Try.func8
    (ChangeSpec.witness6 (enc := enc) (C := Try.checked) false ⟨#[], #[.agg #[.int .i64 0, .int .i64 0, .int .i64 0, .int .i64 0, .int .i64 0, .int .i64 0, .int .i64 0, .int .i64 0, .int .i64 0, .int .i64 0, .int .i64 0, .int .i64 0, .slice none 0 0, .int .i64 0], .int .i64 0, .int .i64 0], []⟩ 8 (by kernel_rfl) (by kernel_rfl) (by kernel_rfl) (by kernel_rfl)) ?_
  intro W base args ds gs before hval0 hW hcnd _
  have hval : ∀ (j : Nat) t v, Try.f8.params[j]? = some t → args[j]? = some v → Value.okWide Try.prog W .any base t v := hval0
  have hW' := hW
  obtain ⟨p, q, hA0, hV, rfl, hfz, hnd⟩ := hW
  have hA : DataW.TrodAll enc Try.prog W 0 (fun _ => true) true Try.f8.params.toList args.toList ds p := hA0
  rw [Try.params8] at hA hval
  obtain ⟨v0, vs0, d0, ds0, p0, q0, hargs, rfl, rfl, h0, r0⟩ := trodAll_cons hA
  obtain ⟨v1, vs1, d1, ds1, p1, q1, rfl, rfl, rfl, h1, r1⟩ := trodAll_cons r0
  obtain ⟨v2, vs2, d2, ds2, p2, q2, rfl, rfl, rfl, h2, r2⟩ := trodAll_cons r1
  obtain ⟨rfl, rfl, rfl⟩ := trodAll_nil r2
  obtain rfl : args = #[v0, v1, v2] := by cases args; simp_all
  obtain ⟨rfl, rfl⟩ := trodVars_none hV
  obtain ⟨P0, Q0, R0, x0, len0, cap0, l0, safe0, rfl, s0⟩ := open_wd (hval 0 28 v0 rfl rfl) h0
  obtain ⟨a1, rfl, b1⟩ := open_num (hval 1 3 v1 rfl rfl)
  obtain ⟨a2, rfl, b2⟩ := open_num (hval 2 3 v2 rfl rfl)
  clear hA0 hval0
  refine (flushTrue_go W P0 Q0 R0 x0 len0 cap0 l0 safe0 s0 a1 b1 a2 b2).mono fun e W' ⟨he, bel⟩ => ?_
  subst he
  exact ⟨_, rfl, _, _, _, [], _, [], hW', trodAll_mk1 (shut_bool Try.underlying4 _),
    (trodAll_cons_mk (Below.trod laidOut (by kernel_rfl) (of_decide_eq_true (by kernel_rfl)) h0 bel (lt_of_trod h0))
    (trodAll_cons_mk (Below.trod laidOut (by kernel_rfl) (of_decide_eq_true (by kernel_rfl)) h1 bel (lt_of_trod h1))
    (trodAll_cons_mk (Below.trod laidOut (by kernel_rfl) (of_decide_eq_true (by kernel_rfl)) h2 bel (lt_of_trod h2))
    trodAll_mk0))), rfl, bel.frame _, fun h => by cases h⟩

theorem flushTrue_over : Rows.flushTrueRow.holds Try.pinned (OpenSpec.ofChange Rows.flushTrueSpec) :=
  OpenClaim.holds_of_wide 8 Try.f8 rfl rfl rfl rfl rfl rfl rfl ⟨rfl, rfl, rfl, rfl, rfl⟩ rfl rfl rfl rfl rfl (by kernel_rfl) Try.func8 (by kernel_rfl)
    (of_decide_eq_true (by kernel_rfl)) (by unfold Func.isWrapper; first | (rw [if_pos (by decide +kernel)]; kernel_rfl) | (rw [if_neg (by decide +kernel)]; exact ⟨rfl, rfl⟩))
    (fun os started H enc _ => flushTrue_lifted os started H enc)
end Go.Proofs.Ytmccggfegllfnaa.B
namespace Go.Proofs.Ytmccggfegllfnaa
theorem flushTrue_holds : Rows.FlushTrueSaid := B.flushTrue_over
#print axioms flushTrue_holds
end Go.Proofs.Ytmccggfegllfnaa

