/- The contracts of act.All and of the reference's DoneOf. -/
import Derived.Test.YtbfefocehnafgaaGreatAct3
namespace Go.Proofs.YtbfefocehnafgaaGreat.B
set_option maxRecDepth 100000
open Go.ChangeShapes Go.WideShapes Go.ChangeAt Go.RowKit

/-- What All answers: its error, the world, how many. -/
def allX (l : List Ac) : Int := if 60 < l.length then 2 else 0
def allV (l : List Ac) : Wd := if 60 < l.length then noWd else doneW l
def allN (l : List Ac) : Nat := if 60 < l.length then 0 else doneN noWd l
def DoN (w' : World) (e : Ending) (l : List Ac) : Prop :=
  ∃ a cap, e = .returned (.tuple #[wdVal (allV l).p (allV l).q (allV l).r (.slice a (allV l).l.length cap) (allV l).safe, .int .i64 (allN l : Nat), .int .i64 (allX l)]) ∧ LogIn w' a (allV l).l.length cap (allV l).l
theorem doneN_le (xs : List Ac) : ∀ w, doneN w xs ≤ xs.length := by
  induction xs with
  | nil => intro w; exact Nat.le_refl _
  | cons x xs ih => intro w; show (if doErr w x = 0 then 1 else 0) + doneN (doOr w x) xs ≤ xs.length + 1; have := ih (doOr w x); split <;> omega
theorem doOr_pos {D : Wd} {x : Ac} (h : doErr D x = 0) : doOr D x = doV D x := by unfold doOr doV; rw [if_pos h, if_pos h]
theorem doOr_neg {D : Wd} {x : Ac} (h : doErr D x ≠ 0) : doOr D x = D := by unfold doOr; rw [if_neg h]
theorem LogIn.below {n : Nat} {w w' : World} {a : Option Addr} {len cap : Nat} {l : List Rc} (h : LogIn w a len cap l) (b : Below n w w') (hn : ∀ ad, a = some ad → ad.block < n) : LogIn w' a len cap l := by
  refine ⟨?_, h.le, h.max, h.nil, fun ad e i hi => (frozen_at (b.block _ (hn ad e)) _).trans (h.fr ad e i hi)⟩
  rcases h.recs.2 with h0 | ⟨k, off, rfl, hr⟩
  · exact ⟨h.recs.1, Or.inl h0⟩
  · refine ⟨h.recs.1, Or.inr ⟨k, off, rfl, fun i hi => ?_⟩⟩
    have hc := hr i hi
    have hb := b.block k (hn _ rfl)
    unfold RecAt at hc ⊢
    simp only [World.cell?, hb] at hc ⊢
    exact hc
theorem below14 {n : Nat} {w w' : World} (h : Below n w w') {b : Nat} (hb : n ≤ b) (x0 x1 x2 x3 x4 x5 x6 x7 x8 x9 x10 x11 x12 x13 : Value) : Below n w (put14 w' b x0 x1 x2 x3 x4 x5 x6 x7 x8 x9 x10 x11 x12 x13) :=
  (((((((((((((h.setCell (p := ⟨b, 0, none⟩) hb x0).setCell (p := ⟨b, 1, none⟩) hb x1).setCell (p := ⟨b, 2, none⟩) hb x2).setCell (p := ⟨b, 3, none⟩) hb x3).setCell (p := ⟨b, 4, none⟩) hb x4).setCell (p := ⟨b, 5, none⟩) hb x5).setCell (p := ⟨b, 6, none⟩) hb x6).setCell (p := ⟨b, 7, none⟩) hb x7).setCell (p := ⟨b, 8, none⟩) hb x8).setCell (p := ⟨b, 9, none⟩) hb x9).setCell (p := ⟨b, 10, none⟩) hb x10).setCell (p := ⟨b, 11, none⟩) hb x11).setCell (p := ⟨b, 12, none⟩) hb x12).setCell (p := ⟨b, 13, none⟩) hb x13
set_option maxHeartbeats 4000000 in
theorem actAll_many (a : Option Addr) (len cap : Nat) (_l : List Ac) (w : World) (_hm : len ≤ maxLen) (h60 : 60 < len) :
    Calls Tryz.prog 13 #[.slice a len cap] w fun e w' => Ext w w' ∧ e = .returned (.tuple #[wdVal noPg noPg noPg (.slice none 0 0) 0, .int .i64 0, .int .i64 2]) := by
  have E0 := (Ext.refl w).alloc (.cells (wdCells noPg noPg noPg (.slice none 0 0) 0) 28)
  have Z0 := Blk.new w w.heap.size (wdCells noPg noPg noPg (.slice none 0 0) 0) 28 rfl
  have z := Z0.cell
  have f_ := Z0.fr
  have hb : (60 : Int) < (len : Int) := by omega
  unfold maxLen at _hm
  go_enter Tryz.func13, Tryz.ntmps13
  go_wp2_with fail
  refine bodyPost_ret (v := .tuple #[.agg (wdCells noPg noPg noPg (.slice none 0 0) 0), .int .i64 0, .int .i64 2]) (by simp [results, Tryz.results13, go_sem, z]) rfl ⟨E0, rfl⟩
set_option maxHeartbeats 4000000 in
theorem doneOf_many (a : Option Addr) (len cap : Nat) (_l : List Ac) (w : World) (_hm : len ≤ maxLen) (h60 : 60 < len) :
    Calls Tryz.prog 14 #[.slice a len cap] w fun e w' => Ext w w' ∧ e = .returned (.tuple #[wdVal noPg noPg noPg (.slice none 0 0) 0, .int .i64 0, .int .i64 2]) := by
  have E0 := (Ext.refl w).alloc (.cells (wdCells noPg noPg noPg (.slice none 0 0) 0) 28)
  have Z0 := Blk.new w w.heap.size (wdCells noPg noPg noPg (.slice none 0 0) 0) 28 rfl
  have z := Z0.cell
  have f_ := Z0.fr
  have hb : (60 : Int) < (len : Int) := by omega
  unfold maxLen at _hm
  go_enter Tryz.func14, Tryz.ntmps14
  go_wp2_with fail
  refine bodyPost_ret (v := .tuple #[.agg (wdCells noPg noPg noPg (.slice none 0 0) 0), .int .i64 0, .int .i64 2]) (by simp [results, Tryz.results14, go_sem, z]) rfl ⟨E0, rfl⟩
set_option maxHeartbeats 16000000 in
theorem actAll_go (a : Option Addr) (len cap : Nat) (l : List Ac) (w : World) (h : Acts w a len l) (h60 : len ≤ 60) :
    Calls Tryz.prog 13 #[.slice a len cap] w fun e w' => Ext w w' ∧ ∃ a' cap', e = .returned (.tuple #[wdVal (doneW l).p (doneW l).q (doneW l).r (.slice a' (doneW l).l.length cap') (doneW l).safe, .int .i64 (doneN noWd l : Nat), .int .i64 0]) ∧ LogIn w' a' (doneW l).l.length cap' (doneW l).l := by
  have hb : ¬ (60 : Int) < (len : Int) := by omega
  have hlen := h.len
  have E0 := (Ext.refl w).alloc (.cells (wdCells noPg noPg noPg (.slice none 0 0) 0) 28)
  have N0 := Blk.new w w.heap.size (wdCells noPg noPg noPg (.slice none 0 0) 0) 28 rfl
  go_enter Tryz.func13, Tryz.ntmps13
  go_wp2_with fail
  refine (begin_any _).mono ?_
  rintro e w2 ⟨rfl, hw⟩
  have E3 := (E0.trans hw).alloc (.cells (wdCells noPg noPg noPg (.slice none 0 0) 0) 28)
  have N3 := (N0.ext hw).alloc (.cells (wdCells noPg noPg noPg (.slice none 0 0) 0) 28)
  have D3 := Blk.new w2 w2.heap.size (wdCells noPg noPg noPg (.slice none 0 0) 0) 28 rfl
  have hb2 := (N0.ext hw).lt
  clear hw N0 E0
  go_wp2_with fail
  generalize w2.alloc (.cells (wdCells noPg noPg noPg (.slice none 0 0) 0) 28) = w3 at *
  generalize w2.heap.size = b5 at *
  obtain ⟨b2, hbw⟩ : ∃ b2, w.heap.size = b2 := ⟨_, rfl⟩
  rw [hbw] at N3 hb2 ⊢
  have HF0 : Hid (∀ ad, (none : Option Addr) = some ad → b5 < ad.block) := fun _ e => by cases e
  go_loopw [6, 18] (fun n i wr => ∃ (k : Nat) (a' : Option Addr) (cap' : Nat), k ≤ len ∧ i = .int .i64 k ∧ n = .int .i64 (doneN noWd (l.take k) : Nat) ∧ Blk wr b5 (wdCells (doneW (l.take k)).p (doneW (l.take k)).q (doneW (l.take k)).r (.slice a' (doneW (l.take k)).l.length cap') (doneW (l.take k)).safe) 28 ∧ LogIn wr a' (doneW (l.take k)).l.length cap' (doneW (l.take k)).l ∧ Hid (∀ ad, a' = some ad → b5 < ad.block) ∧ Below b5 w3 wr) (fun _ i _ => len - (intOf i).toNat)
  case atStart => exact ⟨0, none, 0, Nat.zero_le _, rfl, rfl, D3, logIn_none _, HF0, Below.refl _ _⟩
  case round =>
    obtain ⟨k, a', cap', hk, rfl, rfl, D, hin, HF, hB⟩ := hrel
    have E4 : Ext w wr := Below.trans E3 (Below.mono hB (by omega))
    have N4 : Blk wr b2 (wdCells noPg noPg noPg (.slice none 0 0) 0) 28 := by unfold Blk; rw [hB.block _ (by omega)]; exact N3
    have hb5r : b5 < wr.heap.size := D.lt
    by_cases hlt : k < len
    · obtain ⟨ba, oa, rfl, hkl, c0, c1, c2, c3, c4⟩ := (h.ext E4).at hlt
      have HS := (show Hid _ from doneW_take l k hkl)
      have HSN := (show Hid _ from doneN_take l k hkl)
      have hn60 : doneN noWd (l.take k) ≤ 60 := by have := doneN_le (l.take k) noWd; rw [List.length_take] at this; omega
      generalize doneW (l.take k) = DD at *
      generalize doneN noWd (l.take k) = nn at *
      generalize l[k] = xx at *
      have hac : ba < wr.heap.size := cell_lt c0
      have hab : ba ≠ b5 := by
        intro e
        obtain ⟨_, _, eq, _, hx, _⟩ := h.at hlt
        injection eq with eq; injection eq with eq _ _
        have := cell_lt hx
        dsimp only at this
        omega
      have HDo := fun W (i : LogIn W a' DD.l.length cap' DD.l) => actDo_any DD a' DD.l.length cap' xx W i
      have HV : Hid (doErr DD xx = 0 → doOr DD xx = doV DD xx) := doOr_pos
      have HD : Hid (doErr DD xx ≠ 0 → doOr DD xx = DD) := doOr_neg
      generalize doErr DD xx = ex at *
      generalize doV DD xx = VV at *
      obtain ⟨P, Q, R, m, s⟩ := VV
      obtain ⟨p, q, r, ld, sd⟩ := DD
      obtain ⟨xk, xt, xp, xc, xv⟩ := xx
      unfold DoW at HDo
      dsimp only at c0 c1 c2 c3 c4 D hin HDo
      have d_ := D.cell
      have o1 := (Ext.refl wr).alloc (.cells #[.int .i64 xk, .int .i64 xt, .int .i64 xp, .int .i64 xc, .int .i64 xv] 30)
      have A1 := Blk.new wr wr.heap.size #[.int .i64 xk, .int .i64 xt, .int .i64 xp, .int .i64 xc, .int .i64 xv] 30 rfl
      have D1 := D.ext o1
      have L1 := hin.ext o1
      go_wp2_with fail
      refine (HDo _ L1).mono ?_
      rintro e w4 ⟨hw, a4, cap4, rfl, hin4, hf4⟩
      have o4 := (Ext.refl w4).alloc (.cells (wdCells P Q R (.slice a4 m.length cap4) s) 28)
      have X5 := Blk.new w4 w4.heap.size (wdCells P Q R (.slice a4 m.length cap4) s) 28 rfl
      have D4 := D1.ext hw
      have D5 := D4.ext o4
      have LD5 := (L1.ext hw).ext o4
      have B4 := Below.trans (Below.trans hB (Below.mono o1 (by omega))) (Below.mono hw (by have := D1.lt; omega))
      have B5 := Below.trans B4 (Below.mono o4 (by have := D4.lt; omega))
      have L5 := hin4.ext o4
      have hf5 : ∀ ad, a4 = some ad → b5 < ad.block := fun ad e => by have := hf4 ad e; have := D1.lt; omega
      have HF6 := (show Hid (∀ ad, a4 = some ad → b5 < ad.block) from hf5)
      have d4 := D4.cell
      have g4 := D4.fr
      have x5 := X5.cell
      have hbz := D4.lt
      clear hw o1 o4 A1 D1 L1 hin D d_ hB HDo N4 E4 c0 c1 c2 c3 c4
      by_cases hx : ex = 0
      · have HS2 : Hid (doneW (l.take (k + 1)) = ⟨P, Q, R, m, s⟩) := HS.out.trans (HV.out hx)
        have HN2 : Hid (doneN noWd (l.take (k + 1)) = nn + 1) := by show _ = _; rw [HSN.out, if_pos hx]
        have hx1 : (ex == 0) = true := by simp [hx]
        have hx2 : (ex != 0) = false := by simp [hx]
        have D6 := (put14_blk D4 (.int .i64 P.c0) (.int .i64 P.c1) (.int .i64 P.c2) (.int .i64 P.last) (.int .i64 Q.c0) (.int .i64 Q.c1) (.int .i64 Q.c2) (.int .i64 Q.last) (.int .i64 R.c0) (.int .i64 R.c1) (.int .i64 R.c2) (.int .i64 R.last) (.slice a4 m.length cap4) (.int .i64 s)).alloc (.cells (wdCells P Q R (.slice a4 m.length cap4) s) 28)
        have L6 := (show Hid _ from (hin4.gr (put14_gr w4 b5 (.int .i64 P.c0) (.int .i64 P.c1) (.int .i64 P.c2) (.int .i64 P.last) (.int .i64 Q.c0) (.int .i64 Q.c1) (.int .i64 Q.c2) (.int .i64 Q.last) (.int .i64 R.c0) (.int .i64 R.c1) (.int .i64 R.c2) (.int .i64 R.last) (.slice a4 m.length cap4) (.int .i64 s)) (fun ad e e2 => by injection e2 with e2; have := hf5 ad e; omega)).ext ((Ext.refl _).alloc (.cells (wdCells P Q R (.slice a4 m.length cap4) s) 28)))
        have B6 : Below b5 w3 ((put14 w4 b5 (.int .i64 P.c0) (.int .i64 P.c1) (.int .i64 P.c2) (.int .i64 P.last) (.int .i64 Q.c0) (.int .i64 Q.c1) (.int .i64 Q.c2) (.int .i64 Q.last) (.int .i64 R.c0) (.int .i64 R.c1) (.int .i64 R.c2) (.int .i64 R.last) (.slice a4 m.length cap4) (.int .i64 s)).alloc (.cells (wdCells P Q R (.slice a4 m.length cap4) s) 28)) := (below14 B4 (Nat.le_refl _) (.int .i64 P.c0) (.int .i64 P.c1) (.int .i64 P.c2) (.int .i64 P.last) (.int .i64 Q.c0) (.int .i64 Q.c1) (.int .i64 Q.c2) (.int .i64 Q.last) (.int .i64 R.c0) (.int .i64 R.c1) (.int .i64 R.c2) (.int .i64 R.last) (.slice a4 m.length cap4) (.int .i64 s)).alloc (by have := B4.size; have := D3.lt; simp; omega) _
        clear D4 X5 L5 LD5 D5 B4 B5 hf4 hf5
        go_wp2_with fail
        go_roundw
        case rel => exact ⟨k + 1, a4, cap4, by omega, by go_num, by rw [HN2.out]; go_num, by rw [HS2.out]; exact D6, by rw [HS2.out]; exact L6.out, HF6, B6⟩
        case measure => simp [intOf]; omega
      · have HS2 : Hid (doneW (l.take (k + 1)) = ⟨p, q, r, ld, sd⟩) := HS.out.trans (HD.out hx)
        have HN2 : Hid (doneN noWd (l.take (k + 1)) = nn) := by show _ = _; rw [HSN.out, if_neg hx]; rfl
        have hx1 : (ex == 0) = false := by simp [hx]
        have hx2 : (ex != 0) = true := by simp [hx]
        clear X5 L5
        go_wp2_with fail
        go_roundw
        case rel => exact ⟨k + 1, a', cap', by omega, by go_num, by rw [HN2.out], by rw [HS2.out]; exact D5, by rw [HS2.out]; exact LD5, HF, B5⟩
        case measure => simp [intOf]; omega
    · have hkl : k = len := by omega
      have HE : Hid (l.take k = l) := List.take_of_length_le (by omega)
      rw [HE.out] at D hin ⊢
      generalize hDD : doneW l = DD at *
      generalize hNN : doneN noWd l = nn at *
      obtain ⟨p, q, r, ld, sd⟩ := DD
      have HDD := (show Hid (doneW l = ⟨p, q, r, ld, sd⟩) from hDD)
      have HNN := (show Hid (doneN noWd l = nn) from hNN)
      clear hDD hNN
      dsimp only at D hin ⊢
      have d_ := D.cell
      have n_ := N4.cell
      have f_ := N4.fr
      have HL9 := (show Hid _ from hin.gr (put14_gr wr b2 (.int .i64 p.c0) (.int .i64 p.c1) (.int .i64 p.c2) (.int .i64 p.last) (.int .i64 q.c0) (.int .i64 q.c1) (.int .i64 q.c2) (.int .i64 q.last) (.int .i64 r.c0) (.int .i64 r.c1) (.int .i64 r.c2) (.int .i64 r.last) (.slice a' ld.length cap') (.int .i64 sd)) (fun ad e e2 => by injection e2 with e2; have := HF.out ad e; omega))
      have E9 := put14_ext E4 b2 (by omega) (.int .i64 p.c0) (.int .i64 p.c1) (.int .i64 p.c2) (.int .i64 p.last) (.int .i64 q.c0) (.int .i64 q.c1) (.int .i64 q.c2) (.int .i64 q.last) (.int .i64 r.c0) (.int .i64 r.c1) (.int .i64 r.c2) (.int .i64 r.last) (.slice a' ld.length cap') (.int .i64 sd)
      clear D hin N4 E4 hB HE
      go_wp2_with fail
      refine bodyPost_ret (v := .tuple #[.agg (wdCells p q r (.slice a' ld.length cap') sd), .int .i64 (nn : Nat), .int .i64 0]) (by simp [results, Tryz.results13, go_sem, n_]) rfl ⟨E9, a', cap', by rw [HDD.out, HNN.out], by rw [HDD.out]; exact HL9.out⟩
set_option maxHeartbeats 16000000 in
theorem doneOf_go (a : Option Addr) (len cap : Nat) (l : List Ac) (w : World) (h : Acts w a len l) (h60 : len ≤ 60) :
    Calls Tryz.prog 14 #[.slice a len cap] w fun e w' => Ext w w' ∧ ∃ a' cap', e = .returned (.tuple #[wdVal (doneW l).p (doneW l).q (doneW l).r (.slice a' (doneW l).l.length cap') (doneW l).safe, .int .i64 (doneN noWd l : Nat), .int .i64 0]) ∧ LogIn w' a' (doneW l).l.length cap' (doneW l).l := by
  have hb : ¬ (60 : Int) < (len : Int) := by omega
  have hlen := h.len
  have E3 := ((Ext.refl w).alloc (.cells (wdCells noPg noPg noPg (.slice none 0 0) 0) 28)).alloc (.cells (wdCells noPg noPg noPg (.slice none 0 0) 0) 28)
  have N3 := (Blk.new w w.heap.size (wdCells noPg noPg noPg (.slice none 0 0) 0) 28 rfl).alloc (.cells (wdCells noPg noPg noPg (.slice none 0 0) 0) 28)
  have D3 := Blk.new (w.alloc (.cells (wdCells noPg noPg noPg (.slice none 0 0) 0) 28)) (w.heap.size + 1) (wdCells noPg noPg noPg (.slice none 0 0) 0) 28 (by simp)
  go_enter Tryz.func14, Tryz.ntmps14
  go_wp2_with fail
  generalize (w.alloc (.cells (wdCells noPg noPg noPg (.slice none 0 0) 0) 28)).alloc (.cells (wdCells noPg noPg noPg (.slice none 0 0) 0) 28) = w3 at *
  obtain ⟨b2, hbw⟩ : ∃ b2, w.heap.size = b2 := ⟨_, rfl⟩
  rw [hbw] at N3 D3 ⊢
  obtain ⟨b5, hb5⟩ : ∃ b5, b2 + 1 = b5 := ⟨_, rfl⟩
  rw [hb5] at D3 ⊢
  have hb2 : b2 < b5 := by omega
  have HF0 : Hid (∀ ad, (none : Option Addr) = some ad → b5 < ad.block) := fun _ e => by cases e
  go_loopw [6, 7] (fun n i wr => ∃ (k : Nat) (a' : Option Addr) (cap' : Nat), k ≤ len ∧ i = .int .i64 k ∧ n = .int .i64 (doneN noWd (l.take k) : Nat) ∧ Blk wr b5 (wdCells (doneW (l.take k)).p (doneW (l.take k)).q (doneW (l.take k)).r (.slice a' (doneW (l.take k)).l.length cap') (doneW (l.take k)).safe) 28 ∧ LogIn wr a' (doneW (l.take k)).l.length cap' (doneW (l.take k)).l ∧ Hid (∀ ad, a' = some ad → b5 < ad.block) ∧ Below b5 w3 wr) (fun _ i _ => len - (intOf i).toNat)
  case atStart => exact ⟨0, none, 0, Nat.zero_le _, rfl, rfl, D3, logIn_none _, HF0, Below.refl _ _⟩
  case round =>
    obtain ⟨k, a', cap', hk, rfl, rfl, D, hin, HF, hB⟩ := hrel
    have E4 : Ext w wr := Below.trans E3 (Below.mono hB (by omega))
    have N4 : Blk wr b2 (wdCells noPg noPg noPg (.slice none 0 0) 0) 28 := by unfold Blk; rw [hB.block _ (by omega)]; exact N3
    have hb5r : b5 < wr.heap.size := D.lt
    by_cases hlt : k < len
    · obtain ⟨ba, oa, rfl, hkl, c0, c1, c2, c3, c4⟩ := (h.ext E4).at hlt
      have HS := (show Hid _ from doneW_take l k hkl)
      have HSN := (show Hid _ from doneN_take l k hkl)
      have hn60 : doneN noWd (l.take k) ≤ 60 := by have := doneN_le (l.take k) noWd; rw [List.length_take] at this; omega
      generalize doneW (l.take k) = DD at *
      generalize doneN noWd (l.take k) = nn at *
      generalize l[k] = xx at *
      have hac : ba < wr.heap.size := cell_lt c0
      have hab : ba ≠ b5 := by
        intro e
        obtain ⟨_, _, eq, _, hx, _⟩ := h.at hlt
        injection eq with eq; injection eq with eq _ _
        have := cell_lt hx
        dsimp only at this
        omega
      have HDo := fun W (i : LogIn W a' DD.l.length cap' DD.l) => doOf_any DD a' DD.l.length cap' xx W i
      have HV : Hid (doErr DD xx = 0 → doOr DD xx = doV DD xx) := doOr_pos
      have HD : Hid (doErr DD xx ≠ 0 → doOr DD xx = DD) := doOr_neg
      generalize doErr DD xx = ex at *
      generalize doV DD xx = VV at *
      obtain ⟨P, Q, R, m, s⟩ := VV
      obtain ⟨p, q, r, ld, sd⟩ := DD
      obtain ⟨xk, xt, xp, xc, xv⟩ := xx
      unfold DoW at HDo
      dsimp only at c0 c1 c2 c3 c4 D hin HDo
      have hhd := D.cell
      go_wp2_with fail
      clear hhd
      have Ed := (Ext.refl wr).drew
      have KC : Hid (∀ W, Ext wr W → (∀ o, W.cell? ⟨b5, o, none⟩ = (wdCells p q r (.slice a' ld.length cap') sd)[o]?) ∧ W.cell? ⟨ba, oa + k * 5, none⟩ = some (.int .i64 xk) ∧ W.cell? ⟨ba, oa + k * 5 + 1, none⟩ = some (.int .i64 xt) ∧ W.cell? ⟨ba, oa + k * 5 + 2, none⟩ = some (.int .i64 xp) ∧ W.cell? ⟨ba, oa + k * 5 + 3, none⟩ = some (.int .i64 xc) ∧ W.cell? ⟨ba, oa + k * 5 + 4, none⟩ = some (.int .i64 xv)) := fun W e => ⟨(D.ext e).cell, e.cell c0, e.cell c1, e.cell c2, e.cell c3, e.cell c4⟩
      go_cut [8, 9] (fun s8 s9 wx => ∃ (bz : Nat) (a4 : Option Addr) (cap4 : Nat), s8 = .pointer (some ⟨bz, 0, none⟩) ∧ s9 = .int .i64 ex ∧ Blk wx bz (wdCells P Q R (.slice a4 m.length cap4) s) 28 ∧ LogIn wx a4 m.length cap4 m ∧ (∀ ad, a4 = some ad → b5 < ad.block) ∧ Ext wr wx ∧ wr.heap.size ≤ bz)
      case first =>
        clear HS HSN HV HD HF
        refine wp_region_held_drew (S := fun W => (∀ o, W.cell? ⟨b5, o, none⟩ = (wdCells p q r (.slice a' ld.length cap') sd)[o]?) ∧ W.cell? ⟨ba, oa + k * 5, none⟩ = some (.int .i64 xk) ∧ W.cell? ⟨ba, oa + k * 5 + 1, none⟩ = some (.int .i64 xt) ∧ W.cell? ⟨ba, oa + k * 5 + 2, none⟩ = some (.int .i64 xp) ∧ W.cell? ⟨ba, oa + k * 5 + 3, none⟩ = some (.int .i64 xc) ∧ W.cell? ⟨ba, oa + k * 5 + 4, none⟩ = some (.int .i64 xv)) (by kernel_rfl) (KC.out _ Ed) (fun hHeld => ?_)
        refine wpAnyH_take (i := 0) (v := ?v1) rfl (by kernel_rfl) (by kernel_rfl) (by kernel_rfl) (fun _ _ _ h => h) (Or.inl ⟨by rfl, ?hy1⟩) hHeld ?r1
        case hy1 => first | (intro w hSw; (try dsimp only at hSw); go_simp; done) | (intro w hSw; (try dsimp only at hSw); go_simp; with_reducible rfl)
        simp only [Act.put]
        refine wpAnyH_take (i := 1) (v := ?v2) rfl (by kernel_rfl) (by kernel_rfl) (by kernel_rfl) (fun _ _ _ h => h) (Or.inl ⟨by rfl, ?hy2⟩) hHeld ?r2
        case hy2 => first | (intro w hSw; (try dsimp only at hSw); go_simp; done) | (intro w hSw; (try dsimp only at hSw); go_simp; with_reducible rfl)
        simp only [Act.put]
        refine wpAnyH_take (i := 2) (v := ?v3) rfl (by kernel_rfl) (by kernel_rfl) (by kernel_rfl) (fun _ _ _ h => h) (Or.inl ⟨by rfl, ?hy3⟩) hHeld ?r3
        case hy3 => first | (intro w hSw; (try dsimp only at hSw); go_simp; done) | (intro w hSw; (try dsimp only at hSw); go_simp; with_reducible rfl)
        simp only [Act.put]
        refine wpAnyH_take (i := 3) (v := ?v4) rfl (by kernel_rfl) (by kernel_rfl) (by kernel_rfl) (fun _ _ _ h => h) (Or.inl ⟨by rfl, ?hy4⟩) hHeld ?r4
        case hy4 => first | (intro w hSw; (try dsimp only at hSw); go_simp; done) | (intro w hSw; (try dsimp only at hSw); go_simp; with_reducible rfl)
        simp only [Act.put]
        refine wpAnyH_take (i := 4) (v := ?v5) rfl (by kernel_rfl) (by kernel_rfl) (by kernel_rfl) (fun _ _ _ h => h) (Or.inl ⟨by rfl, ?hy5⟩) hHeld ?r5
        case hy5 => first | (intro w hSw; (try dsimp only at hSw); go_simp; done) | (intro w hSw; (try dsimp only at hSw); go_simp; with_reducible rfl)
        simp only [Act.put]
        refine wpAnyH_ready (rs := [5, 9]) (by kernel_rfl) (by simp) ?_
        refine AllReadyH.cons rfl (fun K hK => ?_) (AllReadyH.cons rfl (fun K hK => ?_) AllReadyH.nil)
        · go_simp
          refine (HDo _ (hin.ext Ed)).mono ?_
          rintro e w4 ⟨hw, a4, cap4, rfl, hin4, hf4⟩
          have E4' := Ed.trans hw
          have D4 := D.ext E4'
          have K4 := KC.out _ E4'
          go_wp2_with fail
          refine hK.out _ _ K4 (fun hHeld => ?_)
          clear hK K
          refine wpAnyH_take (i := 6) (v := ?v6) rfl (by kernel_rfl) (by kernel_rfl) (by kernel_rfl) (fun _ _ _ h => h) (Or.inl ⟨by rfl, ?hy6⟩) hHeld ?r6
          case hy6 => first | (intro w hSw; (try dsimp only at hSw); go_simp; done) | (intro w hSw; (try dsimp only at hSw); go_simp; with_reducible rfl)
          simp only [Act.put]
          refine wpAnyH_take (i := 7) (v := ?v7) rfl (by kernel_rfl) (by kernel_rfl) (by kernel_rfl) (fun _ _ _ h => h) (Or.inl ⟨by rfl, ?hy7⟩) hHeld ?r7
          case hy7 => first | (intro w hSw; (try dsimp only at hSw); go_simp; done) | (intro w hSw; (try dsimp only at hSw); go_simp; with_reducible rfl)
          simp only [Act.put]
          refine wpAnyH_take (i := 8) (v := ?v8) rfl (by kernel_rfl) (by kernel_rfl) (by kernel_rfl) (fun _ _ _ h => h) (Or.inl ⟨by rfl, ?hy8⟩) hHeld ?r8
          case hy8 => first | (intro w hSw; (try dsimp only at hSw); go_simp; done) | (intro w hSw; (try dsimp only at hSw); go_simp; with_reducible rfl)
          simp only [Act.put]
          refine wpAnyH_ready (rs := [9]) (by kernel_rfl) (by simp) ?_
          refine AllReadyH.cons rfl (fun K hK => ?_) AllReadyH.nil
          go_simp
          have Z5 := Blk.new w4 w4.heap.size (wdCells noPg noPg noPg (.slice none 0 0) 0) 28 rfl
          have E5 := E4'.alloc (.cells (wdCells noPg noPg noPg (.slice none 0 0) 0) 28)
          have hs4 := E4'.size
          have K5 := KC.out _ E5
          have L6 := (show Hid _ from hin4.ext (put14_ext ((Ext.refl w4).alloc (.cells (wdCells noPg noPg noPg (.slice none 0 0) 0) 28)) w4.heap.size (Nat.le_refl _) (.int .i64 P.c0) (.int .i64 P.c1) (.int .i64 P.c2) (.int .i64 P.last) (.int .i64 Q.c0) (.int .i64 Q.c1) (.int .i64 Q.c2) (.int .i64 Q.last) (.int .i64 R.c0) (.int .i64 R.c1) (.int .i64 R.c2) (.int .i64 R.last) (.slice a4 m.length cap4) (.int .i64 s)))
          have HF6 : Hid (∀ ad, a4 = some ad → b5 < ad.block) := fun ad e => by have := hf4 ad e; have h2 := Ed.size; omega
          refine hK.out _ _ K5 (fun hHeld => ?_)
          clear hK K
          generalize w4.alloc (.cells (wdCells noPg noPg noPg (.slice none 0 0) 0) 28) = w5 at *
          have Z6 := put14_blk Z5 (.int .i64 P.c0) (.int .i64 P.c1) (.int .i64 P.c2) (.int .i64 P.last) (.int .i64 Q.c0) (.int .i64 Q.c1) (.int .i64 Q.c2) (.int .i64 Q.last) (.int .i64 R.c0) (.int .i64 R.c1) (.int .i64 R.c2) (.int .i64 R.last) (.slice a4 m.length cap4) (.int .i64 s)
          have E6 := put14_ext E5 w4.heap.size hs4 (.int .i64 P.c0) (.int .i64 P.c1) (.int .i64 P.c2) (.int .i64 P.last) (.int .i64 Q.c0) (.int .i64 Q.c1) (.int .i64 Q.c2) (.int .i64 Q.last) (.int .i64 R.c0) (.int .i64 R.c1) (.int .i64 R.c2) (.int .i64 R.last) (.slice a4 m.length cap4) (.int .i64 s)
          have K6 := KC.out _ E6
          have z5 := Z5.cell
          have f5 := Z5.fr
          refine wpAnyH_ready (rs := [10]) (by kernel_rfl) (by simp) ?_
          refine AllReadyH.cons rfl (fun K hK => ?_) AllReadyH.nil
          go_simp
          refine hK.out _ _ K6 (fun hHeld => ?_)
          clear hK K z5 f5
          refine wpAnyH_ready (rs := [11]) (by kernel_rfl) (by simp) ?_
          refine AllReadyH.cons rfl (fun K hK => ?_) AllReadyH.nil
          go_simp
          refine hK.out _ _ K6 (fun hHeld => ?_)
          clear hK K
          refine wpAnyH_done (by kernel_rfl) ?_ _
          clear hHeld KC K4 K5 K6 hin4 hf4 D4 Z5 E5 D hin HDo c0 c1 c2 c3 c4
          have hlast : wr.heap.size ≤ w4.heap.size := hs4
          go_wp2_with fail
          go_meet
          case rel => exact ⟨_, a4, cap4, rfl, rfl, Z6, L6.out, HF6.out, E6, hlast⟩
        · go_simp
          have o5 := ((Ext.refl wr).alloc (.cells (wdCells noPg noPg noPg (.slice none 0 0) 0) 28)).drew
          have Z4 := (Blk.new wr wr.heap.size (wdCells noPg noPg noPg (.slice none 0 0) 0) 28 rfl).drew
          have K4 := KC.out _ o5
          have I4 := hin.ext o5
          refine hK.out _ _ K4 (fun hHeld => ?_)
          clear hK K
          generalize (wr.alloc (.cells (wdCells noPg noPg noPg (.slice none 0 0) 0) 28)).drew = w2 at *
          refine wpAnyH_ready (rs := [5]) (by kernel_rfl) (by simp) ?_
          refine AllReadyH.cons rfl (fun K hK => ?_) AllReadyH.nil
          go_simp
          refine (HDo _ I4).mono ?_
          rintro e w4 ⟨hw, a4, cap4, rfl, hin4, hf4⟩
          have E4' := o5.trans hw
          have Z5 := Z4.ext hw
          have K5 := KC.out _ E4'
          have hzl := Z4.lt
          have L6 := (show Hid _ from hin4.gr (put14_gr w4 wr.heap.size (.int .i64 P.c0) (.int .i64 P.c1) (.int .i64 P.c2) (.int .i64 P.last) (.int .i64 Q.c0) (.int .i64 Q.c1) (.int .i64 Q.c2) (.int .i64 Q.last) (.int .i64 R.c0) (.int .i64 R.c1) (.int .i64 R.c2) (.int .i64 R.last) (.slice a4 m.length cap4) (.int .i64 s)) (fun ad e e2 => by injection e2 with e2; have := hf4 ad e; omega))
          have HF6 : Hid (∀ ad, a4 = some ad → b5 < ad.block) := fun ad e => by have := hf4 ad e; omega
          go_wp2_with fail
          refine hK.out _ _ K5 (fun hHeld => ?_)
          clear hK K
          refine wpAnyH_take (i := 6) (v := ?v9) rfl (by kernel_rfl) (by kernel_rfl) (by kernel_rfl) (fun _ _ _ h => h) (Or.inl ⟨by rfl, ?hy9⟩) hHeld ?r9
          case hy9 => first | (intro w hSw; (try dsimp only at hSw); go_simp; done) | (intro w hSw; (try dsimp only at hSw); go_simp; with_reducible rfl)
          simp only [Act.put]
          refine wpAnyH_take (i := 7) (v := ?v10) rfl (by kernel_rfl) (by kernel_rfl) (by kernel_rfl) (fun _ _ _ h => h) (Or.inl ⟨by rfl, ?hy10⟩) hHeld ?r10
          case hy10 => first | (intro w hSw; (try dsimp only at hSw); go_simp; done) | (intro w hSw; (try dsimp only at hSw); go_simp; with_reducible rfl)
          simp only [Act.put]
          refine wpAnyH_take (i := 8) (v := ?v11) rfl (by kernel_rfl) (by kernel_rfl) (by kernel_rfl) (fun _ _ _ h => h) (Or.inl ⟨by rfl, ?hy11⟩) hHeld ?r11
          case hy11 => first | (intro w hSw; (try dsimp only at hSw); go_simp; done) | (intro w hSw; (try dsimp only at hSw); go_simp; with_reducible rfl)
          simp only [Act.put]
          have Z6 := put14_blk Z5 (.int .i64 P.c0) (.int .i64 P.c1) (.int .i64 P.c2) (.int .i64 P.last) (.int .i64 Q.c0) (.int .i64 Q.c1) (.int .i64 Q.c2) (.int .i64 Q.last) (.int .i64 R.c0) (.int .i64 R.c1) (.int .i64 R.c2) (.int .i64 R.last) (.slice a4 m.length cap4) (.int .i64 s)
          have E6 := put14_ext E4' wr.heap.size (Nat.le_refl _) (.int .i64 P.c0) (.int .i64 P.c1) (.int .i64 P.c2) (.int .i64 P.last) (.int .i64 Q.c0) (.int .i64 Q.c1) (.int .i64 Q.c2) (.int .i64 Q.last) (.int .i64 R.c0) (.int .i64 R.c1) (.int .i64 R.c2) (.int .i64 R.last) (.slice a4 m.length cap4) (.int .i64 s)
          have K6 := KC.out _ E6
          have z5 := Z5.cell
          have f5 := Z5.fr
          refine wpAnyH_ready (rs := [10]) (by kernel_rfl) (by simp) ?_
          refine AllReadyH.cons rfl (fun K hK => ?_) AllReadyH.nil
          go_simp
          refine hK.out _ _ K6 (fun hHeld => ?_)
          clear hK K z5 f5
          refine wpAnyH_ready (rs := [11]) (by kernel_rfl) (by simp) ?_
          refine AllReadyH.cons rfl (fun K hK => ?_) AllReadyH.nil
          go_simp
          refine hK.out _ _ K6 (fun hHeld => ?_)
          clear hK K
          refine wpAnyH_done (by kernel_rfl) ?_ _
          clear hHeld KC K4 K5 K6 hin4 hf4 Z5 D hin HDo c0 c1 c2 c3 c4
          go_wp2_with fail
          go_meet
          case rel => exact ⟨_, a4, cap4, rfl, rfl, Z6, L6.out, HF6.out, E6, Nat.le_refl _⟩
      case rest =>
        obtain ⟨bz, a4, cap4, rfl, rfl, X5, L5, hf5, hE, hbz⟩ := hcut
        have HF6 := (show Hid (∀ ad, a4 = some ad → b5 < ad.block) from hf5)
        have D5 := D.ext hE
        have LD5 := hin.ext hE
        have B5 := Below.trans hB (Below.mono hE (by omega))
        have d4 := D5.cell
        have g4 := D5.fr
        have x5 := X5.cell
        clear hin D hB HDo N4 E4 c0 c1 c2 c3 c4 KC Ed hE
        by_cases hx : ex = 0
        · have HS2 : Hid (doneW (l.take (k + 1)) = ⟨P, Q, R, m, s⟩) := HS.out.trans (HV.out hx)
          have HN2 : Hid (doneN noWd (l.take (k + 1)) = nn + 1) := by show _ = _; rw [HSN.out, if_pos hx]
          have hx1 : (ex == 0) = true := by simp [hx]
          have hx2 : (ex != 0) = false := by simp [hx]
          have D6 := put14_blk D5 (.int .i64 P.c0) (.int .i64 P.c1) (.int .i64 P.c2) (.int .i64 P.last) (.int .i64 Q.c0) (.int .i64 Q.c1) (.int .i64 Q.c2) (.int .i64 Q.last) (.int .i64 R.c0) (.int .i64 R.c1) (.int .i64 R.c2) (.int .i64 R.last) (.slice a4 m.length cap4) (.int .i64 s)
          have L6 := (show Hid _ from L5.gr (put14_gr _ b5 (.int .i64 P.c0) (.int .i64 P.c1) (.int .i64 P.c2) (.int .i64 P.last) (.int .i64 Q.c0) (.int .i64 Q.c1) (.int .i64 Q.c2) (.int .i64 Q.last) (.int .i64 R.c0) (.int .i64 R.c1) (.int .i64 R.c2) (.int .i64 R.last) (.slice a4 m.length cap4) (.int .i64 s)) (fun ad e e2 => by injection e2 with e2; have := hf5 ad e; omega))
          have B6 := below14 B5 (Nat.le_refl _) (.int .i64 P.c0) (.int .i64 P.c1) (.int .i64 P.c2) (.int .i64 P.last) (.int .i64 Q.c0) (.int .i64 Q.c1) (.int .i64 Q.c2) (.int .i64 Q.last) (.int .i64 R.c0) (.int .i64 R.c1) (.int .i64 R.c2) (.int .i64 R.last) (.slice a4 m.length cap4) (.int .i64 s)
          clear X5 L5 LD5 D5 B5 hf5
          go_wp2_with fail
          go_roundw
          case rel => exact ⟨k + 1, a4, cap4, by omega, by go_num, by rw [HN2.out]; go_num, by rw [HS2.out]; exact D6, by rw [HS2.out]; exact L6.out, HF6, B6⟩
          case measure => simp [intOf]; omega
        · have HS2 : Hid (doneW (l.take (k + 1)) = ⟨p, q, r, ld, sd⟩) := HS.out.trans (HD.out hx)
          have HN2 : Hid (doneN noWd (l.take (k + 1)) = nn) := by show _ = _; rw [HSN.out, if_neg hx]; rfl
          have hx1 : (ex == 0) = false := by simp [hx]
          have hx2 : (ex != 0) = true := by simp [hx]
          clear X5 L5
          go_wp2_with fail
          go_roundw
          case rel => exact ⟨k + 1, a', cap', by omega, by go_num, by rw [HN2.out], by rw [HS2.out]; exact D5, by rw [HS2.out]; exact LD5, HF, B5⟩
          case measure => simp [intOf]; omega
    · have hkl : k = len := by omega
      have HE : Hid (l.take k = l) := List.take_of_length_le (by omega)
      rw [HE.out] at D hin ⊢
      generalize hDD : doneW l = DD at *
      generalize hNN : doneN noWd l = nn at *
      obtain ⟨p, q, r, ld, sd⟩ := DD
      have HDD := (show Hid (doneW l = ⟨p, q, r, ld, sd⟩) from hDD)
      have HNN := (show Hid (doneN noWd l = nn) from hNN)
      clear hDD hNN
      dsimp only at D hin ⊢
      have d_ := D.cell
      have n_ := N4.cell
      have f_ := N4.fr
      have HL9 := (show Hid _ from hin.gr (put14_gr wr b2 (.int .i64 p.c0) (.int .i64 p.c1) (.int .i64 p.c2) (.int .i64 p.last) (.int .i64 q.c0) (.int .i64 q.c1) (.int .i64 q.c2) (.int .i64 q.last) (.int .i64 r.c0) (.int .i64 r.c1) (.int .i64 r.c2) (.int .i64 r.last) (.slice a' ld.length cap') (.int .i64 sd)) (fun ad e e2 => by injection e2 with e2; have := HF.out ad e; omega))
      have E9 := put14_ext E4 b2 (by omega) (.int .i64 p.c0) (.int .i64 p.c1) (.int .i64 p.c2) (.int .i64 p.last) (.int .i64 q.c0) (.int .i64 q.c1) (.int .i64 q.c2) (.int .i64 q.last) (.int .i64 r.c0) (.int .i64 r.c1) (.int .i64 r.c2) (.int .i64 r.last) (.slice a' ld.length cap') (.int .i64 sd)
      clear D hin N4 E4 hB HE
      go_wp2_with fail
      refine bodyPost_ret (v := .tuple #[.agg (wdCells p q r (.slice a' ld.length cap') sd), .int .i64 (nn : Nat), .int .i64 0]) (by simp [results, Tryz.results14, go_sem, n_]) rfl ⟨E9, a', cap', by rw [HDD.out, HNN.out], by rw [HDD.out]; exact HL9.out⟩
theorem actAll_any (a : Option Addr) (len cap : Nat) (l : List Ac) (w : World) (h : Acts w a len l) (hm : len ≤ maxLen) :
    Calls Tryz.prog 13 #[.slice a len cap] w fun e w' => Ext w w' ∧ DoN w' e l := by
  have hl := h.len
  unfold DoN allV allN allX
  by_cases h60 : 60 < len
  · simp only [if_pos (show 60 < l.length from by omega)]
    exact (actAll_many a len cap l w hm h60).mono fun e w' ⟨h1, h2⟩ => ⟨h1, none, 0, h2, logIn_none _⟩
  · simp only [if_neg (show ¬ 60 < l.length from by omega)]
    exact actAll_go a len cap l w h (by omega)
theorem doneOf_any (a : Option Addr) (len cap : Nat) (l : List Ac) (w : World) (h : Acts w a len l) (hm : len ≤ maxLen) :
    Calls Tryz.prog 14 #[.slice a len cap] w fun e w' => Ext w w' ∧ DoN w' e l := by
  have hl := h.len
  unfold DoN allV allN allX
  by_cases h60 : 60 < len
  · simp only [if_pos (show 60 < l.length from by omega)]
    exact (doneOf_many a len cap l w hm h60).mono fun e w' ⟨h1, h2⟩ => ⟨h1, none, 0, h2, logIn_none _⟩
  · simp only [if_neg (show ¬ 60 < l.length from by omega)]
    exact doneOf_go a len cap l w h (by omega)
end Go.Proofs.YtbfefocehnafgaaGreat.B
