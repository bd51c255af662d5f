/- The contracts of the roll's next, Step, takeBack and Abort. -/
import Derived.Test.YtibfgbmhmdggmaaGreatDoorPlainA
namespace Go.Proofs.YtibfgbmhmdggmaaGreatDoor.B
set_option maxHeartbeats 32000000
set_option maxRecDepth 100000
open Go.ChangeShapes Go.WideShapes Go.ChangeAt Go.RowKit
abbrev zRc : Rc := ⟨0, 0, 0, 0, 0, 0, 0, 0⟩
def nextRec (l : List Rc) (t : Int) : Rc := if rollErr l t = 0 then rollRec l t else zRc
theorem nextRec_bad {l : List Rc} {t : Int} (h : rollErr l t ≠ 0) : nextRec l t = zRc := by unfold nextRec; rw [if_neg h]
theorem nextRec_ok {l : List Rc} {t : Int} (h : rollErr l t = 0) : nextRec l t = rollRec l t := by unfold nextRec; rw [if_pos h]
theorem rollRec_backB {l : List Rc} {t : Int} (h : standB l t ≠ []) : rollRec l t = backB (lastR l t : Nat) (standB l t) := by
 rcases List.eq_nil_or_concat (standB l t) with hst | ⟨st, w, hst⟩
 ·exact absurd hst h
 ·rw [List.concat_eq_append] at hst
  have hw : w ∈ standB l t := by rw [hst]; simp
  rw [rollRec_back hst, hst]
  unfold backB
  rw [List.getLast?_concat]
  dsimp only
  rw [(standB_mem hw).2.1]
theorem next_any {base pb mt mh : Nat} {l : List Rc} {tx : List TxE} {ho : List HE} (t : Int) (w : World) (h : BookOk w base pb mt mh l tx ho) :
  Calls Tryz.prog 133 #[.pointer (some ⟨pb, 0, none⟩), .int .i64 t] w fun e w' => e = .returned (.tuple #[(nextRec l t).val, .int .i64 (rollErr l t)]) ∧ Ext w w' := by
 have h60 := right_len l h.right
 obtain ⟨sv, hlk, hown, _⟩ := h.look t
 have hsl : (standB l t).length ≤ 1000 := by
  by_cases h4 : stateR l t = 4
  ·unfold standB; rw [if_pos h4]; simp
  ·rw [stand_of_n4 h4, standRecs_length]; have := standsR_le l t; omega
 obtain ⟨sa, sm, scap, rfl⟩ := own_slice hown
 obtain rfl := own_len hown
 have HOwn := (show Hid (w.ownsRow base 81 8 (.slice sa (standB l t).length scap) (standB l t).length (flat (standB l t))) from hown)
 have X3 : Hid (out 1 9 [t] = true → rollErr l t = 3 ∧ nextRec l t = zRc) := fun a => ⟨rollErr_3 a, nextRec_bad (by rw [rollErr_3 a]; decide)⟩
 have X7 : Hid (out 1 9 [t] = false → stateR l t = 0 → rollErr l t = 7 ∧ nextRec l t = zRc) := fun a b => ⟨rollErr_7 a b, nextRec_bad (by rw [rollErr_7 a b]; decide)⟩
 have X6 : Hid (out 1 9 [t] = false → ¬ stateR l t = 0 → (stateR l t = 2 ∨ stateR l t = 4) → rollErr l t = 6 ∧ nextRec l t = zRc) := fun a b c => ⟨rollErr_6 a b c, nextRec_bad (by rw [rollErr_6 a b c]; decide)⟩
 have XE : Hid (out 1 9 [t] = false → ¬ stateR l t = 0 → ¬ (stateR l t = 2 ∨ stateR l t = 4) → (standB l t).length = 0 → rollErr l t = 0 ∧ nextRec l t = ⟨4, t, (lastR l t : Nat), 0, 0, 0, 0, 0⟩) := fun a b c d => ⟨rollErr_0 a b c, by rw [nextRec_ok (rollErr_0 a b c), rollRec_end (List.length_eq_zero_iff.1 d)]⟩
 have XB : Hid (out 1 9 [t] = false → ¬ stateR l t = 0 → ¬ (stateR l t = 2 ∨ stateR l t = 4) → ¬ (standB l t).length = 0 → rollErr l t = 0 ∧ nextRec l t = backB (lastR l t : Nat) (standB l t)) := fun a b c d => ⟨rollErr_0 a b c, by rw [nextRec_ok (rollErr_0 a b c), rollRec_backB (fun e => d (by rw [e]; rfl))]⟩
 generalize rollErr l t = re at *
 generalize nextRec l t = nr at *
 have c12 : (w.alloc (.cells #[.int .i64 0, .int .i64 0, .int .i64 0, .int .i64 0, .int .i64 0, .int .i64 0, .int .i64 0, .int .i64 0] 81)).cell? ⟨pb, 12, none⟩ = some (.map (some mt)) := by rw [(h.ext ((Ext.refl w).alloc _)).blk.cell]; exact (bookCells_12 _ mt mh _ (pagesR_len l)).1
 have hrun : (Instr.lookup 131 (.map (some mt)) (.int .i64 t) false).run Tryz.prog (w.alloc (.cells #[.int .i64 0, .int .i64 0, .int .i64 0, .int .i64 0, .int .i64 0, .int .i64 0, .int .i64 0, .int .i64 0] 81)) = .ok (txVal (stateR l t) (lastR l t : Nat) (.slice sa (standB l t).length scap)) (w.alloc (.cells #[.int .i64 0, .int .i64 0, .int .i64 0, .int .i64 0, .int .i64 0, .int .i64 0, .int .i64 0, .int .i64 0] 81)) := by rw [run_lookI (h.ext ((Ext.refl w).alloc _)).txs t]; exact congrArg (fun v => Result.ok v _) hlk
 clear hlk hown
 generalize standB l t = st at *
 generalize ((lastR l t : Nat) : Int) = la at *
 obtain ⟨bk, hbk⟩ : ∃ bk, backB la st = bk := ⟨_, rfl⟩
 rw [hbk] at XB
 have HBk := (show Hid (backB la st = bk) from hbk)
 clear hbk
 obtain ⟨b0, b1, b2, b3, b4, b5, b6, b7⟩ := bk
 have hsr := stateR_range l t
 generalize stateR l t = s at *
 have Z0 := ((Blk.new w w.heap.size #[.int .i64 0, .int .i64 0, .int .i64 0, .int .i64 0, .int .i64 0, .int .i64 0, .int .i64 0, .int .i64 0] 81 rfl).alloc (.cells #[.int .i64 s, .int .i64 la, .slice sa st.length scap] 150)).alloc (.cells #[.int .i64 t] 3)
 have T0 := (Blk.new (w.alloc (.cells #[.int .i64 0, .int .i64 0, .int .i64 0, .int .i64 0, .int .i64 0, .int .i64 0, .int .i64 0, .int .i64 0] 81)) (w.heap.size + 1) #[.int .i64 s, .int .i64 la, .slice sa st.length scap] 150 (by simp)).alloc (.cells #[.int .i64 t] 3)
 have E1 := (((Ext.refl w).alloc (.cells #[.int .i64 0, .int .i64 0, .int .i64 0, .int .i64 0, .int .i64 0, .int .i64 0, .int .i64 0, .int .i64 0] 81)).alloc (.cells #[.int .i64 s, .int .i64 la, .slice sa st.length scap] 150)).alloc (.cells #[.int .i64 t] 3)
 go_enter Tryz.func133, Tryz.ntmps133
 go_wp2_with fail
 refine (outside_n 1 1 9 _ 0 1 [t] _ rfl (by decide) (cells1 (by simp [go_sem]))).mono ?_
 rintro e w1 ⟨rfl, rfl⟩
 clear c12 hrun
 generalize ((w.alloc (.cells #[.int .i64 0, .int .i64 0, .int .i64 0, .int .i64 0, .int .i64 0, .int .i64 0, .int .i64 0, .int .i64 0] 81)).alloc (.cells #[.int .i64 s, .int .i64 la, .slice sa st.length scap] 150)).alloc (.cells #[.int .i64 t] 3) = w1 at *
 have z1 := Z0.cell
 have f1 := Z0.fr
 cases hn : out 1 9 [t]
 ·have HN := (show Hid (out 1 9 [t] = false) from hn)
  clear hn X3
  have t1 := T0.cell
  by_cases hs0 : s = 0
  ·obtain ⟨rfl, rfl⟩ := X7.out HN.out hs0
   have hb : (s == 0) = true := by simpa using hs0
   clear hs0 X7 X6 XE XB hsr
   go_wp2_with fail
   refine bodyPost_ret (v := .tuple #[.agg #[.int .i64 0, .int .i64 0, .int .i64 0, .int .i64 0, .int .i64 0, .int .i64 0, .int .i64 0, .int .i64 0], .int .i64 7]) (by simp [results, Tryz.results133, go_sem, z1]) rfl ⟨rfl, ?_⟩
   exact ((((((((E1.setCell (by simp) _).setCell (by simp) _).setCell (by simp) _).setCell (by simp) _).setCell (by simp) _).setCell (by simp) _).setCell (by simp) _).setCell (by simp) _)
  ·have HS0 := (show Hid (¬ s = 0) from hs0)
   have hb : (s == 0) = false := by simpa using hs0
   clear hs0
   by_cases hst : s = 2 ∨ s = 4
   ·obtain ⟨rfl, rfl⟩ := X6.out HN.out HS0.out hst
    clear X7 X6 XE XB hsr
    rcases hst with rfl | rfl
    ·go_wp2_with fail
     refine bodyPost_ret (v := .tuple #[.agg #[.int .i64 0, .int .i64 0, .int .i64 0, .int .i64 0, .int .i64 0, .int .i64 0, .int .i64 0, .int .i64 0], .int .i64 6]) (by simp [results, Tryz.results133, go_sem, z1]) rfl ⟨rfl, ?_⟩
     exact ((((((((E1.setCell (by simp) _).setCell (by simp) _).setCell (by simp) _).setCell (by simp) _).setCell (by simp) _).setCell (by simp) _).setCell (by simp) _).setCell (by simp) _)
    ·go_wp2_with fail
     refine bodyPost_ret (v := .tuple #[.agg #[.int .i64 0, .int .i64 0, .int .i64 0, .int .i64 0, .int .i64 0, .int .i64 0, .int .i64 0, .int .i64 0], .int .i64 6]) (by simp [results, Tryz.results133, go_sem, z1]) rfl ⟨rfl, ?_⟩
     exact ((((((((E1.setCell (by simp) _).setCell (by simp) _).setCell (by simp) _).setCell (by simp) _).setCell (by simp) _).setCell (by simp) _).setCell (by simp) _).setCell (by simp) _)
   ·have HST := (show Hid (¬ (s = 2 ∨ s = 4)) from hst)
    have hb2 : (s == 2) = false := by simp; omega
    have hb4 : (s == 4) = false := by simp; omega
    clear hst X7 X6 hsr
    by_cases hl0 : st.length = 0
    ·obtain ⟨rfl, rfl⟩ := XE.out HN.out HS0.out HST.out hl0
     have hbl : ((st.length : Int) == 0) = true := by simpa using hl0
     clear XE XB hl0
     go_wp2_with fail
     refine bodyPost_ret (v := .tuple #[.agg #[.int .i64 4, .int .i64 t, .int .i64 la, .int .i64 0, .int .i64 0, .int .i64 0, .int .i64 0, .int .i64 0], .int .i64 0]) (by simp [results, Tryz.results133, go_sem, z1]) rfl ⟨rfl, ?_⟩
     exact ((((((((E1.setCell (by simp) _).setCell (by simp) _).setCell (by simp) _).setCell (by simp) _).setCell (by simp) _).setCell (by simp) _).setCell (by simp) _).setCell (by simp) _)
    ·obtain ⟨rfl, rfl⟩ := XB.out HN.out HS0.out HST.out hl0
     have hbl : ((st.length : Int) == 0) = false := by simpa using hl0
     clear XE XB hl0
     go_wp2_with fail
     refine (back_any s la (.slice sa st.length scap) st base _ (own_ext HOwn.out E1) hsl).mono ?_
     rintro e w2 ⟨rfl, hw⟩
     rw [HBk.out]
     replace Z0 := Z0.ext hw
     have E2 := E1.trans hw
     clear z1 f1 t1 T0 E1 hw HOwn
     have z2 := Z0.cell
     have f2 := Z0.fr
     go_wp2_with fail
     refine bodyPost_ret (v := .tuple #[.agg #[.int .i64 b0, .int .i64 b1, .int .i64 b2, .int .i64 b3, .int .i64 b4, .int .i64 b5, .int .i64 b6, .int .i64 b7], .int .i64 0]) (by simp [results, Tryz.results133, go_sem, z2]) rfl ⟨rfl, ?_⟩
     exact ((((((((E2.setCell (by simp) _).setCell (by simp) _).setCell (by simp) _).setCell (by simp) _).setCell (by simp) _).setCell (by simp) _).setCell (by simp) _).setCell (by simp) _)
 ·have HN := (show Hid (out 1 9 [t] = true) from hn)
  obtain ⟨rfl, rfl⟩ := X3.out HN.out
  clear X3 X7 X6 XE XB hsr
  go_wp2_with fail
  refine bodyPost_ret (v := .tuple #[.agg #[.int .i64 0, .int .i64 0, .int .i64 0, .int .i64 0, .int .i64 0, .int .i64 0, .int .i64 0, .int .i64 0], .int .i64 3]) (by simp [results, Tryz.results133, go_sem, z1]) rfl ⟨rfl, ?_⟩
  exact ((((((((E1.setCell (by simp) _).setCell (by simp) _).setCell (by simp) _).setCell (by simp) _).setCell (by simp) _).setCell (by simp) _).setCell (by simp) _).setCell (by simp) _)
def stepAns (l : List Rc) (t : Int) : Rc × Int := if logErr l = 0 then (nextRec l t, rollErr l t) else (zRc, logErr l)
theorem rollStep_any (a : Option Addr) (len cap : Nat) (l : List Rc) (t : Int) (w : World) (h : Recs w a len l) (hm : len ≤ maxLen) :
  Calls Tryz.prog 169 #[.slice a len cap, .int .i64 t] w fun e w' => e = .returned (.tuple #[(stepAns l t).1.val, .int .i64 (stepAns l t).2]) ∧ Ext w w' := by
 have E0 := (Ext.refl w).alloc (.cells #[.int .i64 0, .int .i64 0, .int .i64 0, .int .i64 0, .int .i64 0, .int .i64 0, .int .i64 0, .int .i64 0] 81)
 have Z0 := Blk.new w w.heap.size #[.int .i64 0, .int .i64 0, .int .i64 0, .int .i64 0, .int .i64 0, .int .i64 0, .int .i64 0, .int .i64 0] 81 rfl
 have H := read_any a len cap l (w.alloc (.cells #[.int .i64 0, .int .i64 0, .int .i64 0, .int .i64 0, .int .i64 0, .int .i64 0, .int .i64 0, .int .i64 0] 81)) (h.ext E0) hm
 have HS : Hid (stepAns l t = if logErr l = 0 then (nextRec l t, rollErr l t) else (zRc, logErr l)) := rfl
 have HN : Hid (∀ w' base pb mt mh tx ho, BookOk w' base pb mt mh l tx ho → Calls Tryz.prog 133 #[.pointer (some ⟨pb, 0, none⟩), .int .i64 t] w' fun e w'' => e = .returned (.tuple #[(nextRec l t).val, .int .i64 (rollErr l t)]) ∧ Ext w' w'') := fun w' base pb mt mh tx ho hb => next_any t w' hb
 generalize stepAns l t = sa at *
 generalize logErr l = x at *
 generalize rollErr l t = re at *
 generalize nextRec l t = nr at *
 obtain ⟨r0, r1, r2, r3, r4, r5, r6, r7⟩ := nr
 go_enter Tryz.func169, Tryz.ntmps169
 go_wp2_with fail
 refine H.mono ?_
 rintro e w1 ⟨p, rfl, hE, ⟨h0, pb, mt, mh, tx, ho, rfl, hB⟩ | ⟨h0, rfl⟩⟩
 ·subst h0
  have hsa := HS.out
  rw [if_pos rfl] at hsa
  subst hsa
  clear H HS
  have hn := HN.out _ _ _ _ _ _ _ hB
  go_wp2_with fail
  refine hn.mono ?_
  rintro e w2 ⟨rfl, hE2⟩
  clear hn
  have Z2 := (Z0.ext hE).ext hE2
  have z := Z2.cell
  have f := Z2.fr
  have E2 := (E0.trans hE).trans hE2
  go_wp2_with fail
  refine bodyPost_ret (v := .tuple #[.agg #[.int .i64 r0, .int .i64 r1, .int .i64 r2, .int .i64 r3, .int .i64 r4, .int .i64 r5, .int .i64 r6, .int .i64 r7], .int .i64 re]) (by simp [results, Tryz.results169, go_sem, z]) rfl ⟨rfl, ?_⟩
  exact ((((((((E2.setCell (by simp) _).setCell (by simp) _).setCell (by simp) _).setCell (by simp) _).setCell (by simp) _).setCell (by simp) _).setCell (by simp) _).setCell (by simp) _)
 ·have hsa := HS.out
  rw [if_neg h0] at hsa
  subst hsa
  clear H HS
  have hb : (x != 0) = true := by simpa using h0
  have Z2 := Z0.ext hE
  have z := Z2.cell
  have f := Z2.fr
  have E2 := E0.trans hE
  go_wp2_with fail
  refine bodyPost_ret (v := .tuple #[.agg #[.int .i64 0, .int .i64 0, .int .i64 0, .int .i64 0, .int .i64 0, .int .i64 0, .int .i64 0, .int .i64 0], .int .i64 x]) (by simp [results, Tryz.results169, go_sem, z]) rfl ⟨rfl, ?_⟩
  exact ((((((((E2.setCell (by simp) _).setCell (by simp) _).setCell (by simp) _).setCell (by simp) _).setCell (by simp) _).setCell (by simp) _).setCell (by simp) _).setCell (by simp) _)
theorem takeBack_any {base db pb mt mh : Nat} {l : List Rc} {tx : List TxE} {ho : List HE} {p q s : Pg} {lv : Value} {safe : Int} (t : Int) (w : World) (h : DeskOk w base db pb mt mh l tx ho p q s lv safe) :
  Calls Tryz.prog 103 #[.pointer (some ⟨db, 0, none⟩), .int .i64 t] w fun e w' => e = .returned (.int .i64 (abortErr l t)) ∧ Below base w w' ∧
   (abortErr l t = 0 → ∃ tx' ho' lv', DeskOk w' base db pb mt mh (abortR l t) tx' ho' p q s lv' safe) := by
 have hbase : base ≤ w.heap.size := Nat.le_trans h.ge (Nat.le_of_lt h.blk.lt)
 have G1 : Hid (abortErr l t = abortErr l t ∧ abortR l t = abortR l t) := ⟨rfl, rfl⟩
 generalize hae : abortErr l t = ae at *
 generalize har : abortR l t = al at *
 have HAe := (show Hid (abortErr l t = ae) from hae)
 have HAr := (show Hid (abortR l t = al) from har)
 clear hae har G1
 go_enter Tryz.func103, Tryz.ntmps103
 go_wp2_with fail
 go_loopg [] ((standB l t).length + 1) (fun k wr => ∃ m tx' ho' lv', DeskOk wr base db pb mt mh m tx' ho' p q s lv' safe ∧ Below base w wr ∧ Hid (abortErr m t = ae ∧ abortR m t = al ∧ (standB m t).length < k))
 case atStart => exact ⟨l, tx, ho, lv, h, Below.mono (Ext.refl w) hbase, HAe.out, HAr.out, Nat.lt_succ_self _⟩
 case round =>
  obtain ⟨m, tx', ho', lv', hD, hbel, HI⟩ := hrel
  have hR := hD.book.right
  have h60 := right_len m hR
  have HMine : Hid (∀ k, Mine db pb mt mh tx' lv' k → k < wr.heap.size) := fun k hk => hD.mine hk
  have F1 : Hid (rollErr m t ≠ 0 → ae = rollErr m t) := fun x => by rw [← HI.out.1, abortErr_bad x]
  have F2 : Hid (rollErr m t = 0 → 60 ≤ m.length → ae = 2) := fun x y => by rw [← HI.out.1, abortErr_2 x (by omega)]
  have F3 : Hid (rollErr m t = 0 → m.length < 60 → stepErr m (nextRec m t) = 0) := fun x y => by rw [nextRec_ok x]; exact roll_ok hR x y
  have F4 : Hid (rollErr m t = 0 → m.length < 60 → (nextRec m t).kind = 4 → ae = 0 ∧ al = m ++ [nextRec m t]) := fun x y z => by
   rw [nextRec_ok x] at z ⊢
   have hst : standB m t = [] := by
    rw [rollRec_kind] at z
    by_cases e : standB m t = []
    ·exact e
    ·rw [if_neg e] at z; cases z
   rw [← HI.out.1, ← HI.out.2.1, abortErr_0 x (by rw [hst]; simp; omega), abortR_end hst]
   exact ⟨rfl, rfl⟩
  have F5 : Hid (rollErr m t = 0 → m.length < 60 → ¬ (nextRec m t).kind = 4 → abortErr (m ++ [nextRec m t]) t = ae ∧ abortR (m ++ [nextRec m t]) t = al ∧ (standB (m ++ [nextRec m t]) t).length < (standB m t).length) := fun x y z => by
   rw [nextRec_ok x] at z ⊢
   rcases List.eq_nil_or_concat (standB m t) with hst | ⟨st, u, hst⟩
   ·rw [rollRec_kind, if_pos hst] at z; exact absurd rfl z
   ·rw [List.concat_eq_append] at hst
    rw [← abortErr_back hR x y hst, ← abortR_back hR x y hst, (roll_next hR x y hst).2.2.1, hst]
    exact ⟨HI.out.1, HI.out.2.1, by simp⟩
  have HK := (show Hid ((standB m t).length < gk) from HI.out.2.2)
  have HN := next_any t wr hD.book
  generalize rollErr m t = re at *
  obtain ⟨nr, hnr⟩ : ∃ nr, nextRec m t = nr := ⟨_, rfl⟩
  rw [hnr] at F3 F4 F5 HN
  clear hnr HI
  obtain ⟨r0, r1, r2, r3, r4, r5, r6, r7⟩ := nr
  have c0 : wr.cell? ⟨db, 0, none⟩ = some (.pointer (some ⟨pb, 0, none⟩)) := by rw [hD.blk.cell]; rfl
  go_wp2_with fail
  refine HN.mono ?_
  rintro e w1 ⟨rfl, hE⟩
  clear HN
  have E1 := hE.alloc (.cells #[.int .i64 r0, .int .i64 r1, .int .i64 r2, .int .i64 r3, .int .i64 r4, .int .i64 r5, .int .i64 r6, .int .i64 r7] 81)
  have R1 := Blk.new w1 w1.heap.size #[.int .i64 r0, .int .i64 r1, .int .i64 r2, .int .i64 r3, .int .i64 r4, .int .i64 r5, .int .i64 r6, .int .i64 r7] 81 rfl
  have D1 := hD.ext E1
  have hbase1 : base ≤ wr.heap.size := Nat.le_trans hD.ge (Nat.le_of_lt hD.blk.lt)
  have B1 : Below base w (w1.alloc (.cells #[.int .i64 r0, .int .i64 r1, .int .i64 r2, .int .i64 r3, .int .i64 r4, .int .i64 r5, .int .i64 r6, .int .i64 r7] 81)) := Below.trans hbel (Below.mono E1 hbase1)
  have hsz1 := hE.size
  clear hE c0
  by_cases h0 : re = 0
  ·have HZ := (show Hid (re = 0) from h0)
   have hbz : (re != 0) = false := by simpa using h0
   clear F1 h0
   go_wp2_with fail
   refine (room_any 1 _ D1 (by omega)).mono ?_
   rintro e w2 ⟨rfl, rfl⟩
   by_cases hroom : m.length + 1 ≤ 60
   ·have hb1 : decide (m.length + 1 ≤ 60) = true := by simpa using hroom
    rw [hb1]
    have hse := F3.out HZ.out (by omega)
    have HSE := (show Hid (stepErr m ⟨r0, r1, r2, r3, r4, r5, r6, r7⟩ = 0) from hse)
    have HM : Hid (m.length < 60) := (by omega : m.length < 60)
    clear F2 F3 hb1 hse
    have r1c := R1.cell
    go_wp2_with fail
    refine (add_ok ⟨r0, r1, r2, r3, r4, r5, r6, r7⟩ _ D1 HSE.out).mono ?_
    rintro e w3 ⟨rfl, hbel3, hfr, tx2, ho2, lv2, hD3⟩
    have R3 : Blk w3 w1.heap.size #[.int .i64 r0, .int .i64 r1, .int .i64 r2, .int .i64 r3, .int .i64 r4, .int .i64 r5, .int .i64 r6, .int .i64 r7] 81 := by
     have := hfr w1.heap.size (by simp) (fun hm => by have := HMine.out _ hm; omega)
     unfold Blk; rw [this]; exact R1
    have B3 := Below.trans B1 hbel3
    have r3c := R3.cell
    clear r1c hfr
    by_cases hk : r0 = 4
    ·obtain ⟨h1, h2⟩ := F4.out HZ.out HM.out hk
     have HAL := (show Hid (al = m ++ [⟨r0, r1, r2, r3, r4, r5, r6, r7⟩]) from h2)
     have hb : (r0 == 4) = true := by simpa using hk
     have HAE := (show Hid (ae = 0) from h1)
     clear h1 h2 hk
     go_wp2_with fail
     go_ret
     exact ⟨by rw [HAE.out]; rfl, B3, fun _ => ⟨tx2, ho2, lv2, by rw [HAL.out]; exact hD3⟩⟩
    ·have hb : (r0 == 4) = false := by simpa using hk
     obtain ⟨h1, h2, h3⟩ := F5.out HZ.out HM.out hk
     have HR : Hid (abortErr (m ++ [⟨r0, r1, r2, r3, r4, r5, r6, r7⟩]) t = ae ∧ abortR (m ++ [⟨r0, r1, r2, r3, r4, r5, r6, r7⟩]) t = al ∧ (standB (m ++ [⟨r0, r1, r2, r3, r4, r5, r6, r7⟩]) t).length < (standB m t).length) := ⟨h1, h2, h3⟩
     clear h1 h2 h3 hk
     go_wp2_with fail
     go_roundg (standB m t).length
     case measure => exact HK.out
     case rel => exact ⟨_, tx2, ho2, lv2, hD3, B3, HR⟩
   ·have hb1 : decide (m.length + 1 ≤ 60) = false := by simpa using hroom
    rw [hb1]
    have HAE := (show Hid (ae = 2) from F2.out HZ.out (by omega))
    go_wp2_with fail
    go_ret
    exact ⟨by rw [HAE.out]; rfl, B1, fun x => by rw [HAE.out] at x; cases x⟩
  ·have hb : (re != 0) = true := by simpa using h0
   have HAE := (show Hid (ae = re) from F1.out h0)
   have HN0 := (show Hid (re ≠ 0) from h0)
   clear h0
   go_wp2_with fail
   go_ret
   exact ⟨by rw [HAE.out]; rfl, B1, fun x => absurd (HAE.out ▸ x) HN0.out⟩
theorem abort1_any {base db pb mt mh : Nat} {l : List Rc} {tx : List TxE} {ho : List HE} {p q s : Pg} {lv : Value} {safe : Int} (t : Int) (b1 : Nat) (w : World) (h : DeskOk w base db pb mt mh l tx ho p q s lv safe)
  (B1 : Blk w b1 #[.int .i64 t] 3) :
  Calls Tryz.prog 102 #[.pointer (some ⟨db, 0, none⟩), .pointer (some ⟨b1, 0, none⟩)] w fun e w' => e = .returned (.int .i64 (abortErr l t)) ∧ Below base w w' ∧
   (abortErr l t = 0 → ∃ tx' ho' lv', DeskOk w' base db pb mt mh (abortR l t) tx' ho' p q s lv' safe) := by
 have H := takeBack_any t w h
 generalize abortErr l t = we at *
 have c1 := B1.cell
 go_enter Tryz.func102, Tryz.ntmps102
 go_wp2_with fail
 refine H.mono ?_
 rintro e w1 ⟨rfl, h1, h2⟩
 go_wp2_with fail
 go_ret
 exact ⟨rfl, h1, h2⟩
theorem rollAbort_any (p q r : Pg) (a : Option Addr) (len cap : Nat) (l : List Rc) (safe : Int) (t : Int) (w : World) (h : LogIn w a len cap l) :
  Calls Tryz.prog 68 #[wdVal p q r (.slice a len cap) safe, .int .i64 t] w fun e w' => Ext w w' ∧ WorkAns w.heap.size w' e p q r (errOf (worldErr p q r l safe) (abortErr l t)) (abortR l t) safe := by
 have E0 := ((((Ext.refl w).alloc (.cells (wdCells p q r (.slice a len cap) safe) 38)).alloc (.cells #[.int .i64 t] 3)).alloc (.cells (wdCells noPg noPg noPg (.slice none 0 0) 0) 38))
 have B0 := (((Blk.new w (w.heap.size) (wdCells p q r (.slice a len cap) safe) 38 (by simp)).alloc (.cells #[.int .i64 t] 3)).alloc (.cells (wdCells noPg noPg noPg (.slice none 0 0) 0) 38))
 have B1 := ((Blk.new (w.alloc (.cells (wdCells p q r (.slice a len cap) safe) 38)) (w.heap.size + 1) #[.int .i64 t] 3 (by simp)).alloc (.cells (wdCells noPg noPg noPg (.slice none 0 0) 0) 38))
 have B2 := (Blk.new ((w.alloc (.cells (wdCells p q r (.slice a len cap) safe) 38)).alloc (.cells #[.int .i64 t] 3)) (w.heap.size + 1 + 1) (wdCells noPg noPg noPg (.slice none 0 0) 0) 38 (by simp))
 have b0 := B0.cell
 have H := do_any p q r a len cap l (abortR l t) safe safe (abortErr l t) 102 #[.pointer (some ⟨w.heap.size + 1, 0, none⟩)] _ (h.ext E0) (fun v w => callFunc_enter _ w Tryz.func102 (by kernel_rfl) (by kernel_rfl))
  (fun w' base db pb mt mh tx ho lv e _ hD => abort1_any t _ w' hD (B1.ext e))
 have hsz : w.heap.size ≤ w.heap.size + 1 + 1 := by omega
 generalize (abortR l t) = l' at *
 generalize errOf (worldErr p q r l safe) (abortErr l t) = xx at *
 go_enter Tryz.func68, Tryz.ntmps68
 go_wp2_with fail
 refine H.mono ?_
 rintro e w1 ⟨hE, ⟨h0, a', cap', rfl, hin, hfrom⟩ | ⟨h0, rfl⟩⟩
 ·have Z1 := B2.ext hE
  have z := Z1.cell
  have f := Z1.fr
  have E1 := E0.trans hE
  have HX := (show Hid (xx = 0) from h0)
  have HIn := (show Hid _ from hin.gr (put14_gr w1 (w.heap.size + 1 + 1) (.int .i64 p.c0) (.int .i64 p.c1) (.int .i64 p.c2) (.int .i64 p.last) (.int .i64 q.c0) (.int .i64 q.c1) (.int .i64 q.c2) (.int .i64 q.last) (.int .i64 r.c0) (.int .i64 r.c1) (.int .i64 r.c2) (.int .i64 r.last) (.slice a' l'.length cap') (.int .i64 safe)) (fun ad e e2 => by injection e2 with e2; have := hfrom ad e; simp at this; omega))
  have HFrom : Hid (∀ ad, a' = some ad → w.heap.size ≤ ad.block) := fun ad e => by have := hfrom ad e; simp at this; omega
  have E2 := put14_ext E1 (w.heap.size + 1 + 1) (by omega) (.int .i64 p.c0) (.int .i64 p.c1) (.int .i64 p.c2) (.int .i64 p.last) (.int .i64 q.c0) (.int .i64 q.c1) (.int .i64 q.c2) (.int .i64 q.last) (.int .i64 r.c0) (.int .i64 r.c1) (.int .i64 r.c2) (.int .i64 r.last) (.slice a' l'.length cap') (.int .i64 safe)
  clear H hin hfrom h0 b0 B0 B1 B2
  go_wp2_with fail
  refine bodyPost_ret (v := .tuple #[.agg (wdCells p q r (.slice a' l'.length cap') safe), .int .i64 0]) (by simp [results, Tryz.results68, go_sem, z]) rfl ⟨?_, Or.inl ⟨HX.out, a', cap', rfl, ?_, HFrom.out⟩⟩
  ·exact E2
  ·exact HIn.out
 ·have Z1 := B2.ext hE
  have z := Z1.cell
  have f := Z1.fr
  have E1 := E0.trans hE
  have HX := (show Hid (xx ≠ 0) from h0)
  have E2 := put14_ext E1 (w.heap.size + 1 + 1) (by omega) (.int .i64 0) (.int .i64 0) (.int .i64 0) (.int .i64 0) (.int .i64 0) (.int .i64 0) (.int .i64 0) (.int .i64 0) (.int .i64 0) (.int .i64 0) (.int .i64 0) (.int .i64 0) (.slice none 0 0) (.int .i64 0)
  clear H h0 b0 B0 B1 B2
  go_wp2_with fail
  refine bodyPost_ret (v := .tuple #[.agg (wdCells noPg noPg noPg (.slice none 0 0) 0), .int .i64 xx]) (by simp [results, Tryz.results68, go_sem, z]) rfl ⟨?_, Or.inr ⟨HX.out, rfl⟩⟩
  exact E2
end Go.Proofs.YtibfgbmhmdggmaaGreatDoor.B
