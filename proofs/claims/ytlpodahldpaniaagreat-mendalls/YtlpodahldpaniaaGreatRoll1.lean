/- The contracts of the roll's next, Step, takeBack and Abort. -/
import Derived.Test.YtlpodahldpaniaaGreatRoll0
namespace Go.Proofs.YtlpodahldpaniaaGreat.B
set_option maxRecDepth 100000
open Go.ChangeShapes Go.WideShapes Go.ChangeAt Go.RowKit

abbrev zRc : Rc := ⟨0, 0, 0, 0, 0, 0, 0, 0⟩
/-- What Step answers beside the error. -/
def nextRec (l : List Rc) (t : Int) : Rc := if rollErr l t = 0 then rollRec l t else zRc
theorem nextRec_bad {l : List Rc} {t : Int} (h : rollErr l t ≠ 0) : nextRec l t = zRc := by unfold nextRec; rw [if_neg h]
theorem nextRec_ok {l : List Rc} {t : Int} (h : rollErr l t = 0) : nextRec l t = rollRec l t := by unfold nextRec; rw [if_pos h]
theorem rollRec_backB {l : List Rc} {t : Int} (h : standB l t ≠ []) : rollRec l t = backB (lastR l t : Nat) (standB l t) := by
  rcases List.eq_nil_or_concat (standB l t) with hst | ⟨st, w, hst⟩
  · exact absurd hst h
  · rw [List.concat_eq_append] at hst
    have hw : w ∈ standB l t := by rw [hst]; simp
    rw [rollRec_back hst, hst]
    unfold backB
    rw [List.getLast?_concat]
    dsimp only
    rw [(standB_mem hw).2.1]
set_option maxHeartbeats 4000000 in
theorem next_any {base pb mt mh : Nat} {l : List Rc} {tx : List TxE} {ho : List HE} (t : Int) (w : World) (h : BookOk w base pb mt mh l tx ho) :
    Calls Tryz.prog 81 #[.pointer (some ⟨pb, 0, none⟩), .int .i64 t] w fun e w' => e = .returned (.tuple #[(nextRec l t).val, .int .i64 (rollErr l t)]) ∧ Ext w w' := by
  have h60 := right_len l h.right
  obtain ⟨sv, hlk, hown, _⟩ := h.look t
  have hsl : (standB l t).length ≤ 1000 := by
    by_cases h4 : stateR l t = 4
    · unfold standB; rw [if_pos h4]; simp
    · rw [stand_of_n4 h4, standRecs_length]; have := standsR_le l t; omega
  obtain ⟨sa, sm, scap, rfl⟩ := own_slice hown
  obtain rfl := own_len hown
  have HOwn := (show Hid (w.ownsRow base 65 8 (.slice sa (standB l t).length scap) (standB l t).length (flat (standB l t))) from hown)
  have X3 : Hid (out 1 9 [t] = true → rollErr l t = 3 ∧ nextRec l t = zRc) := fun a => ⟨rollErr_3 a, nextRec_bad (by rw [rollErr_3 a]; decide)⟩
  have X7 : Hid (out 1 9 [t] = false → stateR l t = 0 → rollErr l t = 7 ∧ nextRec l t = zRc) := fun a b => ⟨rollErr_7 a b, nextRec_bad (by rw [rollErr_7 a b]; decide)⟩
  have X6 : Hid (out 1 9 [t] = false → ¬ stateR l t = 0 → (stateR l t = 2 ∨ stateR l t = 4) → rollErr l t = 6 ∧ nextRec l t = zRc) := fun a b c => ⟨rollErr_6 a b c, nextRec_bad (by rw [rollErr_6 a b c]; decide)⟩
  have XE : Hid (out 1 9 [t] = false → ¬ stateR l t = 0 → ¬ (stateR l t = 2 ∨ stateR l t = 4) → (standB l t).length = 0 → rollErr l t = 0 ∧ nextRec l t = ⟨4, t, (lastR l t : Nat), 0, 0, 0, 0, 0⟩) := fun a b c d => ⟨rollErr_0 a b c, by rw [nextRec_ok (rollErr_0 a b c), rollRec_end (List.length_eq_zero_iff.1 d)]⟩
  have XB : Hid (out 1 9 [t] = false → ¬ stateR l t = 0 → ¬ (stateR l t = 2 ∨ stateR l t = 4) → ¬ (standB l t).length = 0 → rollErr l t = 0 ∧ nextRec l t = backB (lastR l t : Nat) (standB l t)) := fun a b c d => ⟨rollErr_0 a b c, by rw [nextRec_ok (rollErr_0 a b c), rollRec_backB (fun e => d (by rw [e]; rfl))]⟩
  generalize rollErr l t = re at *
  generalize nextRec l t = nr at *
  have c12 : (w.alloc (.cells #[.int .i64 0, .int .i64 0, .int .i64 0, .int .i64 0, .int .i64 0, .int .i64 0, .int .i64 0, .int .i64 0] 65)).cell? ⟨pb, 12, none⟩ = some (.map (some mt)) := by rw [(h.ext ((Ext.refl w).alloc _)).blk.cell]; exact (bookCells_12 _ mt mh _ (pagesR_len l)).1
  have hrun : (Instr.lookup 73 (.map (some mt)) (.int .i64 t) false).run Tryz.prog (w.alloc (.cells #[.int .i64 0, .int .i64 0, .int .i64 0, .int .i64 0, .int .i64 0, .int .i64 0, .int .i64 0, .int .i64 0] 65)) = .ok (txVal (stateR l t) (lastR l t : Nat) (.slice sa (standB l t).length scap)) (w.alloc (.cells #[.int .i64 0, .int .i64 0, .int .i64 0, .int .i64 0, .int .i64 0, .int .i64 0, .int .i64 0, .int .i64 0] 65)) := by rw [run_lookI (h.ext ((Ext.refl w).alloc _)).txs t]; exact congrArg (fun v => Result.ok v _) hlk
  clear hlk hown
  generalize standB l t = st at *
  generalize ((lastR l t : Nat) : Int) = la at *
  obtain ⟨bk, hbk⟩ : ∃ bk, backB la st = bk := ⟨_, rfl⟩
  rw [hbk] at XB
  have HBk := (show Hid (backB la st = bk) from hbk)
  clear hbk
  obtain ⟨b0, b1, b2, b3, b4, b5, b6, b7⟩ := bk
  have hsr := stateR_range l t
  generalize stateR l t = s at *
  have Z0 := ((Blk.new w w.heap.size #[.int .i64 0, .int .i64 0, .int .i64 0, .int .i64 0, .int .i64 0, .int .i64 0, .int .i64 0, .int .i64 0] 65 rfl).alloc (.cells #[.int .i64 s, .int .i64 la, .slice sa st.length scap] 105)).alloc (.cells #[.int .i64 t] 3)
  have T0 := (Blk.new (w.alloc (.cells #[.int .i64 0, .int .i64 0, .int .i64 0, .int .i64 0, .int .i64 0, .int .i64 0, .int .i64 0, .int .i64 0] 65)) (w.heap.size + 1) #[.int .i64 s, .int .i64 la, .slice sa st.length scap] 105 (by simp)).alloc (.cells #[.int .i64 t] 3)
  have E1 := (((Ext.refl w).alloc (.cells #[.int .i64 0, .int .i64 0, .int .i64 0, .int .i64 0, .int .i64 0, .int .i64 0, .int .i64 0, .int .i64 0] 65)).alloc (.cells #[.int .i64 s, .int .i64 la, .slice sa st.length scap] 105)).alloc (.cells #[.int .i64 t] 3)
  go_enter Tryz.func81, Tryz.ntmps81
  go_wp2_with fail
  refine (outside_n 1 1 9 _ 0 1 [t] _ rfl (by decide) (cells1 (by simp [go_sem]))).mono ?_
  rintro e w1 ⟨rfl, rfl⟩
  clear c12 hrun
  generalize ((w.alloc (.cells #[.int .i64 0, .int .i64 0, .int .i64 0, .int .i64 0, .int .i64 0, .int .i64 0, .int .i64 0, .int .i64 0] 65)).alloc (.cells #[.int .i64 s, .int .i64 la, .slice sa st.length scap] 105)).alloc (.cells #[.int .i64 t] 3) = w1 at *
  have z1 := Z0.cell
  have f1 := Z0.fr
  cases hn : out 1 9 [t]
  · have HN := (show Hid (out 1 9 [t] = false) from hn)
    clear hn X3
    have t1 := T0.cell
    by_cases hs0 : s = 0
    · obtain ⟨rfl, rfl⟩ := X7.out HN.out hs0
      have hb : (s == 0) = true := by simpa using hs0
      clear hs0 X7 X6 XE XB hsr
      go_wp2_with fail
      refine bodyPost_ret (v := .tuple #[.agg #[.int .i64 0, .int .i64 0, .int .i64 0, .int .i64 0, .int .i64 0, .int .i64 0, .int .i64 0, .int .i64 0], .int .i64 7]) (by simp [results, Tryz.results81, go_sem, z1]) rfl ⟨rfl, ?_⟩
      exact ((((((((E1.setCell (by simp) _).setCell (by simp) _).setCell (by simp) _).setCell (by simp) _).setCell (by simp) _).setCell (by simp) _).setCell (by simp) _).setCell (by simp) _)
    · have HS0 := (show Hid (¬ s = 0) from hs0)
      have hb : (s == 0) = false := by simpa using hs0
      clear hs0
      by_cases hst : s = 2 ∨ s = 4
      · obtain ⟨rfl, rfl⟩ := X6.out HN.out HS0.out hst
        clear X7 X6 XE XB hsr
        rcases hst with rfl | rfl
        · go_wp2_with fail
          refine bodyPost_ret (v := .tuple #[.agg #[.int .i64 0, .int .i64 0, .int .i64 0, .int .i64 0, .int .i64 0, .int .i64 0, .int .i64 0, .int .i64 0], .int .i64 6]) (by simp [results, Tryz.results81, go_sem, z1]) rfl ⟨rfl, ?_⟩
          exact ((((((((E1.setCell (by simp) _).setCell (by simp) _).setCell (by simp) _).setCell (by simp) _).setCell (by simp) _).setCell (by simp) _).setCell (by simp) _).setCell (by simp) _)
        · go_wp2_with fail
          refine bodyPost_ret (v := .tuple #[.agg #[.int .i64 0, .int .i64 0, .int .i64 0, .int .i64 0, .int .i64 0, .int .i64 0, .int .i64 0, .int .i64 0], .int .i64 6]) (by simp [results, Tryz.results81, go_sem, z1]) rfl ⟨rfl, ?_⟩
          exact ((((((((E1.setCell (by simp) _).setCell (by simp) _).setCell (by simp) _).setCell (by simp) _).setCell (by simp) _).setCell (by simp) _).setCell (by simp) _).setCell (by simp) _)
      · have HST := (show Hid (¬ (s = 2 ∨ s = 4)) from hst)
        have hb2 : (s == 2) = false := by simp; omega
        have hb4 : (s == 4) = false := by simp; omega
        clear hst X7 X6 hsr
        by_cases hl0 : st.length = 0
        · obtain ⟨rfl, rfl⟩ := XE.out HN.out HS0.out HST.out hl0
          have hbl : ((st.length : Int) == 0) = true := by simpa using hl0
          clear XE XB hl0
          go_wp2_with fail
          refine bodyPost_ret (v := .tuple #[.agg #[.int .i64 4, .int .i64 t, .int .i64 la, .int .i64 0, .int .i64 0, .int .i64 0, .int .i64 0, .int .i64 0], .int .i64 0]) (by simp [results, Tryz.results81, go_sem, z1]) rfl ⟨rfl, ?_⟩
          exact ((((((((E1.setCell (by simp) _).setCell (by simp) _).setCell (by simp) _).setCell (by simp) _).setCell (by simp) _).setCell (by simp) _).setCell (by simp) _).setCell (by simp) _)
        · obtain ⟨rfl, rfl⟩ := XB.out HN.out HS0.out HST.out hl0
          have hbl : ((st.length : Int) == 0) = false := by simpa using hl0
          clear XE XB hl0
          go_wp2_with fail
          refine (back_any s la (.slice sa st.length scap) st base _ (own_ext HOwn.out E1) hsl).mono ?_
          rintro e w2 ⟨rfl, hw⟩
          rw [HBk.out]
          replace Z0 := Z0.ext hw
          have E2 := E1.trans hw
          clear z1 f1 t1 T0 E1 hw HOwn
          have z2 := Z0.cell
          have f2 := Z0.fr
          go_wp2_with fail
          refine bodyPost_ret (v := .tuple #[.agg #[.int .i64 b0, .int .i64 b1, .int .i64 b2, .int .i64 b3, .int .i64 b4, .int .i64 b5, .int .i64 b6, .int .i64 b7], .int .i64 0]) (by simp [results, Tryz.results81, go_sem, z2]) rfl ⟨rfl, ?_⟩
          exact ((((((((E2.setCell (by simp) _).setCell (by simp) _).setCell (by simp) _).setCell (by simp) _).setCell (by simp) _).setCell (by simp) _).setCell (by simp) _).setCell (by simp) _)
  · have HN := (show Hid (out 1 9 [t] = true) from hn)
    obtain ⟨rfl, rfl⟩ := X3.out HN.out
    clear X3 X7 X6 XE XB hsr
    go_wp2_with fail
    refine bodyPost_ret (v := .tuple #[.agg #[.int .i64 0, .int .i64 0, .int .i64 0, .int .i64 0, .int .i64 0, .int .i64 0, .int .i64 0, .int .i64 0], .int .i64 3]) (by simp [results, Tryz.results81, go_sem, z1]) rfl ⟨rfl, ?_⟩
    exact ((((((((E1.setCell (by simp) _).setCell (by simp) _).setCell (by simp) _).setCell (by simp) _).setCell (by simp) _).setCell (by simp) _).setCell (by simp) _).setCell (by simp) _)
/-- The document's answer of Step. -/
def stepAns (l : List Rc) (t : Int) : Rc × Int := if logErr l = 0 then (nextRec l t, rollErr l t) else (zRc, logErr l)
set_option maxHeartbeats 2000000 in
theorem rollStep_any (a : Option Addr) (len cap : Nat) (l : List Rc) (t : Int) (w : World) (h : Recs w a len l) (hm : len ≤ maxLen) :
    Calls Tryz.prog 60 #[.slice a len cap, .int .i64 t] w fun e w' => e = .returned (.tuple #[(stepAns l t).1.val, .int .i64 (stepAns l t).2]) ∧ Ext w w' := by
  have E0 := (Ext.refl w).alloc (.cells #[.int .i64 0, .int .i64 0, .int .i64 0, .int .i64 0, .int .i64 0, .int .i64 0, .int .i64 0, .int .i64 0] 65)
  have Z0 := Blk.new w w.heap.size #[.int .i64 0, .int .i64 0, .int .i64 0, .int .i64 0, .int .i64 0, .int .i64 0, .int .i64 0, .int .i64 0] 65 rfl
  have H := read_any a len cap l (w.alloc (.cells #[.int .i64 0, .int .i64 0, .int .i64 0, .int .i64 0, .int .i64 0, .int .i64 0, .int .i64 0, .int .i64 0] 65)) (h.ext E0) hm
  have HS : Hid (stepAns l t = if logErr l = 0 then (nextRec l t, rollErr l t) else (zRc, logErr l)) := rfl
  have HN : Hid (∀ w' base pb mt mh tx ho, BookOk w' base pb mt mh l tx ho → Calls Tryz.prog 81 #[.pointer (some ⟨pb, 0, none⟩), .int .i64 t] w' fun e w'' => e = .returned (.tuple #[(nextRec l t).val, .int .i64 (rollErr l t)]) ∧ Ext w' w'') := fun w' base pb mt mh tx ho hb => next_any t w' hb
  generalize stepAns l t = sa at *
  generalize logErr l = x at *
  generalize rollErr l t = re at *
  generalize nextRec l t = nr at *
  obtain ⟨r0, r1, r2, r3, r4, r5, r6, r7⟩ := nr
  go_enter Tryz.func60, Tryz.ntmps60
  go_wp2_with fail
  refine H.mono ?_
  rintro e w1 ⟨p, rfl, hE, ⟨h0, pb, mt, mh, tx, ho, rfl, hB⟩ | ⟨h0, rfl⟩⟩
  · subst h0
    have hsa := HS.out
    rw [if_pos rfl] at hsa
    subst hsa
    clear H HS
    have hn := HN.out _ _ _ _ _ _ _ hB
    go_wp2_with fail
    refine hn.mono ?_
    rintro e w2 ⟨rfl, hE2⟩
    clear hn
    have Z2 := (Z0.ext hE).ext hE2
    have z := Z2.cell
    have f := Z2.fr
    have E2 := (E0.trans hE).trans hE2
    go_wp2_with fail
    refine bodyPost_ret (v := .tuple #[.agg #[.int .i64 r0, .int .i64 r1, .int .i64 r2, .int .i64 r3, .int .i64 r4, .int .i64 r5, .int .i64 r6, .int .i64 r7], .int .i64 re]) (by simp [results, Tryz.results60, go_sem, z]) rfl ⟨rfl, ?_⟩
    exact ((((((((E2.setCell (by simp) _).setCell (by simp) _).setCell (by simp) _).setCell (by simp) _).setCell (by simp) _).setCell (by simp) _).setCell (by simp) _).setCell (by simp) _)
  · have hsa := HS.out
    rw [if_neg h0] at hsa
    subst hsa
    clear H HS
    have hb : (x != 0) = true := by simpa using h0
    have Z2 := Z0.ext hE
    have z := Z2.cell
    have f := Z2.fr
    have E2 := E0.trans hE
    go_wp2_with fail
    refine bodyPost_ret (v := .tuple #[.agg #[.int .i64 0, .int .i64 0, .int .i64 0, .int .i64 0, .int .i64 0, .int .i64 0, .int .i64 0, .int .i64 0], .int .i64 x]) (by simp [results, Tryz.results60, go_sem, z]) rfl ⟨rfl, ?_⟩
    exact ((((((((E2.setCell (by simp) _).setCell (by simp) _).setCell (by simp) _).setCell (by simp) _).setCell (by simp) _).setCell (by simp) _).setCell (by simp) _).setCell (by simp) _)
end Go.Proofs.YtlpodahldpaniaaGreat.B
