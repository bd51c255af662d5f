/- The contracts of the log's Check, Pages and State. -/
import Derived.Test.YtgojonhjhdbpkaaBook13
import Derived.Test.YtgojonhjhdbpkaaLog8
namespace Go.Proofs.Ytgojonhjhdbpkaa.B
set_option maxRecDepth 100000
open Go.ChangeShapes Go.WideShapes Go.ChangeAt Go.RowKit

theorem read_any (a : Option Addr) (len cap : Nat) (l : List Rc) (w : World) (h : Recs w a len l) (hm : len ≤ maxLen) :
    Calls Try.prog 45 #[.slice a len cap] w fun e w' => ∃ p, e = .returned (.tuple #[p, .int .i64 (logErr l)]) ∧ Ext w w' ∧ ((logErr l = 0 ∧ ∃ pb mt mh tx ho, p = .pointer (some ⟨pb, 0, none⟩) ∧ BookOk w' w.heap.size pb mt mh l tx ho) ∨ (logErr l ≠ 0 ∧ p = .pointer none)) := by
  unfold logErr
  by_cases hl : 60 < len
  · rw [if_pos (by rw [h.len]; exact hl)]
    refine (read_many a len cap w hl hm).mono ?_
    rintro e w' ⟨rfl, hw⟩
    exact ⟨_, rfl, hw, Or.inr ⟨by decide, rfl⟩⟩
  · rw [if_neg (by rw [h.len]; exact hl)]
    exact read_few a len cap l w h (by omega)
set_option maxHeartbeats 1000000 in
theorem logCheck_any (a : Option Addr) (len cap : Nat) (l : List Rc) (w : World) (h : Recs w a len l) (hm : len ≤ maxLen) :
    Calls Try.prog 18 #[.slice a len cap] w fun e w' => e = .returned (.int .i64 (logErr l)) ∧ Ext w w' := by
  have H := read_any a len cap l w h hm
  generalize logErr l = x at *
  go_enter Try.func18, Try.ntmps18
  go_wp2_with fail
  refine H.mono ?_
  rintro e w1 ⟨p, rfl, hE, _⟩
  go_wp2_with fail
  go_ret
  exact ⟨rfl, hE⟩
set_option maxHeartbeats 1000000 in
set_option maxRecDepth 100000 in
theorem logPages_any (a : Option Addr) (len cap : Nat) (l : List Rc) (w : World) (h : Recs w a len l) (hm : len ≤ maxLen) :
    Calls Try.prog 20 #[.slice a len cap] w fun e w' => e = .returned (.tuple #[.agg (ints (pagesOrNone l)), .int .i64 (logErr l)]) ∧ Ext w w' := by
  have H := read_any a len cap l (w.alloc (.cells #[.int .i64 0, .int .i64 0, .int .i64 0, .int .i64 0, .int .i64 0, .int .i64 0, .int .i64 0, .int .i64 0, .int .i64 0, .int .i64 0, .int .i64 0, .int .i64 0] 30)) (h.ext ((Ext.refl w).alloc _)) hm
  have hl := pagesR_len l
  have HP : Hid (pagesOrNone l = if logErr l = 0 then pagesR l else List.replicate 12 0) := rfl
  generalize logErr l = x at *
  generalize pagesOrNone l = q at *
  go_enter Try.func20, Try.ntmps20
  go_wp2_with fail
  refine H.mono ?_
  rintro e w1 ⟨p, rfl, hE, ⟨h0, pb, mt, mh, tx, ho, rfl, hB⟩ | ⟨h0, rfl⟩⟩
  · subst h0
    have b := hB.blk
    obtain ⟨a0, a1, a2, a3, a4, a5, a6, a7, a8, a9, a10, a11, hps⟩ := list12 _ hl
    rw [hps, bookArr_eq] at b
    have B0 := (Blk.new w w.heap.size #[.int .i64 0, .int .i64 0, .int .i64 0, .int .i64 0, .int .i64 0, .int .i64 0, .int .i64 0, .int .i64 0, .int .i64 0, .int .i64 0, .int .i64 0, .int .i64 0] 30 rfl).ext hE
    have c := b.cell
    have c0 := B0.cell
    have f0 := B0.fr
    have hne : w.heap.size ≠ pb := by have := hB.ge; simp at this; omega
    clear hB H
    go_wp2_with fail
    have hE2 : Ext w w1 := ((Ext.refl w).alloc _).trans hE
    refine bodyPost_ret (v := .tuple #[.agg #[.int .i64 a0, .int .i64 a1, .int .i64 a2, .int .i64 a3, .int .i64 a4, .int .i64 a5, .int .i64 a6, .int .i64 a7, .int .i64 a8, .int .i64 a9, .int .i64 a10, .int .i64 a11], .int .i64 0]) (by simp [results, Try.results20, go_sem, c0]) rfl ⟨by rw [HP.out, if_pos trivial, hps]; rfl, ?_⟩
    exact ((((((((((((hE2.setCell (by simp) _).setCell (by simp) _).setCell (by simp) _).setCell (by simp) _).setCell (by simp) _).setCell (by simp) _).setCell (by simp) _).setCell (by simp) _).setCell (by simp) _).setCell (by simp) _).setCell (by simp) _).setCell (by simp) _)
  · have hb : (x != 0) = true := by simpa using h0
    have B0 := (Blk.new w w.heap.size #[.int .i64 0, .int .i64 0, .int .i64 0, .int .i64 0, .int .i64 0, .int .i64 0, .int .i64 0, .int .i64 0, .int .i64 0, .int .i64 0, .int .i64 0, .int .i64 0] 30 rfl).ext hE
    have c0 := B0.cell
    have f0 := B0.fr
    clear H
    go_wp2_with fail
    have hE2 : Ext w w1 := ((Ext.refl w).alloc _).trans hE
    refine bodyPost_ret (v := .tuple #[.agg #[.int .i64 0, .int .i64 0, .int .i64 0, .int .i64 0, .int .i64 0, .int .i64 0, .int .i64 0, .int .i64 0, .int .i64 0, .int .i64 0, .int .i64 0, .int .i64 0], .int .i64 x]) (by simp [results, Try.results20, go_sem, c0]) rfl ⟨by rw [HP.out, if_neg h0]; rfl, ?_⟩
    exact ((((((((((((hE2.setCell (by simp) _).setCell (by simp) _).setCell (by simp) _).setCell (by simp) _).setCell (by simp) _).setCell (by simp) _).setCell (by simp) _).setCell (by simp) _).setCell (by simp) _).setCell (by simp) _).setCell (by simp) _).setCell (by simp) _)
/-- The document's answer of State. -/
def stateAns (l : List Rc) (t : Int) : Int × Int × Int := if logErr l = 0 then (if out 1 9 [t] then (0, 0, 3) else (stateR l t, ((lastR l t : Nat) : Int), 0)) else (0, 0, logErr l)
set_option maxHeartbeats 1000000 in
set_option maxRecDepth 100000 in
theorem logState_any (a : Option Addr) (len cap : Nat) (l : List Rc) (t : Int) (w : World) (h : Recs w a len l) (hm : len ≤ maxLen) :
    Calls Try.prog 22 #[.slice a len cap, .int .i64 t] w fun e w' => e = .returned (.tuple #[.int .i64 (stateAns l t).1, .int .i64 (stateAns l t).2.1, .int .i64 (stateAns l t).2.2]) ∧ Ext w w' := by
  have H := read_any a len cap l w h hm
  have HS : Hid (stateAns l t = if logErr l = 0 then (if out 1 9 [t] then (0, 0, 3) else (stateR l t, ((lastR l t : Nat) : Int), 0)) else (0, 0, logErr l)) := rfl
  generalize stateAns l t = sa at *
  generalize logErr l = x at *
  go_enter Try.func22, Try.ntmps22
  go_wp2_with fail
  refine H.mono ?_
  rintro e w1 ⟨p, rfl, hE, ⟨h0, pb, mt, mh, tx, ho, rfl, hB⟩ | ⟨h0, rfl⟩⟩
  · subst h0
    clear H
    go_wp2_with fail
    refine (outside_n 1 1 9 _ 0 1 [t] _ rfl (by decide) (cells1 (by simp [go_sem]))).mono ?_
    rintro e w2 ⟨rfl, rfl⟩
    cases ho : out 1 9 [t]
    · have HO := (show Hid (out 1 9 [t] = false) from ho)
      obtain ⟨sv, hlk, hown, _⟩ := hB.look t
      obtain ⟨sa', sm, scap, rfl⟩ := own_slice hown
      have hE2 := (Ext.refl w1).alloc (.cells #[.int .i64 t] 3)
      have B2 := hB.ext hE2
      have c12 : (w1.alloc (.cells #[.int .i64 t] 3)).cell? ⟨pb, 12, none⟩ = some (.map (some mt)) := by rw [B2.blk.cell]; exact (bookCells_12 _ mt mh _ (pagesR_len l)).1
      have hrun : (Instr.lookup 68 (.map (some mt)) (.int .i64 t) false).run Try.prog (w1.alloc (.cells #[.int .i64 t] 3)) = .ok (txVal (stateR l t) (lastR l t : Nat) (.slice sa' sm scap)) (w1.alloc (.cells #[.int .i64 t] 3)) := by rw [run_lookI B2.txs t]; exact congrArg (fun v => Result.ok v _) hlk
      have hE3 := hE.trans hE2
      clear hlk hown B2 hB hE2
      generalize w1.alloc (.cells #[.int .i64 t] 3) = W at *
      go_wp2_with fail
      go_quiet (fail)
      go_wp2_with fail
      refine bodyPost_ret (v := .tuple #[.int .i64 (stateR l t), .int .i64 (lastR l t : Nat), .int .i64 0]) (by simp [results, Try.results22, go_sem]) rfl ⟨by rw [HS.out, if_pos trivial, HO.out]; rfl, ?_⟩
      exact (hE3.alloc _).drewN _
    · have HO := (show Hid (out 1 9 [t] = true) from ho)
      go_wp2_with fail
      refine bodyPost_ret (v := .tuple #[.int .i64 0, .int .i64 0, .int .i64 3]) (by simp [results, Try.results22, go_sem]) rfl ⟨by rw [HS.out, if_pos trivial, HO.out]; rfl, ?_⟩
      exact hE.alloc _
  · have hb : (x != 0) = true := by simpa using h0
    clear H
    go_wp2_with fail
    refine bodyPost_ret (v := .tuple #[.int .i64 0, .int .i64 0, .int .i64 x]) (by simp [results, Try.results22, go_sem]) rfl ⟨by rw [HS.out, if_neg h0], ?_⟩
    exact hE
end Go.Proofs.Ytgojonhjhdbpkaa.B
