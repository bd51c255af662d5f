/- The contract of the reference's PagesOf. -/
import Derived.Test.YtgojonhjhdbpkaaLog7
namespace Go.Proofs.Ytgojonhjhdbpkaa.B
set_option maxRecDepth 100000
open Go.ChangeShapes Go.WideShapes Go.ChangeAt Go.RowKit

/-- The document's answer of Pages. -/
def pagesOrNone (l : List Rc) : List Int := if logErr l = 0 then pagesR l else List.replicate 12 0
theorem logErr_zero {l : List Rc} (h : logErr l = 0) : l.length ≤ 60 ∧ Right l := by
  unfold logErr at h
  split at h
  · omega
  · exact ⟨by omega, h⟩

set_option maxHeartbeats 1000000 in
set_option maxRecDepth 100000 in
theorem pagesOf_any (a : Option Addr) (len cap : Nat) (l : List Rc) (w : World) (h : Recs w a len l) (hcap : len ≤ cap) (hm : len ≤ maxLen) :
    Calls Try.prog 21 #[.slice a len cap] w fun e w' => e = .returned (.tuple #[.agg (ints (pagesOrNone l)), .int .i64 (logErr l)]) ∧ Ext w w' := by
  go_enter Try.func21, Try.ntmps21
  go_wp2_with fail
  refine (logError_any a len cap l _ (h.ext ((Ext.refl w).alloc _)) hcap hm).mono ?_
  rintro e w1 ⟨rfl, hw1⟩
  have B0 := (Blk.new w w.heap.size #[.int .i64 0, .int .i64 0, .int .i64 0, .int .i64 0, .int .i64 0, .int .i64 0, .int .i64 0, .int .i64 0, .int .i64 0, .int .i64 0, .int .i64 0, .int .i64 0] 30 rfl).ext hw1
  have hE : Ext w w1 := ((Ext.refl w).alloc _).trans hw1
  clear hw1
  by_cases hz : logErr l = 0
  · obtain ⟨h60, hR⟩ := logErr_zero hz
    have HP : Hid (pagesOrNone l = pagesR l) := by unfold Hid pagesOrNone; rw [if_pos hz]
    have HZ := (show Hid _ from hz)
    rw [hz]
    clear hz
    obtain ⟨x0, x1, x2, x3, x4, x5, x6, x7, x8, x9, x10, x11, hps⟩ := len12 (pagesR_len l)
    have HPV : Hid (Value.agg (ints (pagesR l)) = .agg #[.int .i64 x0, .int .i64 x1, .int .i64 x2, .int .i64 x3, .int .i64 x4, .int .i64 x5, .int .i64 x6, .int .i64 x7, .int .i64 x8, .int .i64 x9, .int .i64 x10, .int .i64 x11]) := by rw [Hid, hps]; rfl
    clear hps
    have hlen := h.len
    go_wp2_with fail
    refine (pages_any a len cap l _ (h.ext hE) (by omega) (right_fits _ hR)).mono ?_
    rintro e w2 ⟨rfl, hw2⟩
    rw [HPV.out]
    have B1 := B0.ext hw2
    have hE2 := hE.trans hw2
    clear hw2 B0 hE hR h60 hlen
    have c0 := B1.cell
    have f0 := B1.fr
    go_wp2_with fail
    refine bodyPost_ret (v := .tuple #[.agg #[.int .i64 x0, .int .i64 x1, .int .i64 x2, .int .i64 x3, .int .i64 x4, .int .i64 x5, .int .i64 x6, .int .i64 x7, .int .i64 x8, .int .i64 x9, .int .i64 x10, .int .i64 x11], .int .i64 0]) (by simp [results, Try.results21, go_sem, c0]) rfl ⟨by rw [HP.out, HPV.out, HZ.out], ?_⟩
    exact ((((((((((((hE2.setCell (by simp) _).setCell (by simp) _).setCell (by simp) _).setCell (by simp) _).setCell (by simp) _).setCell (by simp) _).setCell (by simp) _).setCell (by simp) _).setCell (by simp) _).setCell (by simp) _).setCell (by simp) _).setCell (by simp) _)
  · have HP : Hid (pagesOrNone l = List.replicate 12 0) := by unfold Hid pagesOrNone; rw [if_neg hz]
    have hb : (logErr l != 0) = true := by simpa using hz
    clear hz
    have c0 := B0.cell
    have f0 := B0.fr
    go_wp2_with fail
    refine bodyPost_ret (v := .tuple #[.agg #[.int .i64 0, .int .i64 0, .int .i64 0, .int .i64 0, .int .i64 0, .int .i64 0, .int .i64 0, .int .i64 0, .int .i64 0, .int .i64 0, .int .i64 0, .int .i64 0], .int .i64 (logErr l)]) (by simp [results, Try.results21, go_sem, c0]) rfl ⟨by rw [HP.out]; rfl, ?_⟩
    exact ((((((((((((hE.setCell (by simp) _).setCell (by simp) _).setCell (by simp) _).setCell (by simp) _).setCell (by simp) _).setCell (by simp) _).setCell (by simp) _).setCell (by simp) _).setCell (by simp) _).setCell (by simp) _).setCell (by simp) _).setCell (by simp) _)
end Go.Proofs.Ytgojonhjhdbpkaa.B
