/- The contracts of the reference's state and pages. -/
import Derived.Test.YtgojonhjhdbpkaaLog1
namespace Go.Proofs.Ytgojonhjhdbpkaa.B
set_option maxRecDepth 100000
open Go.ChangeShapes Go.WideShapes Go.ChangeAt Go.RowKit

theorem stateR_0 {l : List Rc} {t : Int} (h : lastR l t = 0) : stateR l t = 0 := by simp [stateR, h]
theorem stateR_4 {l : List Rc} {t : Int} (h : ¬ lastR l t = 0) (h4 : 0 < countR l t 4) : stateR l t = 4 := by simp [stateR, h, h4]
theorem stateR_2 {l : List Rc} {t : Int} (h : ¬ lastR l t = 0) (h4 : ¬ 0 < countR l t 4) (h2 : 0 < countR l t 2) : stateR l t = 2 := by simp [stateR, h, h4, h2]
theorem stateR_3 {l : List Rc} {t : Int} (h : ¬ lastR l t = 0) (h4 : ¬ 0 < countR l t 4) (h2 : ¬ 0 < countR l t 2) (h3 : 0 < countR l t 3) : stateR l t = 3 := by simp [stateR, h, h4, h2, h3]
theorem stateR_1 {l : List Rc} {t : Int} (h : ¬ lastR l t = 0) (h4 : ¬ 0 < countR l t 4) (h2 : ¬ 0 < countR l t 2) (h3 : ¬ 0 < countR l t 3) : stateR l t = 1 := by simp [stateR, h, h4, h2, h3]

set_option maxHeartbeats 400000 in
theorem state_any (a : Option Addr) (len cap : Nat) (l : List Rc) (t : Int) (w : World) (h : Recs w a len l) (hl : len ≤ 1000) :
    Calls Try.prog 51 #[.slice a len cap, .int .i64 t] w fun e w' => e = .returned (.int .i64 (stateR l t)) ∧ w' = w := by
  go_enter Try.func51, Try.ntmps51
  go_wp2_with fail
  refine (last_any a len cap l t _ h hl).mono ?_
  rintro e w' ⟨rfl, rfl⟩
  by_cases k0 : lastR l t = 0
  · have HR := (show Hid _ from stateR_0 k0)
    have hb : (((lastR l t : Nat) : Int) == 0) = true := by simp [k0]
    clear k0
    go_wp2_with fail
    go_ret
    exact ⟨by rw [HR.out]; rfl, rfl⟩
  · have hb : (((lastR l t : Nat) : Int) == 0) = false := by simp [k0]
    have K0 := (show Hid _ from k0)
    clear k0
    go_wp2_with fail
    refine (count_any a len cap l t 4 _ h hl).mono ?_
    rintro e w' ⟨rfl, rfl⟩
    clear hb
    by_cases k4 : 0 < countR l t 4
    · have HR := (show Hid _ from stateR_4 K0.out k4)
      go_wp2_with fail
      go_ret
      exact ⟨by rw [HR.out]; rfl, rfl⟩
    · have K4 := (show Hid _ from k4)
      go_wp2_with fail
      refine (count_any a len cap l t 2 _ h hl).mono ?_
      rintro e w' ⟨rfl, rfl⟩
      clear k4
      by_cases k2 : 0 < countR l t 2
      · have HR := (show Hid _ from stateR_2 K0.out K4.out k2)
        go_wp2_with fail
        go_ret
        exact ⟨by rw [HR.out]; rfl, rfl⟩
      · have K2 := (show Hid _ from k2)
        go_wp2_with fail
        refine (count_any a len cap l t 3 _ h hl).mono ?_
        rintro e w' ⟨rfl, rfl⟩
        clear k2
        by_cases k3 : 0 < countR l t 3
        · have HR := (show Hid _ from stateR_3 K0.out K4.out K2.out k3)
          go_wp2_with fail
          go_ret
          exact ⟨by rw [HR.out]; rfl, rfl⟩
        · have HR := (show Hid _ from stateR_1 K0.out K4.out K2.out k3)
          go_wp2_with fail
          go_ret
          exact ⟨by rw [HR.out]; rfl, rfl⟩

/-- Numbers as cells. -/
def ints (ps : List Int) : Array Value := (ps.map fun n => Value.int .i64 n).toArray
theorem ints_get (ps : List Int) (o : Nat) : (ints ps)[o]? = (ps[o]?).map fun n => Value.int .i64 n := by simp [ints]
theorem ints_set (ps : List Int) (o : Nat) (n : Int) : (ints ps).setIfInBounds o (.int .i64 n) = ints (ps.set o n) := by
  simp [ints]
theorem len12 {ps : List Int} (h : ps.length = 12) : ∃ x0 x1 x2 x3 x4 x5 x6 x7 x8 x9 x10 x11, ps = [x0, x1, x2, x3, x4, x5, x6, x7, x8, x9, x10, x11] := by
  match ps, h with
  | [x0, x1, x2, x3, x4, x5, x6, x7, x8, x9, x10, x11], _ => exact ⟨x0, x1, x2, x3, x4, x5, x6, x7, x8, x9, x10, x11, rfl⟩
/-- Each record that turns a cell turns one there is. -/
def Fits (l : List Rc) : Prop := ∀ r ∈ l, turns r = true → 0 ≤ r.page ∧ r.page ≤ 2 ∧ 0 ≤ r.cell ∧ r.cell ≤ 2

set_option maxHeartbeats 1000000 in
set_option maxRecDepth 100000 in
theorem pages_any (a : Option Addr) (len cap : Nat) (l : List Rc) (w : World) (h : Recs w a len l) (hl : len ≤ 1000) (hf : Fits l) :
    Calls Try.prog 48 #[.slice a len cap] w fun e w' => e = .returned (.agg (ints (pagesR l))) ∧ Ext w w' := by
  go_enter Try.func48, Try.ntmps48
  go_wp2_with fail
  go_loopw [4] (fun i wr => ∃ k : Nat, k ≤ len ∧ i = .int .i64 k ∧ Ext w wr ∧ Blk wr w.heap.size (ints (List.replicate 12 0)) 30 ∧ Blk wr (w.heap.size + 1) (ints (pagesR (l.take k))) 30) (fun i _ => len - (intOf i).toNat)
  case atStart => exact ⟨0, Nat.zero_le _, rfl, ((Ext.refl w).alloc _).alloc _, (Blk.new _ _ _ _ rfl).alloc _, Blk.new _ _ _ _ (by simp)⟩
  case round =>
    obtain ⟨k, hk, rfl, hE, B0, B1⟩ := hrel
    by_cases hlt : k < len
    · obtain ⟨b, off, rfl, hkl, hrec⟩ := (h.ext hE).at hlt
      have HS := (show Hid _ from pagesR_take l k hkl)
      have hfit := hf l[k] (List.getElem_mem hkl)
      have hrecw : RecAt w b (off + k * 8) l[k] := by
        obtain ⟨b', off', e, _, hr⟩ := h.at hlt
        simp only [Option.some.injEq, Addr.mk.injEq, and_true] at e
        obtain ⟨rfl, rfl⟩ := e
        exact hr
      obtain ⟨h0, h1, h2, h3, h4, h5, h6, h7⟩ := hrec
      have hplen := pagesR_len (l.take k)
      generalize l[k] = r at *
      generalize pagesR (l.take k) = ps at *
      go_wp2_with fail
      refine (refTurns_any r _).mono ?_
      rintro e w1 ⟨rfl, hw1⟩
      have hE1 := hE.trans hw1
      have C0 := B0.ext hw1
      have C1 := B1.ext hw1
      clear h0 h1 h2 h3 h4 h5 h6 h7 hw1 B0 B1 hE
      cases ht : turns r
      · have HT := (show Hid _ from ht)
        clear ht
        go_wp2_with fail
        go_roundw
        case rel => exact ⟨k + 1, by omega, by go_num, hE1, C0, by rw [HS.out, HT.out]; exact C1⟩
        case measure => simp [intOf]; omega
      · obtain ⟨p0, p2, q0, q2⟩ := hfit ht
        have HT := (show Hid _ from ht)
        clear ht hfit
        obtain ⟨h0, h1, h2, h3, h4, h5, h6, h7⟩ := hrecw.ext hE1
        have p3 : r.page < 3 := by omega
        have q3 : r.cell < 3 := by omega
        have f1 := C1.fr
        obtain ⟨x, hx⟩ : ∃ x, w1.cell? ⟨w.heap.size + 1, r.page.toNat * 4 + r.cell.toNat, none⟩ = some (.int .i64 x) := by
          have hlt : r.page.toNat * 4 + r.cell.toNat < ps.length := by omega
          exact ⟨ps[r.page.toNat * 4 + r.cell.toNat], by rw [C1.cell, ints_get, List.getElem?_eq_getElem hlt]; rfl⟩
        go_wp2_with fail
        go_region
        have D0 := (C0.other ⟨w.heap.size + 1, r.page.toNat * 4 + r.cell.toNat, none⟩ (.int .i64 r.new) (by simp)).drew
        have D1 := (C1.set (r.page.toNat * 4 + r.cell.toNat) (.int .i64 r.new)).drew
        rw [ints_set] at D1
        have hE2 := (hE1.setCell (p := ⟨w.heap.size + 1, r.page.toNat * 4 + r.cell.toNat, none⟩) (by simp) (.int .i64 r.new)).drew
        generalize (w1.setCell ⟨w.heap.size + 1, r.page.toNat * 4 + r.cell.toNat, none⟩ (.int .i64 r.new)).drew = W2 at *
        clear C0 C1 hE1 h0 h1 h2 h3 h4 h5 h6 h7 f1 hx x
        obtain ⟨h0, h1, h2, h3, h4, h5, h6, h7⟩ := hrecw.ext hE2
        have f1 := D1.fr
        obtain ⟨x, hx⟩ : ∃ x, W2.cell? ⟨w.heap.size + 1, r.page.toNat * 4 + 3, none⟩ = some (.int .i64 x) := by
          have hlt : r.page.toNat * 4 + 3 < (ps.set (r.page.toNat * 4 + r.cell.toNat) r.new).length := by rw [List.length_set]; omega
          exact ⟨_, by rw [D1.cell, ints_get, List.getElem?_eq_getElem hlt]; rfl⟩
        go_wp2_with fail
        go_roundw
        case rel =>
          refine ⟨k + 1, by omega, by go_num, hE2.setCell (by simp) _, D0.other _ _ (by simp), ?_⟩
          have D2 := D1.set (r.page.toNat * 4 + 3) (.int .i64 ((k : Int) + 1))
          rw [ints_set] at D2
          rw [HS.out, HT.out]
          exact D2
        case measure => simp [intOf]; omega
    · have HF : Hid (l.take k = l) := List.take_of_length_le (by rw [h.len]; omega)
      rw [HF.out] at B1
      obtain ⟨x0, x1, x2, x3, x4, x5, x6, x7, x8, x9, x10, x11, hps⟩ := len12 (pagesR_len l)
      have HPS := (show Hid _ from hps)
      have D1 : Blk wr (w.heap.size + 1) #[.int .i64 x0, .int .i64 x1, .int .i64 x2, .int .i64 x3, .int .i64 x4, .int .i64 x5, .int .i64 x6, .int .i64 x7, .int .i64 x8, .int .i64 x9, .int .i64 x10, .int .i64 x11] 30 := by rw [hps] at B1; exact B1
      have D0 : Blk wr w.heap.size #[.int .i64 0, .int .i64 0, .int .i64 0, .int .i64 0, .int .i64 0, .int .i64 0, .int .i64 0, .int .i64 0, .int .i64 0, .int .i64 0, .int .i64 0, .int .i64 0] 30 := B0
      clear hps B0 B1
      have c1 := D1.cell
      have c0 := D0.cell
      have f0 := D0.fr
      go_wp2_with fail
      refine bodyPost_ret (v := .agg #[.int .i64 x0, .int .i64 x1, .int .i64 x2, .int .i64 x3, .int .i64 x4, .int .i64 x5, .int .i64 x6, .int .i64 x7, .int .i64 x8, .int .i64 x9, .int .i64 x10, .int .i64 x11]) (by simp [results, Try.results48, go_sem, c0]) rfl ⟨by rw [HPS.out]; rfl, ?_⟩
      exact ((((((((((((hE.setCell (Nat.le_refl _) _).setCell (Nat.le_refl _) _).setCell (Nat.le_refl _) _).setCell (Nat.le_refl _) _).setCell (Nat.le_refl _) _).setCell (Nat.le_refl _) _).setCell (Nat.le_refl _) _).setCell (Nat.le_refl _) _).setCell (Nat.le_refl _) _).setCell (Nat.le_refl _) _).setCell (Nat.le_refl _) _).setCell (Nat.le_refl _) _)
end Go.Proofs.Ytgojonhjhdbpkaa.B
