/- The contracts of the reference's WinsOf and CellsOf. -/
import Derived.Test.YtgojonhjhdbpkaaMod2
namespace Go.Proofs.Ytgojonhjhdbpkaa.B
set_option maxRecDepth 100000
open Go.ChangeShapes Go.WideShapes Go.ChangeAt Go.RowKit

set_option maxHeartbeats 1000000 in
theorem winsOf_any (a : Option Addr) (len cap : Nat) (l : List Rc) (w : World) (h : Recs w a len l) (hcap : len ≤ cap) (hm : len ≤ maxLen) :
    Calls Try.prog 29 #[.slice a len cap] w fun e w' => (∃ a' cap', e = .returned (.tuple #[.slice a' (winsOr l).length cap', .int .i64 (logErr l)]) ∧ (winsOr l).length ≤ cap' ∧ Ints w.heap.size w' a' (winsOr l)) ∧ Ext w w' := by
  have H := logError_any a len cap l w h hcap hm
  have HL : Hid (logErr l = 0 → len ≤ 60) := fun hz => by have := (logErr_zero hz).1; have := h.len; omega
  have HW0 : Hid (logErr l = 0 → winsOr l = winsR l) := winsOr_ok
  have HW1 : Hid (logErr l ≠ 0 → winsOr l = []) := winsOr_no
  generalize logErr l = x at *
  generalize winsOr l = wo at *
  obtain ⟨i0, hi, hz0, hz1, hz2⟩ := info_parts infoInt
  have HI := (show Hid _ from hi)
  have Z0 := (show Hid _ from hz0)
  have Z1 := (show Hid _ from hz1)
  have Z2 := (show Hid _ from hz2)
  clear hi hz0 hz1 hz2
  go_enter Try.func29, Try.ntmps29
  go_wp2_with fail
  refine H.mono ?_
  rintro e w1 ⟨rfl, hE1⟩
  clear H
  by_cases h0 : x = 0
  · subst h0
    have hl := HL.out rfl
    have hwo := HW0.out rfl
    subst hwo
    clear HL HW0 HW1
    go_wp2_with fail
    go_loopw [5, 6] (fun o i wr => ∃ k : Nat, k ≤ len ∧ i = .int .i64 k ∧ Ext w wr ∧ wr.ownsRow w.heap.size 3 1 o (winsR (l.take k)).length (ivs (winsR (l.take k)))) (fun _ i _ => len - (intOf i).toNat)
    case atStart => exact ⟨0, Nat.zero_le _, rfl, hE1, rfl, Or.inl ⟨rfl, rfl⟩⟩
    case round =>
      obtain ⟨k, hk, rfl, hE, hown⟩ := hrel
      by_cases hlt : k < len
      · obtain ⟨b, off, rfl, hkl, h0, h1, h2, h3, h4, h5, h6, h7⟩ := (h.ext hE).at hlt
        have HS := (show Hid _ from winsR_take l k hkl)
        have hm : (winsR (l.take k)).length ≤ 1000 := Nat.le_trans (winsR_le (l.take k)) (by rw [List.length_take]; omega)
        generalize l[k] = r at *
        generalize winsR (l.take k) = ns at *
        cases hb : (r.kind == 2)
        · have HB := (show Hid _ from hb)
          go_wp2_with fail
          go_roundw
          case rel => exact ⟨k + 1, by omega, by go_num, hE, by rw [HS.out, HB.out]; exact hown⟩
          case measure => simp [intOf]; omega
        · have HB := (show Hid _ from hb)
          obtain ⟨sa, sm, sc, rfl⟩ := own_slice hown
          obtain rfl := own_len hown
          have HO := (show Hid (wr.ownsRow w.heap.size 3 1 (.slice sa ns.length sc) ns.length (ivs ns)) from hown)
          clear hown
          go_wp2_with (at_builtin; refine wpList_append_lies _ rfl _ _ 46 rfl w.heap.size 3 i0 (.int .i64 0) 1 8 Try.underlying46 HI.out Z0.out Z1.out Z2.out rfl (by decide) (.slice sa ns.length sc) ns.length (ivs ns) rfl (own_ext HO.out ((Ext.refl wr).alloc _)) ⟨wr.heap.size, 0, none⟩ 1 1 [.int .i64 r.txn] rfl rfl (cells_new _ [.int .i64 r.txn] _ _ rfl) (fun x hx => by simp at hx; subst hx; rfl) (by decide) (by unfold maxLen; omega) (by omega) (by have := hE.size; simp; omega) _ rfl ?_; intro g cap' w3 hown' hgrow hg hgl)
          have hE3 : Ext w w3 := (hE.alloc _).grown (own_ext HO.out ((Ext.refl wr).alloc _)) hgrow
          refine ⟨⟨k + 1, by omega, by go_num, hE3, ?_⟩, by simp [intOf]; omega⟩
          rw [HS.out, HB.out]
          simp only [if_true, List.length_append, List.length_singleton, ivs_snoc]
          exact hown'
      · have HF : Hid (l.take k = l) := List.take_of_length_le (by rw [h.len]; omega)
        rw [HF.out] at hown
        have hm : (winsR l).length ≤ 1000 := Nat.le_trans (winsR_le l) (by rw [h.len]; omega)
        obtain ⟨sa, sc, rfl, hc, hr⟩ := Ints.of_own hown
        go_wp2_with fail
        go_ret2
        exact ⟨⟨sa, sc, rfl, hc, hr⟩, hE⟩
  · have hb : (x != 0) = true := by simpa using h0
    have hwo := HW1.out h0
    subst hwo
    go_wp2_with fail
    go_ret2
    exact ⟨⟨none, 0, rfl, Nat.le_refl _, Or.inl rfl⟩, hE1⟩
set_option maxHeartbeats 2000000 in
theorem cellsOf_any (a : Option Addr) (len cap : Nat) (l : List Rc) (w : World) (h : Recs w a len l) (hcap : len ≤ cap) (hm : len ≤ maxLen) :
    Calls Try.prog 28 #[.slice a len cap] w fun e w' => e = .returned (.tuple #[.agg (ints (cellsOr l)), .int .i64 (logErr l)]) ∧ Ext w w' := by
  have hEa := ((Ext.refl w).alloc (.cells #[.int .i64 0, .int .i64 0, .int .i64 0, .int .i64 0, .int .i64 0, .int .i64 0, .int .i64 0, .int .i64 0, .int .i64 0] 43)).alloc (.cells #[.int .i64 0, .int .i64 0, .int .i64 0, .int .i64 0, .int .i64 0, .int .i64 0, .int .i64 0, .int .i64 0, .int .i64 0] 43)
  have H := logError_any a len cap l ((w.alloc (.cells #[.int .i64 0, .int .i64 0, .int .i64 0, .int .i64 0, .int .i64 0, .int .i64 0, .int .i64 0, .int .i64 0, .int .i64 0] 43)).alloc (.cells #[.int .i64 0, .int .i64 0, .int .i64 0, .int .i64 0, .int .i64 0, .int .i64 0, .int .i64 0, .int .i64 0, .int .i64 0] 43)) (h.ext hEa) hcap hm
  have HL : Hid (logErr l = 0 → len ≤ 60 ∧ Fits l) := fun hz => by have := (logErr_zero hz); have := h.len; exact ⟨by omega, right_fits l (logErr_zero hz).2⟩
  have HC0 : Hid (logErr l = 0 → cellsOr l = cellsR l) := cellsOr_ok
  have HC1 : Hid (logErr l ≠ 0 → cellsOr l = List.replicate 9 0) := cellsOr_no
  generalize logErr l = x at *
  generalize cellsOr l = co at *
  go_enter Try.func28, Try.ntmps28
  go_wp2_with fail
  refine H.mono ?_
  rintro e w1 ⟨rfl, hE1⟩
  clear H
  have B0 := ((Blk.new w w.heap.size #[.int .i64 0, .int .i64 0, .int .i64 0, .int .i64 0, .int .i64 0, .int .i64 0, .int .i64 0, .int .i64 0, .int .i64 0] 43 rfl).alloc (.cells #[.int .i64 0, .int .i64 0, .int .i64 0, .int .i64 0, .int .i64 0, .int .i64 0, .int .i64 0, .int .i64 0, .int .i64 0] 43)).ext hE1
  have B1 := (Blk.new (w.alloc (.cells #[.int .i64 0, .int .i64 0, .int .i64 0, .int .i64 0, .int .i64 0, .int .i64 0, .int .i64 0, .int .i64 0, .int .i64 0] 43)) (w.heap.size + 1) #[.int .i64 0, .int .i64 0, .int .i64 0, .int .i64 0, .int .i64 0, .int .i64 0, .int .i64 0, .int .i64 0, .int .i64 0] 43 (by simp)).ext hE1
  have hE2 := hEa.trans hE1
  clear hE1 hEa
  by_cases h0 : x = 0
  · subst h0
    obtain ⟨hl, hfits⟩ := HL.out rfl
    have hco := HC0.out rfl
    subst hco
    clear HL HC0 HC1
    have HM : Hid (∀ k (hk : k < l.length), cellsBy (wonB l) (l.take (k + 1)) = if l[k].kind == 1 && decide (0 < countR l l[k].txn 2) then (cellsBy (wonB l) (l.take k)).set (l[k].page.toNat * 3 + l[k].cell.toNat) l[k].new else cellsBy (wonB l) (l.take k)) := fun k hk => cellsBy_take _ l k hk
    have HQ : Hid (cellsR l = cellsBy (wonB l) l) := rfl
    generalize wonB l = won at *
    go_wp2_with fail
    go_loopw [6] (fun i wr => ∃ k : Nat, k ≤ len ∧ i = .int .i64 k ∧ Ext w wr ∧ Blk wr w.heap.size (ints (List.replicate 9 0)) 43 ∧ Blk wr (w.heap.size + 1) (ints (cellsBy won (l.take k))) 43) (fun i _ => len - (intOf i).toNat)
    case atStart => exact ⟨0, Nat.zero_le _, rfl, hE2, B0, B1⟩
    case round =>
      obtain ⟨k, hk, rfl, hE, D0, D1⟩ := hrel
      by_cases hlt : k < len
      · obtain ⟨b, off, rfl, hkl, h0, h1, h2, h3, h4, h5, h6, h7⟩ := (h.ext hE).at hlt
        have HS := (show Hid _ from HM.out k hkl)
        have hfit := hfits l[k] (List.getElem_mem hkl)
        have hplen := cellsBy_len won (l.take k)
        have HCt := fun t => count_any (some ⟨b, off, none⟩) len cap l t 2 wr (h.ext hE) (by omega)
        have hcl := fun t => countR_le t 2 l
        have hlen := h.len
        generalize l[k] = r at *
        generalize cellsBy won (l.take k) = ps at *
        cases hb : (r.kind == 1)
        · have HB := (show Hid _ from hb)
          go_wp2_with fail
          go_roundw
          case rel => exact ⟨k + 1, by omega, by go_num, hE, D0, by rw [HS.out, HB.out]; exact D1⟩
          case measure => simp [intOf]; omega
        · have HB := (show Hid _ from hb)
          have hk1 : r.kind = 1 := by simpa using hb
          obtain ⟨p0, p2, q0, q2⟩ := hfit (turns_of.2 (Or.inl hk1))
          clear hfit hk1
          have hcr := hcl r.txn
          have HCr := HCt r.txn
          clear hcl HCt
          generalize countR l r.txn 2 = c at *
          go_wp2_with fail
          refine HCr.mono ?_
          rintro e w2 ⟨rfl, rfl⟩
          by_cases hc : 0 < c
          · have HC : Hid (decide (0 < c) = true) := by unfold Hid; simpa using hc
            clear HCr
            have p3 : r.page < 3 := by omega
            have q3 : r.cell < 3 := by omega
            have f1 := D1.fr
            obtain ⟨y, hy⟩ : ∃ y, w2.cell? ⟨w.heap.size + 1, r.page.toNat * 3 + r.cell.toNat, none⟩ = some (.int .i64 y) := by
              have hlt : r.page.toNat * 3 + r.cell.toNat < ps.length := by omega
              exact ⟨ps[r.page.toNat * 3 + r.cell.toNat], by rw [D1.cell, ints_get, List.getElem?_eq_getElem hlt]; rfl⟩
            go_wp2_with fail
            go_region
            have G0 := (D0.other ⟨w.heap.size + 1, r.page.toNat * 3 + r.cell.toNat, none⟩ (.int .i64 r.new) (by simp)).drew
            have G1 := (D1.set (r.page.toNat * 3 + r.cell.toNat) (.int .i64 r.new)).drew
            rw [ints_set] at G1
            have hE4 := (hE.setCell (p := ⟨w.heap.size + 1, r.page.toNat * 3 + r.cell.toNat, none⟩) (by simp) (.int .i64 r.new)).drew
            go_wp2_with fail
            go_roundw
            case rel => exact ⟨k + 1, by omega, by go_num, hE4, G0, by rw [HS.out, HB.out, HC.out]; exact G1⟩
            case measure => simp [intOf]; omega
          · have HC : Hid (decide (0 < c) = false) := by unfold Hid; simpa using hc
            go_wp2_with fail
            go_roundw
            case rel => exact ⟨k + 1, by omega, by go_num, hE, D0, by rw [HS.out, HB.out, HC.out]; exact D1⟩
            case measure => simp [intOf]; omega
      · have HF : Hid (l.take k = l) := List.take_of_length_le (by rw [h.len]; omega)
        rw [HF.out] at D1
        have HL9 := cellsBy_len won l
        generalize cellsBy won l = ps at *
        obtain ⟨x0, x1, x2, x3, x4, x5, x6, x7, x8, hps⟩ := len9 HL9
        subst hps
        have G1 : Blk wr (w.heap.size + 1) #[.int .i64 x0, .int .i64 x1, .int .i64 x2, .int .i64 x3, .int .i64 x4, .int .i64 x5, .int .i64 x6, .int .i64 x7, .int .i64 x8] 43 := D1
        have G0 : Blk wr w.heap.size #[.int .i64 0, .int .i64 0, .int .i64 0, .int .i64 0, .int .i64 0, .int .i64 0, .int .i64 0, .int .i64 0, .int .i64 0] 43 := D0
        clear D0 D1
        have c1 := G1.cell
        have c0 := G0.cell
        have f0 := G0.fr
        go_wp2_with fail
        refine bodyPost_ret (v := .tuple #[.agg #[.int .i64 x0, .int .i64 x1, .int .i64 x2, .int .i64 x3, .int .i64 x4, .int .i64 x5, .int .i64 x6, .int .i64 x7, .int .i64 x8], .int .i64 0]) (by simp [results, Try.results28, go_sem, c0]) rfl ⟨by rw [HQ.out]; rfl, ?_⟩
        exact (((((((((hE.setCell (by simp) _).setCell (by simp) _).setCell (by simp) _).setCell (by simp) _).setCell (by simp) _).setCell (by simp) _).setCell (by simp) _).setCell (by simp) _).setCell (by simp) _)
  · have hb : (x != 0) = true := by simpa using h0
    have hco := HC1.out h0
    subst hco
    have c1 := B1.cell
    have c0 := B0.cell
    have f0 := B0.fr
    go_wp2_with fail
    refine bodyPost_ret (v := .tuple #[.agg #[.int .i64 0, .int .i64 0, .int .i64 0, .int .i64 0, .int .i64 0, .int .i64 0, .int .i64 0, .int .i64 0, .int .i64 0], .int .i64 x]) (by simp [results, Try.results28, go_sem, c0]) rfl ⟨rfl, ?_⟩
    exact (((((((((hE2.setCell (by simp) _).setCell (by simp) _).setCell (by simp) _).setCell (by simp) _).setCell (by simp) _).setCell (by simp) _).setCell (by simp) _).setCell (by simp) _).setCell (by simp) _)
end Go.Proofs.Ytgojonhjhdbpkaa.B
