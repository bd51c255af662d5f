/- Numbers in a slice; the contracts of slices.Index, slices.Contains, and of the reference's SameInts. The contracts of the model's Wins and Cells. The contracts of the reference's WinsOf and CellsOf. == of arrays of arrays of numbers; modelBegun answers true. -/
import Derived.Test.YtibfgbmhmdggmaaGreatDoorLogLA
namespace Go.Proofs.YtibfgbmhmdggmaaGreatDoor.B
set_option maxHeartbeats 32000000
set_option maxRecDepth 100000
open Go.ChangeShapes Go.WideShapes Go.ChangeAt Go.RowKit
def ivs (ns : List Int) : List Value := ns.map fun n => Value.int .i64 n
theorem ivs_snoc (ns : List Int) (k : Int) : ivs (ns ++ [k]) = ivs ns ++ [.int .i64 k] := by simp [ivs]
def Ints (base : Nat) (w : World) (a : Option Addr) (ns : List Int) : Prop :=
 ns = [] ∨ ∃ b, base ≤ b ∧ a = some ⟨b, 0, none⟩ ∧ ∀ i, (h : i < ns.length) → w.cell? ⟨b, i, none⟩ = some (.int .i64 ns[i])
theorem Ints.ext {base : Nat} {w w' : World} {a : Option Addr} {ns : List Int} (h : Ints base w a ns) (e : Ext w w') : Ints base w' a ns := by
 rcases h with h | ⟨b, hb, ha, hc⟩
 ·exact Or.inl h
 ·exact Or.inr ⟨b, hb, ha, fun i hi => e.cell (hc i hi)⟩
theorem Ints.set {base : Nat} {w : World} {a : Option Addr} {ns : List Int} (h : Ints base w a ns) {p : Addr} (hp : p.block < base) (v : Value) : Ints base (w.setCell p v) a ns := by
 rcases h with h | ⟨b, hb, ha, hc⟩
 ·exact Or.inl h
 ·refine Or.inr ⟨b, hb, ha, fun i hi => ?_⟩
  have : (w.setCell p v).heap[b]? = w.heap[b]? := Below.heap_setCell _ _ _ _ (by omega)
  have h2 := hc i hi
  simp only [World.cell?, this] at h2 ⊢
  exact h2
theorem Ints.drew {base : Nat} {w : World} {a : Option Addr} {ns : List Int} (h : Ints base w a ns) : Ints base w.drew a ns := h
theorem Ints.at {base : Nat} {w : World} {a : Option Addr} {ns : List Int} (h : Ints base w a ns) {k : Nat} (hk : k < ns.length) : ∃ b, a = some ⟨b, 0, none⟩ ∧ w.cell? ⟨b, k, none⟩ = some (.int .i64 ns[k]) := by
 rcases h with h | ⟨b, _, ha, hc⟩
 ·rw [h] at hk; exact absurd hk (Nat.not_lt_zero k)
 ·exact ⟨b, ha, hc k hk⟩
theorem Ints.pre {base : Nat} {w : World} {a : Option Addr} {ns ms : List Int} (h : Ints base w a (ns ++ ms)) : Ints base w a ns := by
 rcases h with h | ⟨b, hb, ha, hc⟩
 ·exact Or.inl (List.append_eq_nil_iff.1 h).1
 ·refine Or.inr ⟨b, hb, ha, fun i hi => ?_⟩
  rw [hc i (by simp; omega), List.getElem_append_left hi]
theorem Ints.low {base base' : Nat} {w : World} {a : Option Addr} {ns : List Int} (h : Ints base w a ns) (hb : base' ≤ base) : Ints base' w a ns := by
 rcases h with h | ⟨b, h1, ha, hc⟩
 ·exact Or.inl h
 ·exact Or.inr ⟨b, by omega, ha, hc⟩
theorem Ints.of_own {w : World} {base : Nat} {v : Value} {ns : List Int} (h : w.ownsRow base 3 1 v ns.length (ivs ns)) : ∃ a cap, v = .slice a ns.length cap ∧ ns.length ≤ cap ∧ Ints base w a ns := by
 rcases h.2 with ⟨rfl, h0⟩ | ⟨g, cap, cur, rfl, hg, hb, hc, hm, hs, ht⟩
 ·exact ⟨none, 0, by rw [h0], by omega, Or.inl (List.length_eq_zero_iff.1 h0)⟩
 ·refine ⟨_, _, rfl, by omega, Or.inr ⟨g, hg, rfl, fun i hi => ?_⟩⟩
  exact own_cell hb ht (by simp [ivs, hi])
theorem index_any (base : Nat) (a : Option Addr) (cap : Nat) (ns : List Int) (v : Int) (w : World) (h : Ints base w a ns) (hl : ns.length ≤ 1000) :
  Calls Tryz.prog 140 #[.slice a ns.length cap, .int .i64 v] w fun e w' => (∃ i : Int, e = .returned (.int .i64 i) ∧ (decide (0 ≤ i) = ns.contains v)) ∧ w' = w := by
 go_enter Tryz.func140, Tryz.ntmps140
 go_wp2_with fail
 go_loopw [8] (fun i wr => ∃ k : Nat, k ≤ ns.length ∧ i = .int .i64 k ∧ wr = w ∧ v ∉ ns.take k) (fun i _ => ns.length - (intOf i).toNat)
 case atStart => exact ⟨0, Nat.zero_le _, rfl, rfl, by simp⟩
 case round =>
  obtain ⟨k, hk, rfl, rfl, hn⟩ := hrel
  have HN := (show Hid (v ∉ ns.take k) from hn)
  clear hn
  by_cases hlt : k < ns.length
  ·obtain ⟨b, rfl, hc⟩ := h.at hlt
   have HT : Hid (ns.take (k + 1) = ns.take k ++ [ns[k]]) := List.take_succ_eq_append_getElem hlt
   have HM : Hid (ns[k] ∈ ns) := List.getElem_mem hlt
   generalize ns[k] = x at *
   by_cases hx : v = x
   ·subst hx
    go_wp2_with fail
    go_ret
    exact ⟨⟨k, rfl, by simp [HM.out]⟩, rfl⟩
   ·have hb : (v == x) = false := by simpa using hx
    have HX := (show Hid (v ≠ x) from hx)
    clear hx
    go_wp2_with fail
    go_roundw
    case rel => exact ⟨k + 1, by omega, by go_num, by trivial, by rw [HT.out]; simp [HN.out, HX.out]⟩
    case measure => simp [intOf]; omega
  ·have HF : Hid (v ∉ ns) := by have := HN.out; rw [List.take_of_length_le (by omega)] at this; exact this
   go_wp2_with fail
   go_ret
   exact ⟨⟨-1, rfl, by simp [HF.out]⟩, rfl⟩
theorem contains_any (base : Nat) (a : Option Addr) (cap : Nat) (ns : List Int) (v : Int) (w : World) (h : Ints base w a ns) (hl : ns.length ≤ 1000) :
  Calls Tryz.prog 116 #[.slice a ns.length cap, .int .i64 v] w fun e w' => e = .returned (.bool (ns.contains v)) ∧ w' = w := by
 go_enter Tryz.func116, Tryz.ntmps116
 go_wp2_with fail
 refine (index_any base a cap ns v w h hl).mono ?_
 rintro e w1 ⟨⟨i, rfl, hi⟩, rfl⟩
 have HI := (show Hid (decide (0 ≤ i) = ns.contains v) from hi)
 clear hi
 by_cases h0 : 0 ≤ i
 ·go_wp2_with fail
  go_ret
  exact ⟨by rw [← HI.out]; simp [h0], rfl⟩
 ·go_wp2_with fail
  go_ret
  exact ⟨by rw [← HI.out]; simp, rfl⟩
def winsOr (l : List Rc) : List Int := if logErr l = 0 then winsR l else []
def cellsOr (l : List Rc) : List Int := if logErr l = 0 then cellsR l else List.replicate 9 0
theorem winsOr_ok {l : List Rc} (h : logErr l = 0) : winsOr l = winsR l := by unfold winsOr; rw [if_pos h]
theorem winsOr_no {l : List Rc} (h : logErr l ≠ 0) : winsOr l = [] := by unfold winsOr; rw [if_neg h]
theorem cellsOr_ok {l : List Rc} (h : logErr l = 0) : cellsOr l = cellsR l := by unfold cellsOr; rw [if_pos h]
theorem cellsOr_no {l : List Rc} (h : logErr l ≠ 0) : cellsOr l = List.replicate 9 0 := by unfold cellsOr; rw [if_neg h]
theorem len9 {ps : List Int} (h : ps.length = 9) : ∃ x0 x1 x2 x3 x4 x5 x6 x7 x8, ps = [x0, x1, x2, x3, x4, x5, x6, x7, x8] := by
 match ps, h with
 | [x0, x1, x2, x3, x4, x5, x6, x7, x8], _ => exact ⟨x0, x1, x2, x3, x4, x5, x6, x7, x8, rfl⟩
theorem wins_any (a : Option Addr) (len cap : Nat) (l : List Rc) (w : World) (h : Recs w a len l) (hm : len ≤ maxLen) :
  Calls Tryz.prog 115 #[.slice a len cap] w fun e w' => (∃ a' cap', e = .returned (.tuple #[.slice a' (winsOr l).length cap', .int .i64 (logErr l)]) ∧ (winsOr l).length ≤ cap' ∧ Ints w.heap.size w' a' (winsOr l)) ∧ Ext w w' := by
 have H := logCheck_any a len cap l w h hm
 have HL : Hid (logErr l = 0 → len ≤ 60) := fun hz => by have := (logErr_zero hz).1; have := h.len; omega
 have HW0 : Hid (logErr l = 0 → winsOr l = winsR l) := winsOr_ok
 have HW1 : Hid (logErr l ≠ 0 → winsOr l = []) := winsOr_no
 generalize logErr l = x at *
 generalize winsOr l = wo at *
 obtain ⟨i0, hi, hz0, hz1, hz2⟩ := info_parts infoInt
 have HI := (show Hid _ from hi)
 have Z0 := (show Hid _ from hz0)
 have Z1 := (show Hid _ from hz1)
 have Z2 := (show Hid _ from hz2)
 clear hi hz0 hz1 hz2
 go_enter Tryz.func115, Tryz.ntmps115
 go_wp2_with fail
 refine H.mono ?_
 rintro e w1 ⟨rfl, hE1⟩
 clear H
 by_cases h0 : x = 0
 ·subst h0
  have hl := HL.out rfl
  have hwo := HW0.out rfl
  subst hwo
  clear HL HW0 HW1
  go_wp2_with fail
  go_loopw [5, 15] (fun o i wr => ∃ k : Nat, k ≤ len ∧ i = .int .i64 k ∧ Ext w wr ∧ wr.ownsRow w.heap.size 3 1 o (winsR (l.take k)).length (ivs (winsR (l.take k)))) (fun _ i _ => len - (intOf i).toNat)
  case atStart => exact ⟨0, Nat.zero_le _, rfl, hE1, rfl, Or.inl ⟨rfl, rfl⟩⟩
  case round =>
   obtain ⟨k, hk, rfl, hE, hown⟩ := hrel
   by_cases hlt : k < len
   ·obtain ⟨b, off, rfl, hkl, h0, h1, h2, h3, h4, h5, h6, h7⟩ := (h.ext hE).at hlt
    have HS := (show Hid _ from winsR_take l k hkl)
    have hm : (winsR (l.take k)).length ≤ 1000 := Nat.le_trans (winsR_le (l.take k)) (by rw [List.length_take]; omega)
    generalize l[k] = r at *
    generalize winsR (l.take k) = ns at *
    cases hb : (r.kind == 2)
    ·have HB := (show Hid _ from hb)
     go_wp2_with fail
     go_roundw
     case rel => exact ⟨k + 1, by omega, by go_num, hE.alloc _, by rw [HS.out, HB.out]; exact own_ext hown ((Ext.refl wr).alloc _)⟩
     case measure => simp [intOf]; omega
    ·have HB := (show Hid _ from hb)
     obtain ⟨sa, sm, sc, rfl⟩ := own_slice hown
     obtain rfl := own_len hown
     have HO := (show Hid (wr.ownsRow w.heap.size 3 1 (.slice sa ns.length sc) ns.length (ivs ns)) from hown)
     clear hown
     go_wp2_with (at_builtin; refine wpList_append_lies _ rfl _ _ 61 rfl w.heap.size 3 i0 (.int .i64 0) 1 8 Tryz.underlying61 HI.out Z0.out Z1.out Z2.out rfl (by decide) (.slice sa ns.length sc) ns.length (ivs ns) rfl (own_ext HO.out (((Ext.refl wr).alloc _).alloc _)) ⟨wr.heap.size + 1, 0, none⟩ 1 1 [.int .i64 r.txn] rfl rfl (cells_new _ [.int .i64 r.txn] _ _ (by simp)) (fun x hx => by simp at hx; subst hx; rfl) (by decide) (by unfold maxLen; omega) (by omega) (by have := hE.size; simp; omega) _ rfl ?_; intro g cap' w3 hown' hgrow hg hgl)
     have hE3 : Ext w w3 := ((hE.alloc _).alloc _).grown (own_ext HO.out (((Ext.refl wr).alloc _).alloc _)) hgrow
     refine ⟨⟨k + 1, by omega, by go_num, hE3, ?_⟩, by simp [intOf]; omega⟩
     rw [HS.out, HB.out]
     simp only [if_true, List.length_append, List.length_singleton, ivs_snoc]
     exact hown'
   ·have HF : Hid (l.take k = l) := List.take_of_length_le (by rw [h.len]; omega)
    rw [HF.out] at hown
    have hm : (winsR l).length ≤ 1000 := Nat.le_trans (winsR_le l) (by rw [h.len]; omega)
    obtain ⟨sa, sc, rfl, hc, hr⟩ := Ints.of_own hown
    go_wp2_with fail
    go_ret2
    exact ⟨⟨sa, sc, rfl, hc, hr⟩, hE⟩
 ·have hb : (x != 0) = true := by simpa using h0
  have hwo := HW1.out h0
  subst hwo
  go_wp2_with fail
  go_ret2
  exact ⟨⟨none, 0, rfl, Nat.le_refl _, Or.inl rfl⟩, hE1⟩
theorem wins_won {l : List Rc} (t : Int) : (winsR l).contains t = wonB l t := wins_count t l
theorem cells_any (a : Option Addr) (len cap : Nat) (l : List Rc) (w : World) (h : Recs w a len l) (hm : len ≤ maxLen) :
  Calls Tryz.prog 79 #[.slice a len cap] w fun e w' => e = .returned (.tuple #[.agg (ints (cellsOr l)), .int .i64 (logErr l)]) ∧ Ext w w' := by
 have hEa := ((Ext.refl w).alloc (.cells #[.int .i64 0, .int .i64 0, .int .i64 0, .int .i64 0, .int .i64 0, .int .i64 0, .int .i64 0, .int .i64 0, .int .i64 0] 55)).alloc (.cells #[.int .i64 0, .int .i64 0, .int .i64 0, .int .i64 0, .int .i64 0, .int .i64 0, .int .i64 0, .int .i64 0, .int .i64 0] 55)
 have H := wins_any a len cap l ((w.alloc (.cells #[.int .i64 0, .int .i64 0, .int .i64 0, .int .i64 0, .int .i64 0, .int .i64 0, .int .i64 0, .int .i64 0, .int .i64 0] 55)).alloc (.cells #[.int .i64 0, .int .i64 0, .int .i64 0, .int .i64 0, .int .i64 0, .int .i64 0, .int .i64 0, .int .i64 0, .int .i64 0] 55)) (h.ext hEa) hm
 have HL : Hid (logErr l = 0 → len ≤ 60 ∧ Fits l) := fun hz => by have := (logErr_zero hz); have := h.len; exact ⟨by omega, right_fits l (logErr_zero hz).2⟩
 have HW0 : Hid (logErr l = 0 → winsOr l = winsR l) := winsOr_ok
 have HC0 : Hid (logErr l = 0 → cellsOr l = cellsR l) := cellsOr_ok
 have HC1 : Hid (logErr l ≠ 0 → cellsOr l = List.replicate 9 0) := cellsOr_no
 generalize logErr l = x at *
 generalize cellsOr l = co at *
 go_enter Tryz.func79, Tryz.ntmps79
 go_wp2_with fail
 refine H.mono ?_
 rintro e w1 ⟨⟨aw, cw, rfl, hcw, hI⟩, hE1⟩
 clear H
 have B0 := ((Blk.new w w.heap.size #[.int .i64 0, .int .i64 0, .int .i64 0, .int .i64 0, .int .i64 0, .int .i64 0, .int .i64 0, .int .i64 0, .int .i64 0] 55 rfl).alloc (.cells #[.int .i64 0, .int .i64 0, .int .i64 0, .int .i64 0, .int .i64 0, .int .i64 0, .int .i64 0, .int .i64 0, .int .i64 0] 55)).ext hE1
 have B1 := (Blk.new (w.alloc (.cells #[.int .i64 0, .int .i64 0, .int .i64 0, .int .i64 0, .int .i64 0, .int .i64 0, .int .i64 0, .int .i64 0, .int .i64 0] 55)) (w.heap.size + 1) #[.int .i64 0, .int .i64 0, .int .i64 0, .int .i64 0, .int .i64 0, .int .i64 0, .int .i64 0, .int .i64 0, .int .i64 0] 55 (by simp)).ext hE1
 have hI2 : Ints (w.heap.size + 2) w1 aw (winsOr l) := hI.low (by simp)
 have hE2 := hEa.trans hE1
 clear hI hE1 hEa
 by_cases h0 : x = 0
 ·subst h0
  obtain ⟨hl, hfits⟩ := HL.out rfl
  have hco := HC0.out rfl
  subst hco
  rw [HW0.out rfl] at hI2 hcw ⊢
  clear HL HW0 HC0 HC1
  have HM : Hid (∀ k (hk : k < l.length), cellsBy (wonB l) (l.take (k + 1)) = if l[k].kind == 1 && (winsR l).contains l[k].txn then (cellsBy (wonB l) (l.take k)).set (l[k].page.toNat * 3 + l[k].cell.toNat) l[k].new else cellsBy (wonB l) (l.take k)) := fun k hk => by rw [cellsBy_take _ l k hk, wins_won]
  have hm9 : (winsR l).length ≤ 1000 := Nat.le_trans (winsR_le l) (by rw [h.len]; omega)
  have HQ : Hid (cellsR l = cellsBy (wonB l) l) := rfl
  generalize winsR l = ws at *
  generalize wonB l = won at *
  go_wp2_with fail
  go_loopw [20] (fun i wr => ∃ k : Nat, k ≤ len ∧ i = .int .i64 k ∧ Ext w wr ∧ Blk wr w.heap.size (ints (List.replicate 9 0)) 55 ∧ Blk wr (w.heap.size + 1) (ints (cellsBy won (l.take k))) 55 ∧ Ints (w.heap.size + 2) wr aw ws) (fun i _ => len - (intOf i).toNat)
  case atStart => exact ⟨0, Nat.zero_le _, rfl, hE2, B0, B1, hI2⟩
  case round =>
   obtain ⟨k, hk, rfl, hE, C0, C1, hI⟩ := hrel
   by_cases hlt : k < len
   ·obtain ⟨b, off, rfl, hkl, h0, h1, h2, h3, h4, h5, h6, h7⟩ := (h.ext hE).at hlt
    have HS := (show Hid _ from HM.out k hkl)
    have hfit := hfits l[k] (List.getElem_mem hkl)
    have hplen := cellsBy_len won (l.take k)
    generalize l[k] = r at *
    generalize cellsBy won (l.take k) = ps at *
    have R := Blk.new wr wr.heap.size r.cs 81 rfl
    have hE3 := hE.alloc (.cells r.cs 81)
    have D0 := C0.alloc (.cells r.cs 81)
    have D1 := C1.alloc (.cells r.cs 81)
    have hI3 := hI.ext ((Ext.refl wr).alloc (.cells r.cs 81))
    cases hb : (r.kind == 1)
    ·have HB := (show Hid _ from hb)
     go_wp2_with fail
     go_roundw
     case rel => exact ⟨k + 1, by omega, by go_num, hE3, D0, by rw [HS.out, HB.out]; exact D1, hI3⟩
     case measure => simp [intOf]; omega
    ·have HB := (show Hid _ from hb)
     have hk1 : r.kind = 1 := by simpa using hb
     obtain ⟨p0, p2, q0, q2⟩ := hfit (turns_of.2 (Or.inl hk1))
     clear hfit hk1
     go_wp2_with fail
     refine (contains_any _ aw cw ws r.txn _ hI3 hm9).mono ?_
     rintro e w2 ⟨rfl, rfl⟩
     cases hc : ws.contains r.txn
     ·have HC := (show Hid (ws.contains r.txn = false) from hc)
      go_wp2_with fail
      go_roundw
      case rel => exact ⟨k + 1, by omega, by go_num, hE3, D0, by rw [HS.out, HB.out, HC.out]; exact D1, hI3⟩
      case measure => simp [intOf]; omega
     ·have HC := (show Hid (ws.contains r.txn = true) from hc)
      clear hc hb h0 h1 h2 h3 h4 h5 h6 h7 C0 C1 hI hE
      generalize wr.alloc (.cells r.cs 81) = W at *
      have c2 := R.cell
      have p3 : r.page < 3 := by omega
      have q3 : r.cell < 3 := by omega
      have f1 := D1.fr
      obtain ⟨y, hy⟩ : ∃ y, W.cell? ⟨w.heap.size + 1, r.page.toNat * 3 + r.cell.toNat, none⟩ = some (.int .i64 y) := by
       have hlt : r.page.toNat * 3 + r.cell.toNat < ps.length := by omega
       exact ⟨ps[r.page.toNat * 3 + r.cell.toNat], by rw [D1.cell, ints_get, List.getElem?_eq_getElem hlt]; rfl⟩
      go_wp2_with fail
      go_region
      have G0 := (D0.other ⟨w.heap.size + 1, r.page.toNat * 3 + r.cell.toNat, none⟩ (.int .i64 r.new) (by simp)).drew
      have G1 := (D1.set (r.page.toNat * 3 + r.cell.toNat) (.int .i64 r.new)).drew
      rw [ints_set] at G1
      have hE4 := (hE3.setCell (p := ⟨w.heap.size + 1, r.page.toNat * 3 + r.cell.toNat, none⟩) (by simp) (.int .i64 r.new)).drew
      have hI4 := (hI3.set (p := ⟨w.heap.size + 1, r.page.toNat * 3 + r.cell.toNat, none⟩) (by simp) (.int .i64 r.new)).drew
      go_wp2_with fail
      go_roundw
      case rel => exact ⟨k + 1, by omega, by go_num, hE4, G0, by rw [HS.out, HB.out, HC.out]; exact G1, hI4⟩
      case measure => simp [intOf]; omega
   ·have HF : Hid (l.take k = l) := List.take_of_length_le (by rw [h.len]; omega)
    rw [HF.out] at C1
    have HL9 := cellsBy_len won l
    generalize cellsBy won l = ps at *
    obtain ⟨x0, x1, x2, x3, x4, x5, x6, x7, x8, hps⟩ := len9 HL9
    subst hps
    have D1 : Blk wr (w.heap.size + 1) #[.int .i64 x0, .int .i64 x1, .int .i64 x2, .int .i64 x3, .int .i64 x4, .int .i64 x5, .int .i64 x6, .int .i64 x7, .int .i64 x8] 55 := C1
    have D0 : Blk wr w.heap.size #[.int .i64 0, .int .i64 0, .int .i64 0, .int .i64 0, .int .i64 0, .int .i64 0, .int .i64 0, .int .i64 0, .int .i64 0] 55 := C0
    clear C0 C1
    have c1 := D1.cell
    have c0 := D0.cell
    have f0 := D0.fr
    go_wp2_with fail
    refine bodyPost_ret (v := .tuple #[.agg #[.int .i64 x0, .int .i64 x1, .int .i64 x2, .int .i64 x3, .int .i64 x4, .int .i64 x5, .int .i64 x6, .int .i64 x7, .int .i64 x8], .int .i64 0]) (by simp [results, Tryz.results79, go_sem, c0]) rfl ⟨by rw [HQ.out]; rfl, ?_⟩
    exact (((((((((hE.setCell (by simp) _).setCell (by simp) _).setCell (by simp) _).setCell (by simp) _).setCell (by simp) _).setCell (by simp) _).setCell (by simp) _).setCell (by simp) _).setCell (by simp) _)
 ·have hb : (x != 0) = true := by simpa using h0
  have hco := HC1.out h0
  subst hco
  have c1 := B1.cell
  have c0 := B0.cell
  have f0 := B0.fr
  go_wp2_with fail
  refine bodyPost_ret (v := .tuple #[.agg #[.int .i64 0, .int .i64 0, .int .i64 0, .int .i64 0, .int .i64 0, .int .i64 0, .int .i64 0, .int .i64 0, .int .i64 0], .int .i64 x]) (by simp [results, Tryz.results79, go_sem, c0]) rfl ⟨rfl, ?_⟩
  exact (((((((((hE2.setCell (by simp) _).setCell (by simp) _).setCell (by simp) _).setCell (by simp) _).setCell (by simp) _).setCell (by simp) _).setCell (by simp) _).setCell (by simp) _).setCell (by simp) _)
theorem cellsOf_any (a : Option Addr) (len cap : Nat) (l : List Rc) (w : World) (h : Recs w a len l) (hcap : len ≤ cap) (hm : len ≤ maxLen) :
  Calls Tryz.prog 26 #[.slice a len cap] w fun e w' => e = .returned (.tuple #[.agg (ints (cellsOr l)), .int .i64 (logErr l)]) ∧ Ext w w' := by
 have hEa := ((Ext.refl w).alloc (.cells #[.int .i64 0, .int .i64 0, .int .i64 0, .int .i64 0, .int .i64 0, .int .i64 0, .int .i64 0, .int .i64 0, .int .i64 0] 55)).alloc (.cells #[.int .i64 0, .int .i64 0, .int .i64 0, .int .i64 0, .int .i64 0, .int .i64 0, .int .i64 0, .int .i64 0, .int .i64 0] 55)
 have H := logError_any a len cap l ((w.alloc (.cells #[.int .i64 0, .int .i64 0, .int .i64 0, .int .i64 0, .int .i64 0, .int .i64 0, .int .i64 0, .int .i64 0, .int .i64 0] 55)).alloc (.cells #[.int .i64 0, .int .i64 0, .int .i64 0, .int .i64 0, .int .i64 0, .int .i64 0, .int .i64 0, .int .i64 0, .int .i64 0] 55)) (h.ext hEa) hcap hm
 have HL : Hid (logErr l = 0 → len ≤ 60 ∧ Fits l) := fun hz => by have := (logErr_zero hz); have := h.len; exact ⟨by omega, right_fits l (logErr_zero hz).2⟩
 have HC0 : Hid (logErr l = 0 → cellsOr l = cellsR l) := cellsOr_ok
 have HC1 : Hid (logErr l ≠ 0 → cellsOr l = List.replicate 9 0) := cellsOr_no
 generalize logErr l = x at *
 generalize cellsOr l = co at *
 go_enter Tryz.func26, Tryz.ntmps26
 go_wp2_with fail
 refine H.mono ?_
 rintro e w1 ⟨rfl, hE1⟩
 clear H
 have B0 := ((Blk.new w w.heap.size #[.int .i64 0, .int .i64 0, .int .i64 0, .int .i64 0, .int .i64 0, .int .i64 0, .int .i64 0, .int .i64 0, .int .i64 0] 55 rfl).alloc (.cells #[.int .i64 0, .int .i64 0, .int .i64 0, .int .i64 0, .int .i64 0, .int .i64 0, .int .i64 0, .int .i64 0, .int .i64 0] 55)).ext hE1
 have B1 := (Blk.new (w.alloc (.cells #[.int .i64 0, .int .i64 0, .int .i64 0, .int .i64 0, .int .i64 0, .int .i64 0, .int .i64 0, .int .i64 0, .int .i64 0] 55)) (w.heap.size + 1) #[.int .i64 0, .int .i64 0, .int .i64 0, .int .i64 0, .int .i64 0, .int .i64 0, .int .i64 0, .int .i64 0, .int .i64 0] 55 (by simp)).ext hE1
 have hE2 := hEa.trans hE1
 clear hE1 hEa
 by_cases h0 : x = 0
 ·subst h0
  obtain ⟨hl, hfits⟩ := HL.out rfl
  have hco := HC0.out rfl
  subst hco
  clear HL HC0 HC1
  have HM : Hid (∀ k (hk : k < l.length), cellsBy (wonB l) (l.take (k + 1)) = if l[k].kind == 1 && decide (0 < countR l l[k].txn 2) then (cellsBy (wonB l) (l.take k)).set (l[k].page.toNat * 3 + l[k].cell.toNat) l[k].new else cellsBy (wonB l) (l.take k)) := fun k hk => cellsBy_take _ l k hk
  have HQ : Hid (cellsR l = cellsBy (wonB l) l) := rfl
  generalize wonB l = won at *
  go_wp2_with fail
  go_loopw [6] (fun i wr => ∃ k : Nat, k ≤ len ∧ i = .int .i64 k ∧ Ext w wr ∧ Blk wr w.heap.size (ints (List.replicate 9 0)) 55 ∧ Blk wr (w.heap.size + 1) (ints (cellsBy won (l.take k))) 55) (fun i _ => len - (intOf i).toNat)
  case atStart => exact ⟨0, Nat.zero_le _, rfl, hE2, B0, B1⟩
  case round =>
   obtain ⟨k, hk, rfl, hE, D0, D1⟩ := hrel
   by_cases hlt : k < len
   ·obtain ⟨b, off, rfl, hkl, h0, h1, h2, h3, h4, h5, h6, h7⟩ := (h.ext hE).at hlt
    have HS := (show Hid _ from HM.out k hkl)
    have hfit := hfits l[k] (List.getElem_mem hkl)
    have hplen := cellsBy_len won (l.take k)
    have HCt := fun t => count_any (some ⟨b, off, none⟩) len cap l t 2 wr (h.ext hE) (by omega)
    have hcl := fun t => countR_le t 2 l
    have hlen := h.len
    generalize l[k] = r at *
    generalize cellsBy won (l.take k) = ps at *
    cases hb : (r.kind == 1)
    ·have HB := (show Hid _ from hb)
     go_wp2_with fail
     go_roundw
     case rel => exact ⟨k + 1, by omega, by go_num, hE, D0, by rw [HS.out, HB.out]; exact D1⟩
     case measure => simp [intOf]; omega
    ·have HB := (show Hid _ from hb)
     have hk1 : r.kind = 1 := by simpa using hb
     obtain ⟨p0, p2, q0, q2⟩ := hfit (turns_of.2 (Or.inl hk1))
     clear hfit hk1
     have hcr := hcl r.txn
     have HCr := HCt r.txn
     clear hcl HCt
     generalize countR l r.txn 2 = c at *
     go_wp2_with fail
     refine HCr.mono ?_
     rintro e w2 ⟨rfl, rfl⟩
     by_cases hc : 0 < c
     ·have HC : Hid (decide (0 < c) = true) := by unfold Hid; simpa using hc
      clear HCr
      have p3 : r.page < 3 := by omega
      have q3 : r.cell < 3 := by omega
      have f1 := D1.fr
      obtain ⟨y, hy⟩ : ∃ y, w2.cell? ⟨w.heap.size + 1, r.page.toNat * 3 + r.cell.toNat, none⟩ = some (.int .i64 y) := by
       have hlt : r.page.toNat * 3 + r.cell.toNat < ps.length := by omega
       exact ⟨ps[r.page.toNat * 3 + r.cell.toNat], by rw [D1.cell, ints_get, List.getElem?_eq_getElem hlt]; rfl⟩
      go_wp2_with fail
      go_region
      have G0 := (D0.other ⟨w.heap.size + 1, r.page.toNat * 3 + r.cell.toNat, none⟩ (.int .i64 r.new) (by simp)).drew
      have G1 := (D1.set (r.page.toNat * 3 + r.cell.toNat) (.int .i64 r.new)).drew
      rw [ints_set] at G1
      have hE4 := (hE.setCell (p := ⟨w.heap.size + 1, r.page.toNat * 3 + r.cell.toNat, none⟩) (by simp) (.int .i64 r.new)).drew
      go_wp2_with fail
      go_roundw
      case rel => exact ⟨k + 1, by omega, by go_num, hE4, G0, by rw [HS.out, HB.out, HC.out]; exact G1⟩
      case measure => simp [intOf]; omega
     ·have HC : Hid (decide (0 < c) = false) := by unfold Hid; simpa using hc
      go_wp2_with fail
      go_roundw
      case rel => exact ⟨k + 1, by omega, by go_num, hE, D0, by rw [HS.out, HB.out, HC.out]; exact D1⟩
      case measure => simp [intOf]; omega
   ·have HF : Hid (l.take k = l) := List.take_of_length_le (by rw [h.len]; omega)
    rw [HF.out] at D1
    have HL9 := cellsBy_len won l
    generalize cellsBy won l = ps at *
    obtain ⟨x0, x1, x2, x3, x4, x5, x6, x7, x8, hps⟩ := len9 HL9
    subst hps
    have G1 : Blk wr (w.heap.size + 1) #[.int .i64 x0, .int .i64 x1, .int .i64 x2, .int .i64 x3, .int .i64 x4, .int .i64 x5, .int .i64 x6, .int .i64 x7, .int .i64 x8] 55 := D1
    have G0 : Blk wr w.heap.size #[.int .i64 0, .int .i64 0, .int .i64 0, .int .i64 0, .int .i64 0, .int .i64 0, .int .i64 0, .int .i64 0, .int .i64 0] 55 := D0
    clear D0 D1
    have c1 := G1.cell
    have c0 := G0.cell
    have f0 := G0.fr
    go_wp2_with fail
    refine bodyPost_ret (v := .tuple #[.agg #[.int .i64 x0, .int .i64 x1, .int .i64 x2, .int .i64 x3, .int .i64 x4, .int .i64 x5, .int .i64 x6, .int .i64 x7, .int .i64 x8], .int .i64 0]) (by simp [results, Tryz.results26, go_sem, c0]) rfl ⟨by rw [HQ.out]; rfl, ?_⟩
    exact (((((((((hE.setCell (by simp) _).setCell (by simp) _).setCell (by simp) _).setCell (by simp) _).setCell (by simp) _).setCell (by simp) _).setCell (by simp) _).setCell (by simp) _).setCell (by simp) _)
 ·have hb : (x != 0) = true := by simpa using h0
  have hco := HC1.out h0
  subst hco
  have c1 := B1.cell
  have c0 := B0.cell
  have f0 := B0.fr
  go_wp2_with fail
  refine bodyPost_ret (v := .tuple #[.agg #[.int .i64 0, .int .i64 0, .int .i64 0, .int .i64 0, .int .i64 0, .int .i64 0, .int .i64 0, .int .i64 0, .int .i64 0], .int .i64 x]) (by simp [results, Tryz.results26, go_sem, c0]) rfl ⟨rfl, ?_⟩
  exact (((((((((hE2.setCell (by simp) _).setCell (by simp) _).setCell (by simp) _).setCell (by simp) _).setCell (by simp) _).setCell (by simp) _).setCell (by simp) _).setCell (by simp) _).setCell (by simp) _)
theorem ints_one {W : World} {b : Nat} {v : Int} {t : TypeId} (J : Blk W b #[.int .i64 v] t) : Ints 0 W (some ⟨b, 0, none⟩) [v] := by
 refine Or.inr ⟨_, Nat.zero_le _, rfl, fun i hi => ?_⟩
 have : i = 0 := by simp at hi; omega
 subst this
 rw [J.cell]; rfl
end Go.Proofs.YtibfgbmhmdggmaaGreatDoor.B
