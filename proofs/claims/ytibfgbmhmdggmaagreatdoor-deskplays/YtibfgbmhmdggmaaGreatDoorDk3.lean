/- The desk's row, cellsOf and tell. · The desk's tell. -/
import Derived.Test.YtibfgbmhmdggmaaGreatDoorRefD2
import Derived.Test.YtibfgbmhmdggmaaGreatDoorModA
namespace Go.Proofs.YtibfgbmhmdggmaaGreatDoor.B
set_option maxHeartbeats 32000000
set_option maxRecDepth 100000
open Go.ChangeShapes Go.WideShapes Go.ChangeAt Go.RowKit
def digT (ns : List Int) : List (List UInt8) := ns.map fun n => digitsR n.toNat
theorem digT_take (ns : List Int) (k : Nat) (h : k < ns.length) : digT (ns.take (k + 1)) = digT (ns.take k) ++ [digitsR ns[k].toNat] := by
 unfold digT
 rw [List.take_succ_eq_append_getElem h, List.map_append]
 rfl
theorem listed_len (ns : List Int) : (listedR ns).length ≤ 21 * ns.length := by
 cases ns with
 | nil => exact Nat.le_refl _
 | cons n ns =>
  have h1 := listed_pre (n :: ns) (by simp)
  have h2 := pre_len (n :: ns)
  rw [h1, List.length_cons] at h2
  omega
theorem row_any (base : Nat) (a : Option Addr) (cap : Nat) (ns : List Int) (w : World) (h : Ints base w a ns) (hl : ns.length ≤ 1000) (hne : ns ≠ []) (hb : ∀ n ∈ ns, 0 ≤ n ∧ n < 100) :
  Calls Tryz.prog 37 #[.slice a ns.length cap] w fun e w' => e = .returned (tx (listedR ns)) ∧ Ext w w' := by
 obtain ⟨i0, hi, hz0, hz1, hz2⟩ := info_parts infoStr
 have HI := (show Hid _ from hi)
 have Z0 := (show Hid _ from hz0)
 have Z1 := (show Hid _ from hz1)
 have Z2 := (show Hid _ from hz2)
 clear hi hz0 hz1 hz2
 have HB : Hid (∀ (k : Nat) (h : k < ns.length), 0 ≤ ns[k] ∧ ns[k] < 100) := fun k h => hb _ (List.getElem_mem h)
 have HJ := (show Hid (listedR ns = Go.Lib.join (digT ns) [32]) from listed_join ns)
 have HLL := (show Hid ((listedR ns).length ≤ 21 * ns.length) from listed_len ns)
 have HNE : Hid (0 < ns.length) := List.length_pos_iff.2 hne
 clear hb hne
 go_enter Tryz.func37, Tryz.ntmps37
 go_wp2_with fail
 go_loopw [3, 5, 8] (fun v _ i wr => ∃ k : Nat, k ≤ ns.length ∧ i = .int .i64 k ∧ Ext w wr ∧ wr.ownsRow w.heap.size 9 1 v k (tvs (digT (ns.take k)))) (fun _ _ i _ => ns.length - (intOf i).toNat)
 case atStart => exact ⟨0, Nat.zero_le _, rfl, Ext.refl w, World.ownsRow_nil _ _ _ _⟩
 case round =>
  obtain ⟨k, hk, rfl, hE, hown⟩ := hrel
  obtain ⟨sa, sm, sc, rfl⟩ := own_slice hown
  obtain rfl := own_len hown
  by_cases hlt : sm < ns.length
  ·obtain ⟨b, rfl, hc⟩ := (h.ext hE).at hlt
   obtain ⟨hn0, hn1⟩ := HB.out sm hlt
   have HT := (show Hid (digT (ns.take (sm + 1)) = digT (ns.take sm) ++ [digitsR ns[sm].toNat]) from digT_take ns sm hlt)
   generalize ns[sm] = n at *
   obtain ⟨m, rfl⟩ : ∃ m : Nat, n = (m : Int) := ⟨n.toNat, by omega⟩
   rw [Int.toNat_natCast] at HT
   have hit := Tryz.strconv_Itoa_small m (by omega) wr
   rw [dec_digits m (by omega)] at hit
   have HO := (show Hid (wr.ownsRow w.heap.size 9 1 (.slice sa sm sc) sm (tvs (digT (ns.take sm)))) from hown)
   clear hown
   have hlti : (sm : Int) < (ns.length : Int) := by omega
   have HIt := fun (_ : True) => hit
   clear hn0 hit h
   go_wp2_with fail
   refine (HIt trivial).mono ?_
   rintro e w1 ⟨rfl, rfl⟩
   go_wp2_with (at_builtin; refine wpList_append_lies _ rfl _ _ 29 rfl w.heap.size 9 i0 (.string ⟨#[]⟩) 1 16 Tryz.underlying29 HI.out Z0.out Z1.out Z2.out rfl (by decide) (.slice sa sm sc) sm (tvs (digT (ns.take sm))) rfl (own_ext HO.out ((Ext.refl w1).alloc _)) ⟨w1.heap.size, 0, none⟩ 1 1 [tx (digitsR m)] rfl rfl (cells_new _ [tx (digitsR m)] _ _ rfl) (fun x hx => by simp at hx; subst hx; rfl) (by decide) (by unfold maxLen; omega) (by omega) (by have := hE.size; simp; omega) _ rfl ?_; intro g cap' w3 hown' hgrow hg hgl)
   have hE3 : Ext w w3 := (hE.alloc _).grown (own_ext HO.out ((Ext.refl w1).alloc _)) hgrow
   refine ⟨⟨sm + 1, by omega, by go_num, hE3, ?_⟩, by simp [intOf]; omega⟩
   rw [HT.out, tvs_snoc]
   exact hown'
  ·obtain rfl : sm = ns.length := by omega
   rw [List.take_length] at hown
   have hnl := HNE.out
   rcases hown.2 with ⟨_, h0⟩ | ⟨g, cap', cur, hsl, hg, hgb, hcap, hcm, hcs, hct⟩
   ·omega
   ·injection hsl with e1 _ e3
    subst e1 e3
    have hglt : g < wr.heap.size := by
     by_cases hx : g < wr.heap.size
     ·exact hx
     ·have : wr.heap[g]? = none := by simp; omega
      rw [this] at hgb; cases hgb
    have hdl : (digT ns).length = ns.length := by simp [digT]
    have hcells : ∀ (j : Nat) x, ((digT ns).map fun s => (⟨s.toArray⟩ : ByteArray))[j]? = some x → wr.cell? ⟨g, 0 + j, none⟩ = some (.string x) := fun j x hj => by
     rw [Nat.zero_add]
     rw [List.getElem?_map, Option.map_eq_some_iff] at hj
     obtain ⟨s, hs, rfl⟩ := hj
     have hjl := (List.getElem?_eq_some_iff.1 hs).1
     refine own_cell hgb hct ?_
     unfold tvs
     rw [List.getElem?_map, hs]
     rfl
    have hdata : ((digT ns).map fun s => (⟨s.toArray⟩ : ByteArray)).map (·.data.toList) = digT ns := by rw [List.map_map]; exact List.map_id' _
    have hjoin := Tryz.strings_Join g 0 sc ((digT ns).map fun s => (⟨s.toArray⟩ : ByteArray)) ⟨#[32]⟩ wr hcells hglt (by rw [List.length_map, hdl]; omega) (by rw [List.length_map, hdl]; omega) (by
     rw [hdata]
     have := HLL.out
     rw [HJ.out] at this
     exact Nat.le_trans this (by omega))
    rw [hdata, List.length_map, hdl] at hjoin
    have HX : Hid (Go.Lib.join (digT ns) ([32].toArray : Array UInt8).toList = listedR ns) := HJ.out.symm
    clear hown hct hcells hgb
    have HJn := fun (_ : True) => hjoin
    clear hjoin
    go_wp2_with fail
    refine (HJn trivial).mono ?_
    rintro e w2 ⟨rfl, hw⟩
    go_wp2_with fail
    go_ret
    exact ⟨congrArg (fun z : List UInt8 => Ending.returned (tx z)) HX.out, hE.trans (Below.mono hw (Nat.le_refl _))⟩
theorem cellsOf_pgs (x0 x1 x2 x3 x4 x5 x6 x7 x8 x9 x10 x11 : Int) (w : World) :
  Calls Tryz.prog 38 #[.agg #[.int .i64 x0, .int .i64 x1, .int .i64 x2, .int .i64 x3, .int .i64 x4, .int .i64 x5, .int .i64 x6, .int .i64 x7, .int .i64 x8, .int .i64 x9, .int .i64 x10, .int .i64 x11]] w fun e w' => e = .returned (.agg #[.int .i64 x0, .int .i64 x1, .int .i64 x2, .int .i64 x4, .int .i64 x5, .int .i64 x6, .int .i64 x8, .int .i64 x9, .int .i64 x10]) ∧ Ext w w' := by
 have E0 := (((Ext.refl w).alloc (.cells #[.int .i64 x0, .int .i64 x1, .int .i64 x2, .int .i64 x3, .int .i64 x4, .int .i64 x5, .int .i64 x6, .int .i64 x7, .int .i64 x8, .int .i64 x9, .int .i64 x10, .int .i64 x11] 35)).alloc (.cells #[.int .i64 0, .int .i64 0, .int .i64 0, .int .i64 0, .int .i64 0, .int .i64 0, .int .i64 0, .int .i64 0, .int .i64 0] 55)).alloc (.cells #[.int .i64 0, .int .i64 0, .int .i64 0, .int .i64 0, .int .i64 0, .int .i64 0, .int .i64 0, .int .i64 0, .int .i64 0] 55)
 have A0 := ((Blk.new w w.heap.size #[.int .i64 x0, .int .i64 x1, .int .i64 x2, .int .i64 x3, .int .i64 x4, .int .i64 x5, .int .i64 x6, .int .i64 x7, .int .i64 x8, .int .i64 x9, .int .i64 x10, .int .i64 x11] 35 rfl).alloc (.cells #[.int .i64 0, .int .i64 0, .int .i64 0, .int .i64 0, .int .i64 0, .int .i64 0, .int .i64 0, .int .i64 0, .int .i64 0] 55)).alloc (.cells #[.int .i64 0, .int .i64 0, .int .i64 0, .int .i64 0, .int .i64 0, .int .i64 0, .int .i64 0, .int .i64 0, .int .i64 0] 55)
 have R0 := (Blk.new (w.alloc (.cells #[.int .i64 x0, .int .i64 x1, .int .i64 x2, .int .i64 x3, .int .i64 x4, .int .i64 x5, .int .i64 x6, .int .i64 x7, .int .i64 x8, .int .i64 x9, .int .i64 x10, .int .i64 x11] 35)) (w.heap.size + 1) #[.int .i64 0, .int .i64 0, .int .i64 0, .int .i64 0, .int .i64 0, .int .i64 0, .int .i64 0, .int .i64 0, .int .i64 0] 55 (by simp)).alloc (.cells #[.int .i64 0, .int .i64 0, .int .i64 0, .int .i64 0, .int .i64 0, .int .i64 0, .int .i64 0, .int .i64 0, .int .i64 0] 55)
 have O0 := Blk.new ((w.alloc (.cells #[.int .i64 x0, .int .i64 x1, .int .i64 x2, .int .i64 x3, .int .i64 x4, .int .i64 x5, .int .i64 x6, .int .i64 x7, .int .i64 x8, .int .i64 x9, .int .i64 x10, .int .i64 x11] 35)).alloc (.cells #[.int .i64 0, .int .i64 0, .int .i64 0, .int .i64 0, .int .i64 0, .int .i64 0, .int .i64 0, .int .i64 0, .int .i64 0] 55)) (w.heap.size + 1 + 1) #[.int .i64 0, .int .i64 0, .int .i64 0, .int .i64 0, .int .i64 0, .int .i64 0, .int .i64 0, .int .i64 0, .int .i64 0] 55 (by simp)
 have a0 := A0.cell
 go_enter Tryz.func38, Tryz.ntmps38
 go_wp2_with fail
 go_loopw [4, 5, 7] (fun _ _ i wr => ∃ k : Nat, k ≤ 3 ∧ i = .int .i64 k ∧ Ext w wr ∧ Blk wr (w.heap.size + 1) #[.int .i64 0, .int .i64 0, .int .i64 0, .int .i64 0, .int .i64 0, .int .i64 0, .int .i64 0, .int .i64 0, .int .i64 0] 55 ∧ Blk wr (w.heap.size + 1 + 1) (pgTo x0 x1 x2 x3 x4 x5 x6 x7 x8 x9 x10 x11 k) 55) (fun _ _ i _ => 3 - (intOf i).toNat)
 case atStart => exact ⟨0, by omega, rfl, E0, R0, O0⟩
 case round =>
  obtain ⟨k, hk, rfl, hE, R, O⟩ := hrel
  clear E0 A0 R0 O0 a0
  obtain rfl | rfl | rfl | rfl : k = 0 ∨ k = 1 ∨ k = 2 ∨ k = 3 := by omega
  ·replace O : Blk wr (w.heap.size + 1 + 1) #[.int .i64 0, .int .i64 0, .int .i64 0, .int .i64 0, .int .i64 0, .int .i64 0, .int .i64 0, .int .i64 0, .int .i64 0] 55 := O
   have P1 := Blk.new wr wr.heap.size #[.int .i64 x0, .int .i64 x1, .int .i64 x2, .int .i64 x3] 34 rfl
   have hlo := O.lt
   have O1 := O.alloc (.cells #[.int .i64 x0, .int .i64 x1, .int .i64 x2, .int .i64 x3] 34)
   have R1 := R.alloc (.cells #[.int .i64 x0, .int .i64 x1, .int .i64 x2, .int .i64 x3] 34)
   have E1 := hE.alloc (.cells #[.int .i64 x0, .int .i64 x1, .int .i64 x2, .int .i64 x3] 34)
   have o_ := O.cell
   have f_ := O.fr
   have O2 : Blk ((((wr.setCell ⟨w.heap.size + 1 + 1, 0, none⟩ (.int .i64 x0)).setCell ⟨w.heap.size + 1 + 1, 1, none⟩ (.int .i64 x1)).setCell ⟨w.heap.size + 1 + 1, 2, none⟩ (.int .i64 x2)).alloc (.cells #[.int .i64 x0, .int .i64 x1, .int .i64 x2, .int .i64 x3] 34)) (w.heap.size + 1 + 1) #[.int .i64 x0, .int .i64 x1, .int .i64 x2, .int .i64 0, .int .i64 0, .int .i64 0, .int .i64 0, .int .i64 0, .int .i64 0] 55 := by have := (((O.set 0 (.int .i64 x0)).set 1 (.int .i64 x1)).set 2 (.int .i64 x2)).alloc (.cells #[.int .i64 x0, .int .i64 x1, .int .i64 x2, .int .i64 x3] 34); simpa using this
   have R2 := (((R.other ⟨w.heap.size + 1 + 1, 0, none⟩ (.int .i64 x0) (by simp)).other ⟨w.heap.size + 1 + 1, 1, none⟩ (.int .i64 x1) (by simp)).other ⟨w.heap.size + 1 + 1, 2, none⟩ (.int .i64 x2) (by simp)).alloc (.cells #[.int .i64 x0, .int .i64 x1, .int .i64 x2, .int .i64 x3] 34)
   have E2 := (((hE.setCell (p := ⟨w.heap.size + 1 + 1, 0, none⟩) (by show w.heap.size ≤ _; simp; omega) (.int .i64 x0)).setCell (p := ⟨w.heap.size + 1 + 1, 1, none⟩) (by show w.heap.size ≤ _; simp; omega) (.int .i64 x1)).setCell (p := ⟨w.heap.size + 1 + 1, 2, none⟩) (by show w.heap.size ≤ _; simp; omega) (.int .i64 x2)).alloc (.cells #[.int .i64 x0, .int .i64 x1, .int .i64 x2, .int .i64 x3] 34)
   have hix : ∀ w, (Instr.index 35 (.agg #[.int .i64 x0, .int .i64 x1, .int .i64 x2, .int .i64 x3, .int .i64 x4, .int .i64 x5, .int .i64 x6, .int .i64 x7, .int .i64 x8, .int .i64 x9, .int .i64 x10, .int .i64 x11]) (.int .i64 0)).run Tryz.prog w = .ok (.agg #[.int .i64 x0, .int .i64 x1, .int .i64 x2, .int .i64 x3]) w := fun w => (index_pages #[.int .i64 x0, .int .i64 x1, .int .i64 x2, .int .i64 x3, .int .i64 x4, .int .i64 x5, .int .i64 x6, .int .i64 x7, .int .i64 x8, .int .i64 x9, .int .i64 x10, .int .i64 x11] 0 (by decide) (by decide) w).trans rfl
   clear R O hE P1 O1 R1 E1
   rw [show ((0 : Nat) : Int) = 0 from rfl]
   go_wp2_with fail
   go_roundw
   case rel => exact ⟨1, by omega, by first | rfl | go_num, E2, R2, O2⟩
   case measure => simp [intOf]
  ·replace O : Blk wr (w.heap.size + 1 + 1) #[.int .i64 x0, .int .i64 x1, .int .i64 x2, .int .i64 0, .int .i64 0, .int .i64 0, .int .i64 0, .int .i64 0, .int .i64 0] 55 := O
   have P1 := Blk.new wr wr.heap.size #[.int .i64 x4, .int .i64 x5, .int .i64 x6, .int .i64 x7] 34 rfl
   have hlo := O.lt
   have O1 := O.alloc (.cells #[.int .i64 x4, .int .i64 x5, .int .i64 x6, .int .i64 x7] 34)
   have R1 := R.alloc (.cells #[.int .i64 x4, .int .i64 x5, .int .i64 x6, .int .i64 x7] 34)
   have E1 := hE.alloc (.cells #[.int .i64 x4, .int .i64 x5, .int .i64 x6, .int .i64 x7] 34)
   have o_ := O.cell
   have f_ := O.fr
   have O2 : Blk ((((wr.setCell ⟨w.heap.size + 1 + 1, 3, none⟩ (.int .i64 x4)).setCell ⟨w.heap.size + 1 + 1, 4, none⟩ (.int .i64 x5)).setCell ⟨w.heap.size + 1 + 1, 5, none⟩ (.int .i64 x6)).alloc (.cells #[.int .i64 x4, .int .i64 x5, .int .i64 x6, .int .i64 x7] 34)) (w.heap.size + 1 + 1) #[.int .i64 x0, .int .i64 x1, .int .i64 x2, .int .i64 x4, .int .i64 x5, .int .i64 x6, .int .i64 0, .int .i64 0, .int .i64 0] 55 := by have := (((O.set 3 (.int .i64 x4)).set 4 (.int .i64 x5)).set 5 (.int .i64 x6)).alloc (.cells #[.int .i64 x4, .int .i64 x5, .int .i64 x6, .int .i64 x7] 34); simpa using this
   have R2 := (((R.other ⟨w.heap.size + 1 + 1, 3, none⟩ (.int .i64 x4) (by simp)).other ⟨w.heap.size + 1 + 1, 4, none⟩ (.int .i64 x5) (by simp)).other ⟨w.heap.size + 1 + 1, 5, none⟩ (.int .i64 x6) (by simp)).alloc (.cells #[.int .i64 x4, .int .i64 x5, .int .i64 x6, .int .i64 x7] 34)
   have E2 := (((hE.setCell (p := ⟨w.heap.size + 1 + 1, 3, none⟩) (by show w.heap.size ≤ _; simp; omega) (.int .i64 x4)).setCell (p := ⟨w.heap.size + 1 + 1, 4, none⟩) (by show w.heap.size ≤ _; simp; omega) (.int .i64 x5)).setCell (p := ⟨w.heap.size + 1 + 1, 5, none⟩) (by show w.heap.size ≤ _; simp; omega) (.int .i64 x6)).alloc (.cells #[.int .i64 x4, .int .i64 x5, .int .i64 x6, .int .i64 x7] 34)
   have hix : ∀ w, (Instr.index 35 (.agg #[.int .i64 x0, .int .i64 x1, .int .i64 x2, .int .i64 x3, .int .i64 x4, .int .i64 x5, .int .i64 x6, .int .i64 x7, .int .i64 x8, .int .i64 x9, .int .i64 x10, .int .i64 x11]) (.int .i64 1)).run Tryz.prog w = .ok (.agg #[.int .i64 x4, .int .i64 x5, .int .i64 x6, .int .i64 x7]) w := fun w => (index_pages #[.int .i64 x0, .int .i64 x1, .int .i64 x2, .int .i64 x3, .int .i64 x4, .int .i64 x5, .int .i64 x6, .int .i64 x7, .int .i64 x8, .int .i64 x9, .int .i64 x10, .int .i64 x11] 1 (by decide) (by decide) w).trans rfl
   clear R O hE P1 O1 R1 E1
   rw [show ((1 : Nat) : Int) = 1 from rfl]
   go_wp2_with fail
   go_roundw
   case rel => exact ⟨2, by omega, by first | rfl | go_num, E2, R2, O2⟩
   case measure => simp [intOf]
  ·replace O : Blk wr (w.heap.size + 1 + 1) #[.int .i64 x0, .int .i64 x1, .int .i64 x2, .int .i64 x4, .int .i64 x5, .int .i64 x6, .int .i64 0, .int .i64 0, .int .i64 0] 55 := O
   have P1 := Blk.new wr wr.heap.size #[.int .i64 x8, .int .i64 x9, .int .i64 x10, .int .i64 x11] 34 rfl
   have hlo := O.lt
   have O1 := O.alloc (.cells #[.int .i64 x8, .int .i64 x9, .int .i64 x10, .int .i64 x11] 34)
   have R1 := R.alloc (.cells #[.int .i64 x8, .int .i64 x9, .int .i64 x10, .int .i64 x11] 34)
   have E1 := hE.alloc (.cells #[.int .i64 x8, .int .i64 x9, .int .i64 x10, .int .i64 x11] 34)
   have o_ := O.cell
   have f_ := O.fr
   have O2 : Blk ((((wr.setCell ⟨w.heap.size + 1 + 1, 6, none⟩ (.int .i64 x8)).setCell ⟨w.heap.size + 1 + 1, 7, none⟩ (.int .i64 x9)).setCell ⟨w.heap.size + 1 + 1, 8, none⟩ (.int .i64 x10)).alloc (.cells #[.int .i64 x8, .int .i64 x9, .int .i64 x10, .int .i64 x11] 34)) (w.heap.size + 1 + 1) #[.int .i64 x0, .int .i64 x1, .int .i64 x2, .int .i64 x4, .int .i64 x5, .int .i64 x6, .int .i64 x8, .int .i64 x9, .int .i64 x10] 55 := by have := (((O.set 6 (.int .i64 x8)).set 7 (.int .i64 x9)).set 8 (.int .i64 x10)).alloc (.cells #[.int .i64 x8, .int .i64 x9, .int .i64 x10, .int .i64 x11] 34); simpa using this
   have R2 := (((R.other ⟨w.heap.size + 1 + 1, 6, none⟩ (.int .i64 x8) (by simp)).other ⟨w.heap.size + 1 + 1, 7, none⟩ (.int .i64 x9) (by simp)).other ⟨w.heap.size + 1 + 1, 8, none⟩ (.int .i64 x10) (by simp)).alloc (.cells #[.int .i64 x8, .int .i64 x9, .int .i64 x10, .int .i64 x11] 34)
   have E2 := (((hE.setCell (p := ⟨w.heap.size + 1 + 1, 6, none⟩) (by show w.heap.size ≤ _; simp; omega) (.int .i64 x8)).setCell (p := ⟨w.heap.size + 1 + 1, 7, none⟩) (by show w.heap.size ≤ _; simp; omega) (.int .i64 x9)).setCell (p := ⟨w.heap.size + 1 + 1, 8, none⟩) (by show w.heap.size ≤ _; simp; omega) (.int .i64 x10)).alloc (.cells #[.int .i64 x8, .int .i64 x9, .int .i64 x10, .int .i64 x11] 34)
   have hix : ∀ w, (Instr.index 35 (.agg #[.int .i64 x0, .int .i64 x1, .int .i64 x2, .int .i64 x3, .int .i64 x4, .int .i64 x5, .int .i64 x6, .int .i64 x7, .int .i64 x8, .int .i64 x9, .int .i64 x10, .int .i64 x11]) (.int .i64 2)).run Tryz.prog w = .ok (.agg #[.int .i64 x8, .int .i64 x9, .int .i64 x10, .int .i64 x11]) w := fun w => (index_pages #[.int .i64 x0, .int .i64 x1, .int .i64 x2, .int .i64 x3, .int .i64 x4, .int .i64 x5, .int .i64 x6, .int .i64 x7, .int .i64 x8, .int .i64 x9, .int .i64 x10, .int .i64 x11] 2 (by decide) (by decide) w).trans rfl
   clear R O hE P1 O1 R1 E1
   rw [show ((2 : Nat) : Int) = 2 from rfl]
   go_wp2_with fail
   go_roundw
   case rel => exact ⟨3, by omega, by first | rfl | go_num, E2, R2, O2⟩
   case measure => simp [intOf]
  ·replace O : Blk wr (w.heap.size + 1 + 1) #[.int .i64 x0, .int .i64 x1, .int .i64 x2, .int .i64 x4, .int .i64 x5, .int .i64 x6, .int .i64 x8, .int .i64 x9, .int .i64 x10] 55 := O
   have o_ := O.cell
   have r_ := R.cell
   have f_ := R.fr
   have R2 : Blk (((((((((wr.setCell ⟨w.heap.size + 1, 0, none⟩ (.int .i64 x0)).setCell ⟨w.heap.size + 1, 1, none⟩ (.int .i64 x1)).setCell ⟨w.heap.size + 1, 2, none⟩ (.int .i64 x2)).setCell ⟨w.heap.size + 1, 3, none⟩ (.int .i64 x4)).setCell ⟨w.heap.size + 1, 4, none⟩ (.int .i64 x5)).setCell ⟨w.heap.size + 1, 5, none⟩ (.int .i64 x6)).setCell ⟨w.heap.size + 1, 6, none⟩ (.int .i64 x8)).setCell ⟨w.heap.size + 1, 7, none⟩ (.int .i64 x9)).setCell ⟨w.heap.size + 1, 8, none⟩ (.int .i64 x10)) (w.heap.size + 1) #[.int .i64 x0, .int .i64 x1, .int .i64 x2, .int .i64 x4, .int .i64 x5, .int .i64 x6, .int .i64 x8, .int .i64 x9, .int .i64 x10] 55 := by have := (((((((((R.set 0 (.int .i64 x0)).set 1 (.int .i64 x1)).set 2 (.int .i64 x2)).set 3 (.int .i64 x4)).set 4 (.int .i64 x5)).set 5 (.int .i64 x6)).set 6 (.int .i64 x8)).set 7 (.int .i64 x9)).set 8 (.int .i64 x10)); simpa using this
   have r2 := R2.cell
   have E2 := (((((((((hE.setCell (p := ⟨w.heap.size + 1, 0, none⟩) (by show w.heap.size ≤ _; simp) (.int .i64 x0)).setCell (p := ⟨w.heap.size + 1, 1, none⟩) (by show w.heap.size ≤ _; simp) (.int .i64 x1)).setCell (p := ⟨w.heap.size + 1, 2, none⟩) (by show w.heap.size ≤ _; simp) (.int .i64 x2)).setCell (p := ⟨w.heap.size + 1, 3, none⟩) (by show w.heap.size ≤ _; simp) (.int .i64 x4)).setCell (p := ⟨w.heap.size + 1, 4, none⟩) (by show w.heap.size ≤ _; simp) (.int .i64 x5)).setCell (p := ⟨w.heap.size + 1, 5, none⟩) (by show w.heap.size ≤ _; simp) (.int .i64 x6)).setCell (p := ⟨w.heap.size + 1, 6, none⟩) (by show w.heap.size ≤ _; simp) (.int .i64 x8)).setCell (p := ⟨w.heap.size + 1, 7, none⟩) (by show w.heap.size ≤ _; simp) (.int .i64 x9)).setCell (p := ⟨w.heap.size + 1, 8, none⟩) (by show w.heap.size ≤ _; simp) (.int .i64 x10))
   clear R O hE
   go_wp2_with fail
   refine bodyPost_ret (v := .agg #[.int .i64 x0, .int .i64 x1, .int .i64 x2, .int .i64 x4, .int .i64 x5, .int .i64 x6, .int .i64 x8, .int .i64 x9, .int .i64 x10]) (by simp [results, Tryz.results38, go_sem, r2]) rfl ⟨rfl, E2⟩
theorem as_errno (t : TypeId) (v : Value) (h : (t == 22) = false) : ∀ (xT : TypeId) w, (Instr.typeAssert (.iface t v) xT 22 true).run Tryz.prog w = .ok (.tuple #[.int .i64 0, .bool false]) w := by
 intro xT w
 have h' : ¬ t = 22 := by simpa using h
 simp [Instr.typeAssert, go_sem, h']
theorem is_errno (v : Value) : ∀ (xT : TypeId) w, (Instr.typeAssert (.iface 22 v) xT 22 true).run Tryz.prog w = .ok (.tuple #[v, .bool true]) w := by
 intro xT w
 simp [Instr.typeAssert, go_sem]
theorem as_string (t : TypeId) (v : Value) (h : (t == 9) = false) : ∀ (xT : TypeId) w, (Instr.typeAssert (.iface t v) xT 9 true).run Tryz.prog w = .ok (.tuple #[.string ⟨#[]⟩, .bool false]) w := by
 intro xT w
 have h' : ¬ t = 9 := by simpa using h
 simp [Instr.typeAssert, go_sem, h']
theorem is_string (v : Value) : ∀ (xT : TypeId) w, (Instr.typeAssert (.iface 9 v) xT 9 true).run Tryz.prog w = .ok (.tuple #[v, .bool true]) w := by
 intro xT w
 simp [Instr.typeAssert, go_sem]
theorem as_int (t : TypeId) (v : Value) (h : (t == 3) = false) : ∀ (xT : TypeId) w, (Instr.typeAssert (.iface t v) xT 3 true).run Tryz.prog w = .ok (.tuple #[.int .i64 0, .bool false]) w := by
 intro xT w
 have h' : ¬ t = 3 := by simpa using h
 simp [Instr.typeAssert, go_sem, h']
theorem is_int (v : Value) : ∀ (xT : TypeId) w, (Instr.typeAssert (.iface 3 v) xT 3 true).run Tryz.prog w = .ok (.tuple #[v, .bool true]) w := by
 intro xT w
 simp [Instr.typeAssert, go_sem]
theorem as_ints (t : TypeId) (v : Value) (h : (t == 61) = false) : ∀ (xT : TypeId) w, (Instr.typeAssert (.iface t v) xT 61 true).run Tryz.prog w = .ok (.tuple #[.slice none 0 0, .bool false]) w := by
 intro xT w
 have h' : ¬ t = 61 := by simpa using h
 simp [Instr.typeAssert, go_sem, h']
theorem is_ints (v : Value) : ∀ (xT : TypeId) w, (Instr.typeAssert (.iface 61 v) xT 61 true).run Tryz.prog w = .ok (.tuple #[v, .bool true]) w := by
 intro xT w
 simp [Instr.typeAssert, go_sem]
theorem as_cells (t : TypeId) (v : Value) (h : (t == 55) = false) : ∀ (xT : TypeId) w, (Instr.typeAssert (.iface t v) xT 55 true).run Tryz.prog w = .ok (.tuple #[.agg #[.int .i64 0, .int .i64 0, .int .i64 0, .int .i64 0, .int .i64 0, .int .i64 0, .int .i64 0, .int .i64 0, .int .i64 0], .bool false]) w := by
 intro xT w
 have h' : ¬ t = 55 := by simpa using h
 simp [Instr.typeAssert, go_sem, h']
theorem is_cells (v : Value) : ∀ (xT : TypeId) w, (Instr.typeAssert (.iface 55 v) xT 55 true).run Tryz.prog w = .ok (.tuple #[v, .bool true]) w := by
 intro xT w
 simp [Instr.typeAssert, go_sem]
theorem is_pages (v : Value) : ∀ (xT : TypeId) w, (Instr.typeAssert (.iface 35 v) xT 35 true).run Tryz.prog w = .ok (.tuple #[v, .bool true]) w := by
 intro xT w
 simp [Instr.typeAssert, go_sem]
theorem index_rows (cs : Array Value) (p : Int) (h0 : 0 ≤ p) (h3 : p < 3) : ∀ w, (Instr.index 55 (.agg cs) (.int .i64 p)).run Tryz.prog w = .ok (.agg (cs.extract (p.toNat * 3) (p.toNat * 3 + 3))) w := by
 intro w
 simp [Instr.index, go_sem, part, h0, h3]
theorem listed_one (n : Int) : listedR [n] = digitsR n.toNat := rfl
theorem tell_err (x : Int) (h0 : 0 ≤ x) (h1 : x < 100) (w : World) :
  Calls Tryz.prog 20 #[.iface 22 (.int .i64 x)] w fun e w' => e = .returned (tx (sError ++ digitsR x.toNat)) ∧ Ext w w' := by
 have q0 := is_errno (.int .i64 x)
 have J := Blk.new w w.heap.size #[.int .i64 x] 3 rfl
 have HJ := ints_one J
 have E0 := (Ext.refl w).alloc (.cells #[.int .i64 x] 3)
 have hl := digits_len x.toNat
 have HA := (show Hid ((⟨sError.toArray⟩ : ByteArray) ++ ⟨(digitsR x.toNat).toArray⟩ = ⟨(sError ++ digitsR x.toNat).toArray⟩) from str_add _ _)
 go_enter Tryz.func20, Tryz.ntmps20
 go_wp2_with fail
 refine (row_any 0 (some ⟨w.heap.size, 0, none⟩) 1 [x] _ HJ (by simp) (by simp) (fun n hn => by simp at hn; subst hn; exact ⟨h0, h1⟩)).mono ?_
 rw [listed_one]
 rintro e w1 ⟨rfl, hw⟩
 go_wp2_with fail
 go_ret
 exact ⟨congrArg (fun z => Ending.returned (Value.string z)) HA.out, E0.trans hw⟩
theorem tell_str (s : List UInt8) (w : World) :
  Calls Tryz.prog 20 #[.iface 9 (tx s)] w fun e w' => e = .returned (tx s) ∧ w' = w := by
 have q1 := as_errno 9 (tx s) rfl
 have q0 := is_string (tx s)
 go_enter Tryz.func20, Tryz.ntmps20
 go_wp2_with fail
 go_ret
 exact ⟨rfl, rfl⟩
theorem tell_int (x : Int) (h0 : 0 ≤ x) (h1 : x < 100) (w : World) :
  Calls Tryz.prog 20 #[.iface 3 (.int .i64 x)] w fun e w' => e = .returned (tx (digitsR x.toNat)) ∧ Ext w w' := by
 have q1 := as_errno 3 (.int .i64 x) rfl
 have q2 := as_string 3 (.int .i64 x) rfl
 have q0 := is_int (.int .i64 x)
 have J := Blk.new w w.heap.size #[.int .i64 x] 3 rfl
 have HJ := ints_one J
 have E0 := (Ext.refl w).alloc (.cells #[.int .i64 x] 3)
 go_enter Tryz.func20, Tryz.ntmps20
 go_wp2_with fail
 refine (row_any 0 (some ⟨w.heap.size, 0, none⟩) 1 [x] _ HJ (by simp) (by simp) (fun n hn => by simp at hn; subst hn; exact ⟨h0, h1⟩)).mono ?_
 rw [listed_one]
 rintro e w1 ⟨rfl, hw⟩
 go_wp2_with fail
 go_ret
 exact ⟨rfl, E0.trans hw⟩
theorem tell_ints (base : Nat) (a : Option Addr) (cap : Nat) (ns : List Int) (w : World) (h : Ints base w a ns) (hl : ns.length ≤ 1000) (hne : ns ≠ []) (hb : ∀ n ∈ ns, 0 ≤ n ∧ n < 100) :
  Calls Tryz.prog 20 #[.iface 61 (.slice a ns.length cap)] w fun e w' => e = .returned (tx (listedR ns)) ∧ Ext w w' := by
 have q1 := as_errno 61 (.slice a ns.length cap) rfl
 have q2 := as_string 61 (.slice a ns.length cap) rfl
 have q3 := as_int 61 (.slice a ns.length cap) rfl
 have q0 := is_ints (.slice a ns.length cap)
 go_enter Tryz.func20, Tryz.ntmps20
 go_wp2_with fail
 refine (row_any base a cap ns _ h hl hne hb).mono ?_
 rintro e w1 ⟨rfl, hw⟩
 go_wp2_with fail
 go_ret
 exact ⟨rfl, hw⟩
theorem tell_cells (x0 x1 x2 x3 x4 x5 x6 x7 x8 : Int) (hb : ∀ n ∈ [x0, x1, x2, x3, x4, x5, x6, x7, x8], 0 ≤ n ∧ n < 100) (w : World) :
  Calls Tryz.prog 20 #[.iface 55 (.agg #[.int .i64 x0, .int .i64 x1, .int .i64 x2, .int .i64 x3, .int .i64 x4, .int .i64 x5, .int .i64 x6, .int .i64 x7, .int .i64 x8])] w fun e w' => e = .returned (tx (listedR [x0, x1, x2, x3, x4, x5, x6, x7, x8])) ∧ Ext w w' := by
 have q1 := as_errno 55 (.agg #[.int .i64 x0, .int .i64 x1, .int .i64 x2, .int .i64 x3, .int .i64 x4, .int .i64 x5, .int .i64 x6, .int .i64 x7, .int .i64 x8]) rfl
 have q2 := as_string 55 (.agg #[.int .i64 x0, .int .i64 x1, .int .i64 x2, .int .i64 x3, .int .i64 x4, .int .i64 x5, .int .i64 x6, .int .i64 x7, .int .i64 x8]) rfl
 have q3 := as_int 55 (.agg #[.int .i64 x0, .int .i64 x1, .int .i64 x2, .int .i64 x3, .int .i64 x4, .int .i64 x5, .int .i64 x6, .int .i64 x7, .int .i64 x8]) rfl
 have q4 := as_ints 55 (.agg #[.int .i64 x0, .int .i64 x1, .int .i64 x2, .int .i64 x3, .int .i64 x4, .int .i64 x5, .int .i64 x6, .int .i64 x7, .int .i64 x8]) rfl
 have q0 := is_cells (.agg #[.int .i64 x0, .int .i64 x1, .int .i64 x2, .int .i64 x3, .int .i64 x4, .int .i64 x5, .int .i64 x6, .int .i64 x7, .int .i64 x8])
 obtain ⟨i0, hi, hz0, hz1, hz2⟩ := info_parts infoInt
 have HI := (show Hid _ from hi)
 have Z0 := (show Hid _ from hz0)
 have Z1 := (show Hid _ from hz1)
 have Z2 := (show Hid _ from hz2)
 clear hi hz0 hz1 hz2
 have E0 := (Ext.refl w).alloc (.cells #[.int .i64 x0, .int .i64 x1, .int .i64 x2, .int .i64 x3, .int .i64 x4, .int .i64 x5, .int .i64 x6, .int .i64 x7, .int .i64 x8] 55)
 have A0 := Blk.new w w.heap.size #[.int .i64 x0, .int .i64 x1, .int .i64 x2, .int .i64 x3, .int .i64 x4, .int .i64 x5, .int .i64 x6, .int .i64 x7, .int .i64 x8] 55 rfl
 have a0 := A0.cell
 go_enter Tryz.func20, Tryz.ntmps20
 go_wp2_with fail
 go_loopw [8, 10, 39] (fun v _ i wr => ∃ k : Nat, k ≤ 3 ∧ i = .int .i64 k ∧ Ext w wr ∧ wr.ownsRow w.heap.size 3 1 v (k * 3) (ivs ([x0, x1, x2, x3, x4, x5, x6, x7, x8].take (k * 3)))) (fun _ _ i _ => 3 - (intOf i).toNat)
 case atStart => exact ⟨0, by omega, rfl, E0, World.ownsRow_nil _ _ _ _⟩
 case round =>
  obtain ⟨k, hk, rfl, hE, hown⟩ := hrel
  clear E0 A0 a0 q1 q2 q3 q4 q0
  obtain ⟨sa, sm, sc, rfl⟩ := own_slice hown
  obtain rfl := own_len hown
  obtain rfl | rfl | rfl | rfl : k = 0 ∨ k = 1 ∨ k = 2 ∨ k = 3 := by omega
  ·replace hown : wr.ownsRow w.heap.size 3 1 (.slice sa 0 sc) 0 (ivs []) := hown
   have HO := (show Hid (wr.ownsRow w.heap.size 3 1 (.slice sa 0 sc) 0 (ivs [])) from hown)
   clear hown
   have hix : ∀ w, (Instr.index 55 (.agg #[.int .i64 x0, .int .i64 x1, .int .i64 x2, .int .i64 x3, .int .i64 x4, .int .i64 x5, .int .i64 x6, .int .i64 x7, .int .i64 x8]) (.int .i64 0)).run Tryz.prog w = .ok (.agg #[.int .i64 x0, .int .i64 x1, .int .i64 x2]) w := fun w => (index_rows #[.int .i64 x0, .int .i64 x1, .int .i64 x2, .int .i64 x3, .int .i64 x4, .int .i64 x5, .int .i64 x6, .int .i64 x7, .int .i64 x8] 0 (by decide) (by decide) w).trans rfl
   rw [show ((0 : Nat) : Int) = 0 from rfl]
   go_wp2_with (at_builtin; refine wpList_append_lies _ rfl _ _ 61 rfl w.heap.size 3 i0 (.int .i64 0) 1 8 Tryz.underlying61 HI.out Z0.out Z1.out Z2.out rfl (by decide) (.slice sa 0 sc) 0 (ivs []) rfl (own_ext HO.out ((Ext.refl wr).alloc _)) ⟨wr.heap.size, 0, none⟩ 3 3 [.int .i64 x0, .int .i64 x1, .int .i64 x2] rfl rfl (cells_new _ [.int .i64 x0, .int .i64 x1, .int .i64 x2] _ _ rfl) (fun x hx => by simp at hx; rcases hx with rfl | rfl | rfl <;> rfl) (by decide) (by unfold maxLen; omega) (by omega) (by have := hE.size; simp; omega) _ rfl ?_; intro g cap' w3 hown' hgrow hg hgl)
   have hE3 : Ext w w3 := (hE.alloc _).grown (own_ext HO.out ((Ext.refl wr).alloc _)) hgrow
   exact ⟨⟨1, by omega, by first | rfl | go_num, hE3, hown'⟩, by simp [intOf]⟩
  ·replace hown : wr.ownsRow w.heap.size 3 1 (.slice sa 3 sc) 3 (ivs [x0, x1, x2]) := hown
   have HO := (show Hid (wr.ownsRow w.heap.size 3 1 (.slice sa 3 sc) 3 (ivs [x0, x1, x2])) from hown)
   clear hown
   have hix : ∀ w, (Instr.index 55 (.agg #[.int .i64 x0, .int .i64 x1, .int .i64 x2, .int .i64 x3, .int .i64 x4, .int .i64 x5, .int .i64 x6, .int .i64 x7, .int .i64 x8]) (.int .i64 1)).run Tryz.prog w = .ok (.agg #[.int .i64 x3, .int .i64 x4, .int .i64 x5]) w := fun w => (index_rows #[.int .i64 x0, .int .i64 x1, .int .i64 x2, .int .i64 x3, .int .i64 x4, .int .i64 x5, .int .i64 x6, .int .i64 x7, .int .i64 x8] 1 (by decide) (by decide) w).trans rfl
   rw [show ((1 : Nat) : Int) = 1 from rfl]
   go_wp2_with (at_builtin; refine wpList_append_lies _ rfl _ _ 61 rfl w.heap.size 3 i0 (.int .i64 0) 1 8 Tryz.underlying61 HI.out Z0.out Z1.out Z2.out rfl (by decide) (.slice sa 3 sc) 3 (ivs [x0, x1, x2]) rfl (own_ext HO.out ((Ext.refl wr).alloc _)) ⟨wr.heap.size, 0, none⟩ 3 3 [.int .i64 x3, .int .i64 x4, .int .i64 x5] rfl rfl (cells_new _ [.int .i64 x3, .int .i64 x4, .int .i64 x5] _ _ rfl) (fun x hx => by simp at hx; rcases hx with rfl | rfl | rfl <;> rfl) (by decide) (by unfold maxLen; omega) (by omega) (by have := hE.size; simp; omega) _ rfl ?_; intro g cap' w3 hown' hgrow hg hgl)
   have hE3 : Ext w w3 := (hE.alloc _).grown (own_ext HO.out ((Ext.refl wr).alloc _)) hgrow
   exact ⟨⟨2, by omega, by first | rfl | go_num, hE3, hown'⟩, by simp [intOf]⟩
  ·replace hown : wr.ownsRow w.heap.size 3 1 (.slice sa 6 sc) 6 (ivs [x0, x1, x2, x3, x4, x5]) := hown
   have HO := (show Hid (wr.ownsRow w.heap.size 3 1 (.slice sa 6 sc) 6 (ivs [x0, x1, x2, x3, x4, x5])) from hown)
   clear hown
   have hix : ∀ w, (Instr.index 55 (.agg #[.int .i64 x0, .int .i64 x1, .int .i64 x2, .int .i64 x3, .int .i64 x4, .int .i64 x5, .int .i64 x6, .int .i64 x7, .int .i64 x8]) (.int .i64 2)).run Tryz.prog w = .ok (.agg #[.int .i64 x6, .int .i64 x7, .int .i64 x8]) w := fun w => (index_rows #[.int .i64 x0, .int .i64 x1, .int .i64 x2, .int .i64 x3, .int .i64 x4, .int .i64 x5, .int .i64 x6, .int .i64 x7, .int .i64 x8] 2 (by decide) (by decide) w).trans rfl
   rw [show ((2 : Nat) : Int) = 2 from rfl]
   go_wp2_with (at_builtin; refine wpList_append_lies _ rfl _ _ 61 rfl w.heap.size 3 i0 (.int .i64 0) 1 8 Tryz.underlying61 HI.out Z0.out Z1.out Z2.out rfl (by decide) (.slice sa 6 sc) 6 (ivs [x0, x1, x2, x3, x4, x5]) rfl (own_ext HO.out ((Ext.refl wr).alloc _)) ⟨wr.heap.size, 0, none⟩ 3 3 [.int .i64 x6, .int .i64 x7, .int .i64 x8] rfl rfl (cells_new _ [.int .i64 x6, .int .i64 x7, .int .i64 x8] _ _ rfl) (fun x hx => by simp at hx; rcases hx with rfl | rfl | rfl <;> rfl) (by decide) (by unfold maxLen; omega) (by omega) (by have := hE.size; simp; omega) _ rfl ?_; intro g cap' w3 hown' hgrow hg hgl)
   have hE3 : Ext w w3 := (hE.alloc _).grown (own_ext HO.out ((Ext.refl wr).alloc _)) hgrow
   exact ⟨⟨3, by omega, by first | rfl | go_num, hE3, hown'⟩, by simp [intOf]⟩
  ·replace hown : wr.ownsRow w.heap.size 3 1 (.slice sa 9 sc) [x0, x1, x2, x3, x4, x5, x6, x7, x8].length (ivs [x0, x1, x2, x3, x4, x5, x6, x7, x8]) := hown
   obtain ⟨a', c', hsl, hcc, hr⟩ := Ints.of_own hown
   injection hsl with e1 _ e3
   subst e1 e3
   have HR := fun (_ : True) => row_any _ sa sc [x0, x1, x2, x3, x4, x5, x6, x7, x8] wr hr (by simp) (by simp) hb
   clear hown hb hr
   go_wp2_with fail
   refine (HR trivial).mono ?_
   rintro e w1 ⟨rfl, hw⟩
   go_wp2_with fail
   go_ret
   exact ⟨rfl, hE.trans hw⟩
theorem tell_pages (x0 x1 x2 x3 x4 x5 x6 x7 x8 x9 x10 x11 : Int) (hb : ∀ n ∈ [x0, x1, x2, x4, x5, x6, x8, x9, x10], 0 ≤ n ∧ n < 100) (w : World) :
  Calls Tryz.prog 20 #[.iface 35 (.agg #[.int .i64 x0, .int .i64 x1, .int .i64 x2, .int .i64 x3, .int .i64 x4, .int .i64 x5, .int .i64 x6, .int .i64 x7, .int .i64 x8, .int .i64 x9, .int .i64 x10, .int .i64 x11])] w fun e w' => e = .returned (tx (listedR [x0, x1, x2, x4, x5, x6, x8, x9, x10])) ∧ Ext w w' := by
 have q1 := as_errno 35 (.agg #[.int .i64 x0, .int .i64 x1, .int .i64 x2, .int .i64 x3, .int .i64 x4, .int .i64 x5, .int .i64 x6, .int .i64 x7, .int .i64 x8, .int .i64 x9, .int .i64 x10, .int .i64 x11]) rfl
 have q2 := as_string 35 (.agg #[.int .i64 x0, .int .i64 x1, .int .i64 x2, .int .i64 x3, .int .i64 x4, .int .i64 x5, .int .i64 x6, .int .i64 x7, .int .i64 x8, .int .i64 x9, .int .i64 x10, .int .i64 x11]) rfl
 have q3 := as_int 35 (.agg #[.int .i64 x0, .int .i64 x1, .int .i64 x2, .int .i64 x3, .int .i64 x4, .int .i64 x5, .int .i64 x6, .int .i64 x7, .int .i64 x8, .int .i64 x9, .int .i64 x10, .int .i64 x11]) rfl
 have q4 := as_ints 35 (.agg #[.int .i64 x0, .int .i64 x1, .int .i64 x2, .int .i64 x3, .int .i64 x4, .int .i64 x5, .int .i64 x6, .int .i64 x7, .int .i64 x8, .int .i64 x9, .int .i64 x10, .int .i64 x11]) rfl
 have q5 := as_cells 35 (.agg #[.int .i64 x0, .int .i64 x1, .int .i64 x2, .int .i64 x3, .int .i64 x4, .int .i64 x5, .int .i64 x6, .int .i64 x7, .int .i64 x8, .int .i64 x9, .int .i64 x10, .int .i64 x11]) rfl
 have q0 := is_pages (.agg #[.int .i64 x0, .int .i64 x1, .int .i64 x2, .int .i64 x3, .int .i64 x4, .int .i64 x5, .int .i64 x6, .int .i64 x7, .int .i64 x8, .int .i64 x9, .int .i64 x10, .int .i64 x11])
 have E0 := (Ext.refl w).alloc (.cells #[.int .i64 x0, .int .i64 x1, .int .i64 x2, .int .i64 x3, .int .i64 x4, .int .i64 x5, .int .i64 x6, .int .i64 x7, .int .i64 x8, .int .i64 x9, .int .i64 x10, .int .i64 x11] 35)
 have A0 := Blk.new w w.heap.size #[.int .i64 x0, .int .i64 x1, .int .i64 x2, .int .i64 x3, .int .i64 x4, .int .i64 x5, .int .i64 x6, .int .i64 x7, .int .i64 x8, .int .i64 x9, .int .i64 x10, .int .i64 x11] 35 rfl
 have a0 := A0.cell
 go_enter Tryz.func20, Tryz.ntmps20
 go_wp2_with fail
 refine (cellsOf_pgs x0 x1 x2 x3 x4 x5 x6 x7 x8 x9 x10 x11 _).mono ?_
 rintro e w1 ⟨rfl, hw⟩
 go_wp2_with fail
 refine (tell_cells x0 x1 x2 x4 x5 x6 x8 x9 x10 hb w1).mono ?_
 rintro e w2 ⟨rfl, hw2⟩
 go_wp2_with fail
 go_ret
 exact ⟨rfl, (E0.trans hw).trans hw2⟩
end Go.Proofs.YtibfgbmhmdggmaaGreatDoor.B
