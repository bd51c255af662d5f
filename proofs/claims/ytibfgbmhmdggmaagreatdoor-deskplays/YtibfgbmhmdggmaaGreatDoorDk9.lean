/- The desk's obey: the words of a line are looked up, the numbers are read, the order is done. -/
import Derived.Test.YtibfgbmhmdggmaaGreatDoorDk8
import Derived.Laws.EntriesVeiled
namespace Go.Proofs.YtibfgbmhmdggmaaGreatDoor.B
set_option maxHeartbeats 32000000
set_option maxRecDepth 100000
open Go.ChangeShapes Go.WideShapes Go.ChangeAt Go.RowKit
def Txts (w : World) (b : Nat) (xs : List (List UInt8)) : Prop := ∀ j, (h : j < xs.length) → w.cell? ⟨b, j, none⟩ = some (tx xs[j])
theorem Txts.ext {w w' : World} {b : Nat} {xs : List (List UInt8)} (h : Txts w b xs) (e : Ext w w') : Txts w' b xs := fun j hj => e.cell (h j hj)
def numsB (ws : List (List UInt8)) : Bool := ws.all fun v => decide (0 ≤ numR v)
theorem numsB_take {ws : List (List UInt8)} {k : Nat} (h : k < ws.length) (h1 : numsB (ws.take k) = true) (h2 : 0 ≤ numR ws[k]) : numsB (ws.take (k + 1)) = true := by
 unfold numsB at *
 rw [List.take_succ_eq_append_getElem h, List.all_append, h1]
 simp [h2]
theorem numsB_no {ws : List (List UInt8)} {k : Nat} (h : k < ws.length) (h2 : ¬ 0 ≤ numR ws[k]) : numsB ws = false := by
 unfold numsB
 rw [List.all_eq_false]
 exact ⟨ws[k], List.getElem_mem h, by simpa using h2⟩
theorem numL_take {ws : List (List UInt8)} {k : Nat} (h : k < ws.length) : (ws.take (k + 1)).map numR = (ws.take k).map numR ++ [numR ws[k]] := by
 rw [List.take_succ_eq_append_getElem h, List.map_append]
 rfl
theorem obey_none (cb wb cap : Nat) (x : List UInt8) (rest : List (List UInt8)) (W : Wd) (w : World) (C : Ck w cb W) (hws : Txts w wb (x :: rest)) (hfind : ∀ bc, findI (fun q => x == q) (ordersL bc) 0 = none) :
  Calls Tryz.prog 21 #[.pointer (some ⟨cb, 0, none⟩), .slice (some ⟨wb, 0, none⟩) (rest.length + 1) cap] w fun e w' => OrdAns cb W (formT W) w w' e := by
 have h0 : w.cell? ⟨wb, 0, none⟩ = some (tx x) := hws 0 (by simp)
 clear hws
 go_enter Tryz.func21, Tryz.ntmps21
 go_wp2_with fail
 have Ed := (Ext.refl w).drew
 have KC : Hid (∀ W', Ext w W' → W'.cell? ⟨wb, 0, none⟩ = some (tx x)) := fun W' e => e.cell h0
 go_cut [5, 6] (fun s5 s6 wx => ∃ bo bc : Nat, s5 = .pointer (some ⟨bo, 0, none⟩) ∧ s6 = .bool false ∧ Blk wx bo #[.int .i64 0, .nilFunc] 72 ∧ Ext w wx ∧ wx.cell? ⟨bc, 0, none⟩ = some (.pointer (some ⟨cb, 0, none⟩)) ∧ w.heap.size ≤ bc)
 case first =>
  refine wp_region_held_drew (S := fun W' => W'.cell? ⟨wb, 0, none⟩ = some (tx x)) (by kernel_rfl) (KC.out _ Ed) (fun hHeld => ?_)
  refine tkn 0 rfl hHeld ?_
  simp only [Act.put]
  refine tkn 2 rfl hHeld ?_
  simp only [Act.put]
  refine tkn 3 rfl hHeld ?_
  simp only [Act.put]
  refine tkn 4 rfl hHeld ?_
  simp only [Act.put]
  refine wpAnyH_ready (rs := [1, 9]) (by kernel_rfl) (by simp) ?_
  refine AllReadyH.cons rfl (fun K hK => ?_) (AllReadyH.cons rfl (fun K hK => ?_) AllReadyH.nil)
  ·go_simp
   refine (orders_any cb _).mono ?_
   rintro e w1 ⟨bc, r, rfl, hw, M, hpc, hbc⟩
   have E1 := Ed.trans hw
   have hbc : w.heap.size ≤ bc := Nat.le_trans Ed.size hbc
   go_wp2_with fail
   refine hK.out _ _ (KC.out _ E1) (fun hHeld => ?_)
   clear hK K
   refine wpAnyH_ready (rs := [5, 9]) (by kernel_rfl) (by simp) ?_
   have hl := run_lookS M x
   rw [hfind bc] at hl
   dsimp only at hl
   refine AllReadyH.cons rfl (fun K hK => ?_) (AllReadyH.cons rfl (fun K hK => ?_) AllReadyH.nil)
   ·go_simp
    refine hK.out _ _ (KC.out _ E1) (fun hHeld => ?_)
    clear hK K hl
    refine tkn 6 rfl hHeld ?_
    simp only [Act.put]
    refine tkn 7 rfl hHeld ?_
    simp only [Act.put]
    refine tkn 8 rfl hHeld ?_
    simp only [Act.put]
    refine exn 9 rfl fun K hK => ?_
    go_simp
    refine hK.out _ _ (KC.out _ (E1.alloc (.cells #[.int .i64 0, .nilFunc] 72))) (fun hHeld => ?_)
    clear hK K
    refine exn 10 rfl fun K hK => ?_
    go_simp
    have E4 := E1.alloc (.cells #[.int .i64 0, .nilFunc] 72)
    have O4 := Blk.new w1 w1.heap.size #[.int .i64 0, .nilFunc] 72 rfl
    have hp4 := ((Ext.refl w1).alloc (.cells #[.int .i64 0, .nilFunc] 72)).cell hpc
    refine hK.out _ _ (KC.out _ E4) (fun hHeld => ?_)
    clear hK K
    refine exn 11 rfl fun K hK => ?_
    go_simp
    refine hK.out _ _ (KC.out _ E4) (fun hHeld => ?_)
    clear hK K hHeld
    refine wpAnyH_done (by kernel_rfl) ?_ _
    clear KC M hw E1 hpc
    go_wp2_with fail
    go_meet
    case rel => exact ⟨_, bc, rfl, rfl, O4, E4, hp4, hbc⟩
   ·clear hl
    go_simp
    have E2 := E1.alloc (.cells #[.int .i64 0, .nilFunc] 72)
    have Z2 := Blk.new w1 w1.heap.size #[.int .i64 0, .nilFunc] 72 rfl
    have M2 := M.ext ((Ext.refl w1).alloc (.cells #[.int .i64 0, .nilFunc] 72))
    have hp2 := ((Ext.refl w1).alloc (.cells #[.int .i64 0, .nilFunc] 72)).cell hpc
    have hbz : w.heap.size ≤ w1.heap.size := E1.size
    have hbb : bc ≠ w1.heap.size := by have h1 : bc < w1.heap.size := cell_lt hpc; omega
    refine hK.out _ _ (KC.out _ E2) (fun hHeld => ?_)
    clear hK K
    generalize w1.alloc (.cells #[.int .i64 0, .nilFunc] 72) = w2 at *
    have hl := run_lookS (M2) x
    rw [hfind bc] at hl
    dsimp only at hl
    refine exn 5 rfl fun K hK => ?_
    go_simp
    refine hK.out _ _ (KC.out _ E2) (fun hHeld => ?_)
    clear hK K hl
    refine tkn 6 rfl hHeld ?_
    simp only [Act.put]
    refine tkn 7 rfl hHeld ?_
    simp only [Act.put]
    refine tkn 8 rfl hHeld ?_
    simp only [Act.put]
    have z_ := Z2.cell
    have f_ := Z2.fr
    refine exn 10 rfl fun K hK => ?_
    go_simp
    have E4 : Ext w ((w2.setCell ⟨w1.heap.size, 0, none⟩ (.int .i64 0)).setCell ⟨w1.heap.size, 1, none⟩ (.nilFunc)) := (E2.setCell (p := ⟨w1.heap.size, 0, none⟩) hbz _).setCell (p := ⟨w1.heap.size, 1, none⟩) hbz _
    have O4 : Blk ((w2.setCell ⟨w1.heap.size, 0, none⟩ (.int .i64 0)).setCell ⟨w1.heap.size, 1, none⟩ (.nilFunc)) w1.heap.size #[.int .i64 0, .nilFunc] 72 := by have := (Z2.set 0 (.int .i64 0)).set 1 (.nilFunc); simpa using this
    have hp4 : ((w2.setCell ⟨w1.heap.size, 0, none⟩ (.int .i64 0)).setCell ⟨w1.heap.size, 1, none⟩ (.nilFunc)).cell? ⟨bc, 0, none⟩ = some (.pointer (some ⟨cb, 0, none⟩)) := gr_cell (((Gr.refl (some w1.heap.size) w2).set (p := ⟨w1.heap.size, 0, none⟩) (Or.inr rfl) (.int .i64 0)).set (p := ⟨w1.heap.size, 1, none⟩) (Or.inr rfl) (.nilFunc)) hp2 hbb
    refine hK.out _ _ (KC.out _ E4) (fun hHeld => ?_)
    clear hK K z_ f_
    refine exn 11 rfl fun K hK => ?_
    go_simp
    refine hK.out _ _ (KC.out _ E4) (fun hHeld => ?_)
    clear hK K hHeld
    refine wpAnyH_done (by kernel_rfl) ?_ _
    clear KC M hw E1 hpc
    go_wp2_with fail
    go_meet
    case rel => exact ⟨_, bc, rfl, rfl, O4, E4, hp4, hbc⟩
  ·go_simp
   have E0 := Ed.alloc (.cells #[.int .i64 0, .nilFunc] 72)
   have Z0 := Blk.new w.drew w.heap.size #[.int .i64 0, .nilFunc] 72 rfl
   refine hK.out _ _ (KC.out _ E0) (fun hHeld => ?_)
   clear hK K
   refine exn 1 rfl fun K hK => ?_
   go_simp
   refine (orders_any cb _).mono ?_
   rintro e w1 ⟨bc, r, rfl, hw, M, hpc, hbc⟩
   have E1 := E0.trans hw
   have hbb : bc ≠ w.heap.size := by have h1 := hbc; simp at h1; omega
   have hbc : w.heap.size ≤ bc := Nat.le_trans E0.size hbc
   have Z1 := Z0.ext hw
   have hbz : w.heap.size ≤ w.heap.size := Nat.le_refl _
   go_wp2_with fail
   refine hK.out _ _ (KC.out _ E1) (fun hHeld => ?_)
   clear hK K
   have hl := run_lookS (M) x
   rw [hfind bc] at hl
   dsimp only at hl
   refine exn 5 rfl fun K hK => ?_
   go_simp
   refine hK.out _ _ (KC.out _ E1) (fun hHeld => ?_)
   clear hK K hl
   refine tkn 6 rfl hHeld ?_
   simp only [Act.put]
   refine tkn 7 rfl hHeld ?_
   simp only [Act.put]
   refine tkn 8 rfl hHeld ?_
   simp only [Act.put]
   have z_ := Z1.cell
   have f_ := Z1.fr
   refine exn 10 rfl fun K hK => ?_
   go_simp
   have E4 : Ext w ((w1.setCell ⟨w.heap.size, 0, none⟩ (.int .i64 0)).setCell ⟨w.heap.size, 1, none⟩ (.nilFunc)) := (E1.setCell (p := ⟨w.heap.size, 0, none⟩) hbz _).setCell (p := ⟨w.heap.size, 1, none⟩) hbz _
   have O4 : Blk ((w1.setCell ⟨w.heap.size, 0, none⟩ (.int .i64 0)).setCell ⟨w.heap.size, 1, none⟩ (.nilFunc)) w.heap.size #[.int .i64 0, .nilFunc] 72 := by have := (Z1.set 0 (.int .i64 0)).set 1 (.nilFunc); simpa using this
   have hp4 : ((w1.setCell ⟨w.heap.size, 0, none⟩ (.int .i64 0)).setCell ⟨w.heap.size, 1, none⟩ (.nilFunc)).cell? ⟨bc, 0, none⟩ = some (.pointer (some ⟨cb, 0, none⟩)) := gr_cell (((Gr.refl (some w.heap.size) w1).set (p := ⟨w.heap.size, 0, none⟩) (Or.inr rfl) (.int .i64 0)).set (p := ⟨w.heap.size, 1, none⟩) (Or.inr rfl) (.nilFunc)) hpc hbb
   refine hK.out _ _ (KC.out _ E4) (fun hHeld => ?_)
   clear hK K z_ f_
   refine exn 11 rfl fun K hK => ?_
   go_simp
   refine hK.out _ _ (KC.out _ E4) (fun hHeld => ?_)
   clear hK K hHeld
   refine wpAnyH_done (by kernel_rfl) ?_ _
   clear KC M hw E1 hpc
   go_wp2_with fail
   go_meet
   case rel => exact ⟨_, bc, rfl, rfl, O4, E4, hp4, hbc⟩
 case rest =>
  obtain ⟨bo, bc, rfl, rfl, O, E, hpc, hbc⟩ := hcut
  have HC := (show Hid (Ck w cb W) from C)
  go_wp2_with fail
  refine (leave_no 1 (by decide) _).mono ?_
  rintro e w2 ⟨rfl, rfl⟩
  go_wp2_with fail
  exact ⟨rfl, Gr.of_ext E, Or.inr ⟨by show (1 : Int) ≠ 0; decide, rfl, HC.out.ext E⟩⟩
def ordR (W : Wd) (n : Nat) (T : Told) (rest : List (List UInt8)) : Told := if rest.length = n then (if numsB rest = true then T else formT W) else formT W
theorem obey_some (cb wb cap : Nat) (x : List UInt8) (rest : List (List UInt8)) (W : Wd) (w : World) (C : Ck w cb W) (hws : Txts w wb (x :: rest)) (hrl : rest.length ≤ 5000) (hwl : ∀ s ∈ rest, s.length ≤ 5000) (hcap : cap = rest.length + 1) (k n : Nat) (f : FuncId) (hn5 : n ≤ 5)
  (hfind : ∀ bc, findI (fun q => x == q) (ordersL bc) 0 = some (k, ordV n f bc)) (hen : ∀ args w, (callFunc f args).run Tryz.prog w = .ok (.enter f args) w) (T : Told)
  (HF : rest.length = n → numsB rest = true → ∀ W' bc v, Ext w W' → W'.cell? ⟨bc, 0, none⟩ = some (.pointer (some ⟨cb, 0, none⟩)) → w.heap.size ≤ bc → W'.ownsRow w.heap.size 3 1 v rest.length (ivs (rest.map numR)) →
   Calls Tryz.prog f #[v, .pointer (some ⟨bc, 0, none⟩)] W' fun e w' => OrdAns cb W T W' w' e) :
  Calls Tryz.prog 21 #[.pointer (some ⟨cb, 0, none⟩), .slice (some ⟨wb, 0, none⟩) (rest.length + 1) cap] w fun e w' => OrdAns cb W (ordR W n T rest) w w' e := by
 have h0 : w.cell? ⟨wb, 0, none⟩ = some (tx x) := hws 0 (by simp)
 have HW : Hid (∀ j, (h : j < rest.length) → w.cell? ⟨wb, 1 + j, none⟩ = some (tx rest[j])) := fun j h => by
  have := hws (j + 1) (by simp; omega)
  rw [Nat.add_comm 1 j]
  exact this
 have HWL : Hid (∀ (j : Nat) (h : j < rest.length), rest[j].length ≤ 5000) := fun j h => hwl _ (List.getElem_mem h)
 have HC := (show Hid (Ck w cb W) from C)
 have HFF := (show Hid _ from HF)
 have HCap := (show Hid (cap = rest.length + 1) from hcap)
 clear hws hwl C hcap
 go_enter Tryz.func21, Tryz.ntmps21
 go_wp2_with fail
 have Ed := (Ext.refl w).drew
 have KC : Hid (∀ W', Ext w W' → W'.cell? ⟨wb, 0, none⟩ = some (tx x)) := fun W' e => e.cell h0
 go_cut [5, 6] (fun s5 s6 wx => ∃ bo bc : Nat, s5 = .pointer (some ⟨bo, 0, none⟩) ∧ s6 = .bool true ∧ Blk wx bo #[.int .i64 (n : Nat), .func (.func f) #[] #[.pointer (some ⟨bc, 0, none⟩)]] 72 ∧ Ext w wx ∧ wx.cell? ⟨bc, 0, none⟩ = some (.pointer (some ⟨cb, 0, none⟩)) ∧ w.heap.size ≤ bc)
 case first =>
  refine wp_region_held_drew (S := fun W' => W'.cell? ⟨wb, 0, none⟩ = some (tx x)) (by kernel_rfl) (KC.out _ Ed) (fun hHeld => ?_)
  refine tkn 0 rfl hHeld ?_
  simp only [Act.put]
  refine tkn 2 rfl hHeld ?_
  simp only [Act.put]
  refine tkn 3 rfl hHeld ?_
  simp only [Act.put]
  refine tkn 4 rfl hHeld ?_
  simp only [Act.put]
  refine wpAnyH_ready (rs := [1, 9]) (by kernel_rfl) (by simp) ?_
  refine AllReadyH.cons rfl (fun K hK => ?_) (AllReadyH.cons rfl (fun K hK => ?_) AllReadyH.nil)
  ·go_simp
   refine (orders_any cb _).mono ?_
   rintro e w1 ⟨bc, r, rfl, hw, M, hpc, hbc⟩
   have E1 := Ed.trans hw
   have hbc : w.heap.size ≤ bc := Nat.le_trans Ed.size hbc
   go_wp2_with fail
   refine hK.out _ _ (KC.out _ E1) (fun hHeld => ?_)
   clear hK K
   refine wpAnyH_ready (rs := [5, 9]) (by kernel_rfl) (by simp) ?_
   have hl := run_lookS M x
   rw [hfind bc] at hl
   dsimp only at hl
   refine AllReadyH.cons rfl (fun K hK => ?_) (AllReadyH.cons rfl (fun K hK => ?_) AllReadyH.nil)
   ·go_simp
    refine hK.out _ _ (KC.out _ E1) (fun hHeld => ?_)
    clear hK K hl
    refine tkn 6 rfl hHeld ?_
    simp only [Act.put]
    refine tkn 7 rfl hHeld ?_
    simp only [Act.put]
    refine tkn 8 rfl hHeld ?_
    simp only [Act.put]
    refine exn 9 rfl fun K hK => ?_
    go_simp
    refine hK.out _ _ (KC.out _ (E1.alloc (.cells #[.int .i64 0, .nilFunc] 72))) (fun hHeld => ?_)
    clear hK K
    refine exn 10 rfl fun K hK => ?_
    go_simp
    have E4 := E1.alloc (.cells #[.int .i64 (n : Nat), .func (.func f) #[] #[.pointer (some ⟨bc, 0, none⟩)]] 72)
    have O4 := Blk.new w1 w1.heap.size #[.int .i64 (n : Nat), .func (.func f) #[] #[.pointer (some ⟨bc, 0, none⟩)]] 72 rfl
    have hp4 := ((Ext.refl w1).alloc (.cells #[.int .i64 (n : Nat), .func (.func f) #[] #[.pointer (some ⟨bc, 0, none⟩)]] 72)).cell hpc
    refine hK.out _ _ (KC.out _ E4) (fun hHeld => ?_)
    clear hK K
    refine exn 11 rfl fun K hK => ?_
    go_simp
    refine hK.out _ _ (KC.out _ E4) (fun hHeld => ?_)
    clear hK K hHeld
    refine wpAnyH_done (by kernel_rfl) ?_ _
    clear KC M hw E1 hpc
    go_wp2_with fail
    go_meet
    case rel => exact ⟨_, bc, rfl, rfl, O4, E4, hp4, hbc⟩
   ·clear hl
    go_simp
    have E2 := E1.alloc (.cells #[.int .i64 0, .nilFunc] 72)
    have Z2 := Blk.new w1 w1.heap.size #[.int .i64 0, .nilFunc] 72 rfl
    have M2 := M.ext ((Ext.refl w1).alloc (.cells #[.int .i64 0, .nilFunc] 72))
    have hp2 := ((Ext.refl w1).alloc (.cells #[.int .i64 0, .nilFunc] 72)).cell hpc
    have hbz : w.heap.size ≤ w1.heap.size := E1.size
    have hbb : bc ≠ w1.heap.size := by have h1 : bc < w1.heap.size := cell_lt hpc; omega
    refine hK.out _ _ (KC.out _ E2) (fun hHeld => ?_)
    clear hK K
    generalize w1.alloc (.cells #[.int .i64 0, .nilFunc] 72) = w2 at *
    have hl := run_lookS (M2) x
    rw [hfind bc] at hl
    dsimp only at hl
    refine exn 5 rfl fun K hK => ?_
    go_simp
    refine hK.out _ _ (KC.out _ E2) (fun hHeld => ?_)
    clear hK K hl
    refine tkn 6 rfl hHeld ?_
    simp only [Act.put]
    refine tkn 7 rfl hHeld ?_
    simp only [Act.put]
    refine tkn 8 rfl hHeld ?_
    simp only [Act.put]
    have z_ := Z2.cell
    have f_ := Z2.fr
    refine exn 10 rfl fun K hK => ?_
    go_simp
    have E4 : Ext w ((w2.setCell ⟨w1.heap.size, 0, none⟩ (.int .i64 (n : Nat))).setCell ⟨w1.heap.size, 1, none⟩ (.func (.func f) #[] #[.pointer (some ⟨bc, 0, none⟩)])) := (E2.setCell (p := ⟨w1.heap.size, 0, none⟩) hbz _).setCell (p := ⟨w1.heap.size, 1, none⟩) hbz _
    have O4 : Blk ((w2.setCell ⟨w1.heap.size, 0, none⟩ (.int .i64 (n : Nat))).setCell ⟨w1.heap.size, 1, none⟩ (.func (.func f) #[] #[.pointer (some ⟨bc, 0, none⟩)])) w1.heap.size #[.int .i64 (n : Nat), .func (.func f) #[] #[.pointer (some ⟨bc, 0, none⟩)]] 72 := by have := (Z2.set 0 (.int .i64 (n : Nat))).set 1 (.func (.func f) #[] #[.pointer (some ⟨bc, 0, none⟩)]); simpa using this
    have hp4 : ((w2.setCell ⟨w1.heap.size, 0, none⟩ (.int .i64 (n : Nat))).setCell ⟨w1.heap.size, 1, none⟩ (.func (.func f) #[] #[.pointer (some ⟨bc, 0, none⟩)])).cell? ⟨bc, 0, none⟩ = some (.pointer (some ⟨cb, 0, none⟩)) := gr_cell (((Gr.refl (some w1.heap.size) w2).set (p := ⟨w1.heap.size, 0, none⟩) (Or.inr rfl) (.int .i64 (n : Nat))).set (p := ⟨w1.heap.size, 1, none⟩) (Or.inr rfl) (.func (.func f) #[] #[.pointer (some ⟨bc, 0, none⟩)])) hp2 hbb
    refine hK.out _ _ (KC.out _ E4) (fun hHeld => ?_)
    clear hK K z_ f_
    refine exn 11 rfl fun K hK => ?_
    go_simp
    refine hK.out _ _ (KC.out _ E4) (fun hHeld => ?_)
    clear hK K hHeld
    refine wpAnyH_done (by kernel_rfl) ?_ _
    clear KC M hw E1 hpc
    go_wp2_with fail
    go_meet
    case rel => exact ⟨_, bc, rfl, rfl, O4, E4, hp4, hbc⟩
  ·go_simp
   have E0 := Ed.alloc (.cells #[.int .i64 0, .nilFunc] 72)
   have Z0 := Blk.new w.drew w.heap.size #[.int .i64 0, .nilFunc] 72 rfl
   refine hK.out _ _ (KC.out _ E0) (fun hHeld => ?_)
   clear hK K
   refine exn 1 rfl fun K hK => ?_
   go_simp
   refine (orders_any cb _).mono ?_
   rintro e w1 ⟨bc, r, rfl, hw, M, hpc, hbc⟩
   have E1 := E0.trans hw
   have hbb : bc ≠ w.heap.size := by have h1 := hbc; simp at h1; omega
   have hbc : w.heap.size ≤ bc := Nat.le_trans E0.size hbc
   have Z1 := Z0.ext hw
   have hbz : w.heap.size ≤ w.heap.size := Nat.le_refl _
   go_wp2_with fail
   refine hK.out _ _ (KC.out _ E1) (fun hHeld => ?_)
   clear hK K
   have hl := run_lookS (M) x
   rw [hfind bc] at hl
   dsimp only at hl
   refine exn 5 rfl fun K hK => ?_
   go_simp
   refine hK.out _ _ (KC.out _ E1) (fun hHeld => ?_)
   clear hK K hl
   refine tkn 6 rfl hHeld ?_
   simp only [Act.put]
   refine tkn 7 rfl hHeld ?_
   simp only [Act.put]
   refine tkn 8 rfl hHeld ?_
   simp only [Act.put]
   have z_ := Z1.cell
   have f_ := Z1.fr
   refine exn 10 rfl fun K hK => ?_
   go_simp
   have E4 : Ext w ((w1.setCell ⟨w.heap.size, 0, none⟩ (.int .i64 (n : Nat))).setCell ⟨w.heap.size, 1, none⟩ (.func (.func f) #[] #[.pointer (some ⟨bc, 0, none⟩)])) := (E1.setCell (p := ⟨w.heap.size, 0, none⟩) hbz _).setCell (p := ⟨w.heap.size, 1, none⟩) hbz _
   have O4 : Blk ((w1.setCell ⟨w.heap.size, 0, none⟩ (.int .i64 (n : Nat))).setCell ⟨w.heap.size, 1, none⟩ (.func (.func f) #[] #[.pointer (some ⟨bc, 0, none⟩)])) w.heap.size #[.int .i64 (n : Nat), .func (.func f) #[] #[.pointer (some ⟨bc, 0, none⟩)]] 72 := by have := (Z1.set 0 (.int .i64 (n : Nat))).set 1 (.func (.func f) #[] #[.pointer (some ⟨bc, 0, none⟩)]); simpa using this
   have hp4 : ((w1.setCell ⟨w.heap.size, 0, none⟩ (.int .i64 (n : Nat))).setCell ⟨w.heap.size, 1, none⟩ (.func (.func f) #[] #[.pointer (some ⟨bc, 0, none⟩)])).cell? ⟨bc, 0, none⟩ = some (.pointer (some ⟨cb, 0, none⟩)) := gr_cell (((Gr.refl (some w.heap.size) w1).set (p := ⟨w.heap.size, 0, none⟩) (Or.inr rfl) (.int .i64 (n : Nat))).set (p := ⟨w.heap.size, 1, none⟩) (Or.inr rfl) (.func (.func f) #[] #[.pointer (some ⟨bc, 0, none⟩)])) hpc hbb
   refine hK.out _ _ (KC.out _ E4) (fun hHeld => ?_)
   clear hK K z_ f_
   refine exn 11 rfl fun K hK => ?_
   go_simp
   refine hK.out _ _ (KC.out _ E4) (fun hHeld => ?_)
   clear hK K hHeld
   refine wpAnyH_done (by kernel_rfl) ?_ _
   clear KC M hw E1 hpc
   go_wp2_with fail
   go_meet
   case rel => exact ⟨_, bc, rfl, rfl, O4, E4, hp4, hbc⟩
 case rest =>
  obtain ⟨bo, bc, rfl, rfl, O, E, hpc, hbc⟩ := hcut
  have o_ := O.cell
  by_cases hlen : rest.length = n
  ·subst hlen
   have hlb : ((rest.length : Int) + 1 != 1 + (rest.length : Int)) = false := by simp; omega
   obtain ⟨i0, hi, hz0, hz1, hz2⟩ := info_parts infoInt
   have HI := (show Hid _ from hi)
   have Z0 := (show Hid _ from hz0)
   have Z1 := (show Hid _ from hz1)
   have Z2 := (show Hid _ from hz2)
   clear hi hz0 hz1 hz2
   have HE0 := (show Hid (Ext w wc) from E)
   by_cases hc1 : cap = 1
   ·have hr0 : rest.length = 0 := by have := HCap.out; omega
    clear HCap
    subst hc1
    have HR0 := (show Hid (rest.length = 0) from hr0)
    clear hr0
    go_wp2_with fail
    go_loopw [7, 9, 33] (fun v _ i wr => ∃ k : Nat, k ≤ rest.length ∧ i = .int .i64 k ∧ Ext wc wr ∧ wr.ownsRow wc.heap.size 3 1 v k (ivs ((rest.take k).map numR)) ∧ Hid (numsB (rest.take k) = true)) (fun _ _ i _ => rest.length - (intOf i).toNat)
    case atStart => exact ⟨0, Nat.zero_le _, rfl, Ext.refl wc, World.ownsRow_nil _ _ _ _, rfl⟩
    case round =>
     obtain ⟨k2, hk2, rfl, hE, hown, HN⟩ := hrel
     obtain ⟨sa, sm, sc, rfl⟩ := own_slice hown
     obtain rfl := own_len hown
     by_cases hlt : sm < rest.length
     ·have := HR0.out
      omega
     ·obtain rfl : sm = rest.length := by omega
      rw [List.take_length] at hown HN
      have HT : Hid (ordR W rest.length T rest = T) := by show _ = _; unfold ordR; rw [if_pos rfl, if_pos HN.out]
      have hE2 := HE0.out.trans hE
      have HFx := fun (_ : True) => HFF.out (by first | trivial | rfl) HN.out wr bc (.slice sa rest.length sc) hE2 (hE.cell hpc) hbc (own_base hown HE0.out.size)
      have o2 := (O.ext hE).cell
      clear hown
      have HE2 := (show Hid (Ext w wr) from hE2)
      clear hE2
      go_wp2_with fail
      refine (HFx trivial).mono ?_
      rintro e w5 ⟨g, hans⟩
      have HG := (show Hid (Gr (some cb) w w5) from (Gr.of_ext HE2.out).trans g)
      rcases hans with ⟨h1, v, rfl, ht, hc5⟩ | ⟨h1, rfl, hc5⟩
      ·have HA5 := (show Hid (T.err = 0 ∧ Tells w5 v T.text ∧ Ck w5 cb T.wd) from ⟨h1, ht, hc5⟩)
       clear h1 ht hc5 g
       go_wp2_with fail
       go_ret
       rw [HT.out]
       exact ⟨HG.out, Or.inl ⟨HA5.out.1, _, rfl, HA5.out.2.1, HA5.out.2.2⟩⟩
      ·have HA5 := (show Hid (T.err ≠ 0 ∧ Ck w5 cb W) from ⟨h1, hc5⟩)
       clear h1 hc5 g
       go_wp2_with fail
       rw [HT.out]
       exact ⟨rfl, HG.out, Or.inr ⟨HA5.out.1, rfl, HA5.out.2⟩⟩
   ·have hcl : rest.length ≤ cap - 1 := by have := HCap.out; omega
    go_wp2_with fail
    go_loopw [7, 9, 33] (fun v _ i wr => ∃ k : Nat, k ≤ rest.length ∧ i = .int .i64 k ∧ Ext wc wr ∧ wr.ownsRow wc.heap.size 3 1 v k (ivs ((rest.take k).map numR)) ∧ Hid (numsB (rest.take k) = true)) (fun _ _ i _ => rest.length - (intOf i).toNat)
    case atStart => exact ⟨0, Nat.zero_le _, rfl, Ext.refl wc, World.ownsRow_nil _ _ _ _, rfl⟩
    case round =>
     obtain ⟨k2, hk2, rfl, hE, hown, HN⟩ := hrel
     obtain ⟨sa, sm, sc, rfl⟩ := own_slice hown
     obtain rfl := own_len hown
     by_cases hlt : sm < rest.length
     ·have hc := (HE0.out.trans hE).cell (HW.out sm hlt)
      have hwl := HWL.out sm hlt
      have hlti : (sm : Int) < (rest.length : Int) := by omega
      have HT1 := (show Hid ((rest.take (sm + 1)).map numR = (rest.take sm).map numR ++ [numR rest[sm]]) from numL_take hlt)
      have HO := (show Hid (wr.ownsRow wc.heap.size 3 1 (.slice sa sm sc) sm (ivs ((rest.take sm).map numR))) from hown)
      have hws := hE.size
      clear hown
      by_cases hnum : 0 ≤ numR rest[sm]
      ·have HN2 : Hid (numsB (rest.take (sm + 1)) = true) := numsB_take hlt HN.out hnum
       have HNm := fun W' => number_ok rest[sm] hwl hnum W'
       generalize rest[sm] = wd at *
       generalize numR wd = nv at *
       go_wp2_with fail
       refine (HNm _).mono ?_
       rintro e w3 ⟨rfl, hw3⟩
       have hE3 := hE.trans hw3
       have HO3 := (show Hid (w3.ownsRow wc.heap.size 3 1 (.slice sa sm sc) sm (ivs ((rest.take sm).map numR))) from own_ext HO.out hw3)
       have hws3 := hw3.size
       go_wp2_with (at_builtin; refine wpList_append_lies _ rfl _ _ 61 rfl wc.heap.size 3 i0 (.int .i64 0) 1 8 Tryz.underlying61 HI.out Z0.out Z1.out Z2.out rfl (by decide) (.slice sa sm sc) sm (ivs ((rest.take sm).map numR)) rfl (own_ext HO3.out ((Ext.refl w3).alloc _)) ⟨w3.heap.size, 0, none⟩ 1 1 [.int .i64 nv] rfl rfl (cells_new _ [.int .i64 nv] _ _ rfl) (fun x hx => by simp at hx; subst hx; rfl) (by decide) (by unfold maxLen; omega) (by omega) (by simp; omega) _ rfl ?_; intro g cap' w4 hown' hgrow hg hgl)
       have hE4 : Ext wc w4 := (hE3.alloc _).grown (own_ext HO3.out ((Ext.refl w3).alloc _)) hgrow
       refine ⟨⟨sm + 1, by omega, by go_num, hE4, ?_, HN2⟩, by simp [intOf]; omega⟩
       rw [HT1.out, ivs_snoc]
       exact hown'
      ·have HT : Hid (ordR W rest.length T rest = formT W) := by show _ = _; unfold ordR; rw [if_pos rfl, if_neg (by rw [numsB_no hlt hnum]; simp)]
       have HNm := fun W' => number_no rest[sm] hwl hnum W'
       generalize rest[sm] = wd at *
       go_wp2_with fail
       refine (HNm _).mono ?_
       rintro e w3 ⟨rfl, hw3⟩
       have hE3 := (HE0.out.trans hE).trans hw3
       go_wp2_with fail
       rw [HT.out]
       exact ⟨rfl, Gr.of_ext hE3, Or.inr ⟨by show (1 : Int) ≠ 0; decide, rfl, HC.out.ext hE3⟩⟩
     ·obtain rfl : sm = rest.length := by omega
      rw [List.take_length] at hown HN
      have HT : Hid (ordR W rest.length T rest = T) := by show _ = _; unfold ordR; rw [if_pos rfl, if_pos HN.out]
      have hE2 := HE0.out.trans hE
      have HFx := fun (_ : True) => HFF.out (by first | trivial | rfl) HN.out wr bc (.slice sa rest.length sc) hE2 (hE.cell hpc) hbc (own_base hown HE0.out.size)
      have o2 := (O.ext hE).cell
      clear hown
      have HE2 := (show Hid (Ext w wr) from hE2)
      clear hE2
      go_wp2_with fail
      refine (HFx trivial).mono ?_
      rintro e w5 ⟨g, hans⟩
      have HG := (show Hid (Gr (some cb) w w5) from (Gr.of_ext HE2.out).trans g)
      rcases hans with ⟨h1, v, rfl, ht, hc5⟩ | ⟨h1, rfl, hc5⟩
      ·have HA5 := (show Hid (T.err = 0 ∧ Tells w5 v T.text ∧ Ck w5 cb T.wd) from ⟨h1, ht, hc5⟩)
       clear h1 ht hc5 g
       go_wp2_with fail
       go_ret
       rw [HT.out]
       exact ⟨HG.out, Or.inl ⟨HA5.out.1, _, rfl, HA5.out.2.1, HA5.out.2.2⟩⟩
      ·have HA5 := (show Hid (T.err ≠ 0 ∧ Ck w5 cb W) from ⟨h1, hc5⟩)
       clear h1 hc5 g
       go_wp2_with fail
       rw [HT.out]
       exact ⟨rfl, HG.out, Or.inr ⟨HA5.out.1, rfl, HA5.out.2⟩⟩
  ·have hlb : ((rest.length : Int) + 1 != 1 + (n : Int)) = true := by simp; omega
   have HT : Hid (ordR W n T rest = formT W) := by show _ = _; unfold ordR; rw [if_neg hlen]
   go_wp2_with fail
   refine (leave_no 1 (by decide) _).mono ?_
   rintro e w2 ⟨rfl, rfl⟩
   go_wp2_with fail
   rw [HT.out]
   exact ⟨rfl, Gr.of_ext E, Or.inr ⟨by show (1 : Int) ≠ 0; decide, rfl, HC.out.ext E⟩⟩
end Go.Proofs.YtibfgbmhmdggmaaGreatDoor.B
