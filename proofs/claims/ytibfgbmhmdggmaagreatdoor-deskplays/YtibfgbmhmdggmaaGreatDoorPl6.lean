/- The reference's played: lines of one word. · The reference's played: disk. · The reference's played: must. · The reference's played: log. · The reference's played: crash. · The reference's played: lines with numbers. -/
import Derived.Test.YtibfgbmhmdggmaaGreatDoorDk13
namespace Go.Proofs.YtibfgbmhmdggmaaGreatDoor.B
set_option maxHeartbeats 32000000
set_option maxRecDepth 100000
open Go.ChangeShapes Go.WideShapes Go.ChangeAt Go.RowKit
theorem played_now (p q r : Pg) (a : Option Addr) (len cap : Nat) (safe : Int) (w : World) (x0 x1 x2 x3 x4 x5 x6 x7 x8 x9 x10 x11 : Int) (t : List UInt8) (HP : ∀ W, Ext w W → Calls Tryz.prog 25 #[.slice a len cap] W fun e w' => e = .returned (.agg #[.int .i64 x0, .int .i64 x1, .int .i64 x2, .int .i64 x3, .int .i64 x4, .int .i64 x5, .int .i64 x6, .int .i64 x7, .int .i64 x8, .int .i64 x9, .int .i64 x10, .int .i64 x11]) ∧ Ext W w') (HL : ∀ W, Calls Tryz.prog 23 #[.agg #[.int .i64 x0, .int .i64 x1, .int .i64 x2, .int .i64 x4, .int .i64 x5, .int .i64 x6, .int .i64 x8, .int .i64 x9, .int .i64 x10]] W fun e w' => e = .returned (tx t) ∧ Ext W w') :
  Calls Tryz.prog 12 #[wdVal p q r (.slice a len cap) safe, tx sNow] w fun e w' => e = .returned (.tuple #[wdVal p q r (.slice a len cap) safe, tx t, .int .i64 0]) ∧ Ext w w' := by
 obtain ⟨W0, hW0⟩ : ∃ W0, (w.alloc (.cells (wdCells p q r (.slice a len cap) safe) 38)).alloc (.cells (wdCells noPg noPg noPg (.slice none 0 0) 0) 38) = W0 := ⟨_, rfl⟩
 have E0 : Ext w W0 := by rw [← hW0]; exact ((Ext.refl w).alloc _).alloc _
 have B0 : Blk W0 w.heap.size (wdCells p q r (.slice a len cap) safe) 38 := by rw [← hW0]; exact (Blk.new w _ _ _ rfl).alloc _
 have N0 : Blk W0 (w.heap.size + 1) (wdCells noPg noPg noPg (.slice none 0 0) 0) 38 := by rw [← hW0]; exact Blk.new _ _ _ _ (by simp)
 have KC : Hid (∀ W', Gr (some (w.heap.size + 1)) W0 W' → ∀ o, W'.cell? ⟨w.heap.size, o, none⟩ = (wdCells p q r (.slice a len cap) safe)[o]?) := fun W' g => (B0.gr g (by simp)).cell
 have b0 := B0.cell
 go_enter Tryz.func12, Tryz.ntmps12
 go_wp2_with fail
 clear hW0 b0
 have Ed := (Ext.refl W0).drew
 have Gd := Gr.of_ext (row := some (w.heap.size + 1)) Ed
 refine wp_region_held_drew (S := fun W' => ∀ o, W'.cell? ⟨w.heap.size, o, none⟩ = (wdCells p q r (.slice a len cap) safe)[o]?) (by kernel_rfl) (KC.out _ Gd) (fun hHeld => ?_)
 refine tkn 0 rfl hHeld ?_
 simp only [Act.put]
 refine tkn 1 rfl hHeld ?_
 simp only [Act.put]
 refine tkn 2 rfl hHeld ?_
 simp only [Act.put]
 refine exn 3 rfl fun K hK => ?_
 go_simp
 refine (HP _ (E0.trans Ed)).mono ?_
 rintro e w1 ⟨rfl, hw1⟩
 have E1 := Ed.trans hw1
 have G1 := Gr.of_ext (row := some (w.heap.size + 1)) E1
 go_wp2_with fail
 refine hK.out _ _ (KC.out _ G1) (fun hHeld => ?_)
 clear hK K
 refine exn 4 rfl fun K hK => ?_
 go_simp
 refine (cells_pgs x0 x1 x2 x3 x4 x5 x6 x7 x8 x9 x10 x11 _).mono ?_
 rintro e w2 ⟨rfl, hw2⟩
 have E2 := E1.trans hw2
 have G2 := Gr.of_ext (row := some (w.heap.size + 1)) E2
 go_wp2_with fail
 refine hK.out _ _ (KC.out _ G2) (fun hHeld => ?_)
 clear hK K
 refine exn 5 rfl fun K hK => ?_
 go_simp
 refine (HL _).mono ?_
 rintro e w3 ⟨rfl, hw3⟩
 have E3 := E2.trans hw3
 have G3 := Gr.of_ext (row := some (w.heap.size + 1)) E3
 go_wp2_with fail
 refine hK.out _ _ (KC.out _ G3) (fun hHeld => ?_)
 clear hK K
 have N3 := N0.ext E3
 have n_ := N3.cell
 have f_ := N3.fr
 refine exn 6 rfl fun K hK => ?_
 go_simp
 have G9 := G3.trans (putWd_gr w3 (w.heap.size + 1) p q r (.slice a len cap) safe)
 have E9 := putWd_ext (E0.trans E3) (w.heap.size + 1) (by omega) p q r (.slice a len cap) safe
 have N9 := putWd_blk N3 p q r (.slice a len cap) safe
 clear n_ f_
 have n_ := N9.cell
 refine hK.out _ _ (KC.out _ G9) (fun hHeld => ?_)
 clear hK K
 refine exn 7 rfl fun K hK => ?_
 go_simp
 refine hK.out _ _ (KC.out _ G9) (fun hHeld => ?_)
 clear hK K
 refine exn 8 rfl fun K hK => ?_
 go_simp
 refine hK.out _ _ (KC.out _ G9) (fun hHeld => ?_)
 clear hK K
 refine wpAnyH_done (by kernel_rfl) ?_ _
 go_wp2_with fail
 exact bodyPost_ret (v := .tuple #[.agg (wdCells p q r (.slice a len cap) safe), tx t, .int .i64 0]) (by simp [results, Tryz.results12, go_sem, n_]) rfl ⟨rfl, E9⟩
theorem played_disk (p q r : Pg) (a : Option Addr) (len cap : Nat) (safe : Int) (w : World) (t : List UInt8) (HL : ∀ W, Calls Tryz.prog 23 #[.agg #[.int .i64 p.c0, .int .i64 p.c1, .int .i64 p.c2, .int .i64 q.c0, .int .i64 q.c1, .int .i64 q.c2, .int .i64 r.c0, .int .i64 r.c1, .int .i64 r.c2]] W fun e w' => e = .returned (tx t) ∧ Ext W w') :
  Calls Tryz.prog 12 #[wdVal p q r (.slice a len cap) safe, tx sDisk] w fun e w' => e = .returned (.tuple #[wdVal p q r (.slice a len cap) safe, tx t, .int .i64 0]) ∧ Ext w w' := by
 obtain ⟨W0, hW0⟩ : ∃ W0, (w.alloc (.cells (wdCells p q r (.slice a len cap) safe) 38)).alloc (.cells (wdCells noPg noPg noPg (.slice none 0 0) 0) 38) = W0 := ⟨_, rfl⟩
 have E0 : Ext w W0 := by rw [← hW0]; exact ((Ext.refl w).alloc _).alloc _
 have B0 : Blk W0 w.heap.size (wdCells p q r (.slice a len cap) safe) 38 := by rw [← hW0]; exact (Blk.new w _ _ _ rfl).alloc _
 have N0 : Blk W0 (w.heap.size + 1) (wdCells noPg noPg noPg (.slice none 0 0) 0) 38 := by rw [← hW0]; exact Blk.new _ _ _ _ (by simp)
 have KC : Hid (∀ W', Gr (some (w.heap.size + 1)) W0 W' → ∀ o, W'.cell? ⟨w.heap.size, o, none⟩ = (wdCells p q r (.slice a len cap) safe)[o]?) := fun W' g => (B0.gr g (by simp)).cell
 have b0 := B0.cell
 go_enter Tryz.func12, Tryz.ntmps12
 go_wp2_with fail
 clear hW0 b0
 have Ed := (Ext.refl W0).drew
 have Gd := Gr.of_ext (row := some (w.heap.size + 1)) Ed
 refine wp_region_held_drew (S := fun W' => ∀ o, W'.cell? ⟨w.heap.size, o, none⟩ = (wdCells p q r (.slice a len cap) safe)[o]?) (by kernel_rfl) (KC.out _ Gd) (fun hHeld => ?_)
 refine tkn 0 rfl hHeld ?_
 simp only [Act.put]
 refine tkn 1 rfl hHeld ?_
 simp only [Act.put]
 refine tkn 2 rfl hHeld ?_
 simp only [Act.put]
 refine exn 3 rfl fun K hK => ?_
 go_simp
 refine (cells_pgs p.c0 p.c1 p.c2 p.last q.c0 q.c1 q.c2 q.last r.c0 r.c1 r.c2 r.last _).mono ?_
 rintro e w1 ⟨rfl, hw1⟩
 have E1 := Ed.trans hw1
 have G1 := Gr.of_ext (row := some (w.heap.size + 1)) E1
 go_wp2_with fail
 refine hK.out _ _ (KC.out _ G1) (fun hHeld => ?_)
 clear hK K
 refine exn 4 rfl fun K hK => ?_
 go_simp
 refine (HL _).mono ?_
 rintro e w2 ⟨rfl, hw2⟩
 have E2 := E1.trans hw2
 have G2 := Gr.of_ext (row := some (w.heap.size + 1)) E2
 go_wp2_with fail
 refine hK.out _ _ (KC.out _ G2) (fun hHeld => ?_)
 clear hK K
 have N2 := N0.ext E2
 have n_ := N2.cell
 have f_ := N2.fr
 refine exn 5 rfl fun K hK => ?_
 go_simp
 have G9 := G2.trans (putWd_gr w2 (w.heap.size + 1) p q r (.slice a len cap) safe)
 have E9 := putWd_ext (E0.trans E2) (w.heap.size + 1) (by omega) p q r (.slice a len cap) safe
 have N9 := putWd_blk N2 p q r (.slice a len cap) safe
 clear n_ f_
 have n_ := N9.cell
 refine hK.out _ _ (KC.out _ G9) (fun hHeld => ?_)
 clear hK K
 refine exn 6 rfl fun K hK => ?_
 go_simp
 refine hK.out _ _ (KC.out _ G9) (fun hHeld => ?_)
 clear hK K
 refine exn 7 rfl fun K hK => ?_
 go_simp
 refine hK.out _ _ (KC.out _ G9) (fun hHeld => ?_)
 clear hK K
 refine wpAnyH_done (by kernel_rfl) ?_ _
 go_wp2_with fail
 exact bodyPost_ret (v := .tuple #[.agg (wdCells p q r (.slice a len cap) safe), tx t, .int .i64 0]) (by simp [results, Tryz.results12, go_sem, n_]) rfl ⟨rfl, E9⟩
theorem played_must (p q r : Pg) (a : Option Addr) (len cap : Nat) (safe : Int) (w : World) (n : Nat) (hn : safe = (n : Nat)) (hnl : n ≤ len) (hnc : len ≤ cap) (x0 x1 x2 x3 x4 x5 x6 x7 x8 : Int) (t : List UInt8) (HC : ∀ W, Ext w W → Calls Tryz.prog 26 #[.slice a n cap] W fun e w' => e = .returned (.tuple #[.agg #[.int .i64 x0, .int .i64 x1, .int .i64 x2, .int .i64 x3, .int .i64 x4, .int .i64 x5, .int .i64 x6, .int .i64 x7, .int .i64 x8], .int .i64 0]) ∧ Ext W w') (HL : ∀ W, Calls Tryz.prog 23 #[.agg #[.int .i64 x0, .int .i64 x1, .int .i64 x2, .int .i64 x3, .int .i64 x4, .int .i64 x5, .int .i64 x6, .int .i64 x7, .int .i64 x8]] W fun e w' => e = .returned (tx t) ∧ Ext W w') :
  Calls Tryz.prog 12 #[wdVal p q r (.slice a len cap) safe, tx sMust] w fun e w' => e = .returned (.tuple #[wdVal p q r (.slice a len cap) safe, tx t, .int .i64 0]) ∧ Ext w w' := by
 subst hn
 have hnc2 : n ≤ cap := by omega
 obtain ⟨W0, hW0⟩ : ∃ W0, (w.alloc (.cells (wdCells p q r (.slice a len cap) (n : Nat)) 38)).alloc (.cells (wdCells noPg noPg noPg (.slice none 0 0) 0) 38) = W0 := ⟨_, rfl⟩
 have E0 : Ext w W0 := by rw [← hW0]; exact ((Ext.refl w).alloc _).alloc _
 have B0 : Blk W0 w.heap.size (wdCells p q r (.slice a len cap) (n : Nat)) 38 := by rw [← hW0]; exact (Blk.new w _ _ _ rfl).alloc _
 have N0 : Blk W0 (w.heap.size + 1) (wdCells noPg noPg noPg (.slice none 0 0) 0) 38 := by rw [← hW0]; exact Blk.new _ _ _ _ (by simp)
 have KC : Hid (∀ W', Gr (some (w.heap.size + 1)) W0 W' → ∀ o, W'.cell? ⟨w.heap.size, o, none⟩ = (wdCells p q r (.slice a len cap) (n : Nat))[o]?) := fun W' g => (B0.gr g (by simp)).cell
 have b0 := B0.cell
 go_enter Tryz.func12, Tryz.ntmps12
 go_wp2_with fail
 refine (HC _ E0).mono ?_
 rintro e w1 ⟨rfl, hw1⟩
 have D1 := Blk.new w1 w1.heap.size #[.int .i64 x0, .int .i64 x1, .int .i64 x2, .int .i64 x3, .int .i64 x4, .int .i64 x5, .int .i64 x6, .int .i64 x7, .int .i64 x8] 55 rfl
 have F1 := hw1.alloc (.cells #[.int .i64 x0, .int .i64 x1, .int .i64 x2, .int .i64 x3, .int .i64 x4, .int .i64 x5, .int .i64 x6, .int .i64 x7, .int .i64 x8] 55)
 have hl1 := hw1.size
 have hl0 := N0.lt
 go_wp2_with fail
 generalize hV0 : w1.alloc (.cells #[.int .i64 x0, .int .i64 x1, .int .i64 x2, .int .i64 x3, .int .i64 x4, .int .i64 x5, .int .i64 x6, .int .i64 x7, .int .i64 x8] 55) = V0 at *
 have KD : Hid (∀ W', Gr (some (w.heap.size + 1)) V0 W' → (∀ o, W'.cell? ⟨w.heap.size, o, none⟩ = (wdCells p q r (.slice a len cap) (n : Nat))[o]?) ∧ ∀ o, W'.cell? ⟨w1.heap.size, o, none⟩ = #[.int .i64 x0, .int .i64 x1, .int .i64 x2, .int .i64 x3, .int .i64 x4, .int .i64 x5, .int .i64 x6, .int .i64 x7, .int .i64 x8][o]?) := fun W' g => ⟨KC.out _ ((Gr.of_ext F1).trans g), (D1.gr g (by simp; omega)).cell⟩
 clear hW0 b0 hV0 HC
 have Ed := (Ext.refl V0).drew
 have Gd := Gr.of_ext (row := some (w.heap.size + 1)) Ed
 refine wp_region_held_drew (S := fun W' => (∀ o, W'.cell? ⟨w.heap.size, o, none⟩ = (wdCells p q r (.slice a len cap) (n : Nat))[o]?) ∧ ∀ o, W'.cell? ⟨w1.heap.size, o, none⟩ = #[.int .i64 x0, .int .i64 x1, .int .i64 x2, .int .i64 x3, .int .i64 x4, .int .i64 x5, .int .i64 x6, .int .i64 x7, .int .i64 x8][o]?) (by kernel_rfl) (KD.out _ Gd) (fun hHeld => ?_)
 refine tkn 0 rfl hHeld ?_
 simp only [Act.put]
 refine tkn 1 rfl hHeld ?_
 simp only [Act.put]
 refine tkn 3 rfl hHeld ?_
 simp only [Act.put]
 refine exn 2 rfl fun K hK => ?_
 go_simp
 refine (HL _).mono ?_
 rintro e w2 ⟨rfl, hw2⟩
 have E2 := Ed.trans hw2
 have G2 := Gr.of_ext (row := some (w.heap.size + 1)) E2
 go_wp2_with fail
 refine hK.out _ _ (KD.out _ G2) (fun hHeld => ?_)
 clear hK K
 have N2 := (N0.ext F1).ext E2
 have n_ := N2.cell
 have f_ := N2.fr
 refine exn 4 rfl fun K hK => ?_
 go_simp
 have G9 := G2.trans (putWd_gr w2 (w.heap.size + 1) p q r (.slice a len cap) (n : Nat))
 have E9 := putWd_ext ((E0.trans F1).trans E2) (w.heap.size + 1) (by omega) p q r (.slice a len cap) (n : Nat)
 have N9 := putWd_blk N2 p q r (.slice a len cap) (n : Nat)
 clear n_ f_
 have n_ := N9.cell
 refine hK.out _ _ (KD.out _ G9) (fun hHeld => ?_)
 clear hK K
 refine exn 5 rfl fun K hK => ?_
 go_simp
 refine hK.out _ _ (KD.out _ G9) (fun hHeld => ?_)
 clear hK K
 refine exn 6 rfl fun K hK => ?_
 go_simp
 refine hK.out _ _ (KD.out _ G9) (fun hHeld => ?_)
 clear hK K
 refine wpAnyH_done (by kernel_rfl) ?_ _
 go_wp2_with fail
 exact bodyPost_ret (v := .tuple #[.agg (wdCells p q r (.slice a len cap) (n : Nat)), tx t, .int .i64 0]) (by simp [results, Tryz.results12, go_sem, n_]) rfl ⟨rfl, E9⟩
theorem played_log (p q r : Pg) (a : Option Addr) (len cap : Nat) (safe : Int) (w : World) (n : Nat) (hn : safe = (n : Nat)) (hm : len ≤ 60) (hn6 : n ≤ 60) :
  Calls Tryz.prog 12 #[wdVal p q r (.slice a len cap) safe, tx sLog] w fun e w' => e = .returned (.tuple #[wdVal p q r (.slice a len cap) safe, tx (digitsR len ++ (32 :: digitsR n)), .int .i64 0]) ∧ Ext w w' := by
 subst hn
 have hd1 := digits_len len
 have hd2 := digits_len n
 have hs1 : ¬ 9223372036854775807 < (digitsR len).length + 1 := by omega
 have hs2 : ¬ 9223372036854775807 < (digitsR len).length + 1 + (digitsR n).length := by omega
 have HCat : Hid (((⟨(digitsR len).toArray⟩ : ByteArray) ++ ⟨#[32]⟩) ++ ⟨(digitsR n).toArray⟩ = ⟨(digitsR len ++ (32 :: digitsR n)).toArray⟩) := by show _ = _; rw [show (⟨#[32]⟩ : ByteArray) = ⟨[32].toArray⟩ from rfl, str_add, str_add, List.append_assoc]; rfl
 obtain ⟨W0, hW0⟩ : ∃ W0, (w.alloc (.cells (wdCells p q r (.slice a len cap) (n : Nat)) 38)).alloc (.cells (wdCells noPg noPg noPg (.slice none 0 0) 0) 38) = W0 := ⟨_, rfl⟩
 have E0 : Ext w W0 := by rw [← hW0]; exact ((Ext.refl w).alloc _).alloc _
 have B0 : Blk W0 w.heap.size (wdCells p q r (.slice a len cap) (n : Nat)) 38 := by rw [← hW0]; exact (Blk.new w _ _ _ rfl).alloc _
 have N0 : Blk W0 (w.heap.size + 1) (wdCells noPg noPg noPg (.slice none 0 0) 0) 38 := by rw [← hW0]; exact Blk.new _ _ _ _ (by simp)
 have KC : Hid (∀ W', Gr (some (w.heap.size + 1)) W0 W' → ∀ o, W'.cell? ⟨w.heap.size, o, none⟩ = (wdCells p q r (.slice a len cap) (n : Nat))[o]?) := fun W' g => (B0.gr g (by simp)).cell
 have b0 := B0.cell
 go_enter Tryz.func12, Tryz.ntmps12
 go_wp2_with fail
 clear hW0 b0
 have Ed := (Ext.refl W0).drew
 have Gd := Gr.of_ext (row := some (w.heap.size + 1)) Ed
 refine wp_region_held_drew (S := fun W' => ∀ o, W'.cell? ⟨w.heap.size, o, none⟩ = (wdCells p q r (.slice a len cap) (n : Nat))[o]?) (by kernel_rfl) (KC.out _ Gd) (fun hHeld => ?_)
 refine tkn 0 rfl hHeld ?_
 simp only [Act.put]
 refine tkn 1 rfl hHeld ?_
 simp only [Act.put]
 refine tkn 2 rfl hHeld ?_
 simp only [Act.put]
 refine tkn 6 rfl hHeld ?_
 simp only [Act.put]
 refine tkn 7 rfl hHeld ?_
 simp only [Act.put]
 refine exn 3 rfl fun K hK => ?_
 go_simp
 refine hK.out _ _ (KC.out _ Gd) (fun hHeld => ?_)
 clear hK K
 refine exn 4 rfl fun K hK => ?_
 go_simp
 refine (digits_any len (by omega) _).mono ?_
 rintro e w1 ⟨rfl, hw1⟩
 have E1 := Ed.trans hw1
 have G1 := Gr.of_ext (row := some (w.heap.size + 1)) E1
 go_wp2_with fail
 refine hK.out _ _ (KC.out _ G1) (fun hHeld => ?_)
 clear hK K
 refine tkn 5 rfl hHeld ?_
 simp only [Act.put]
 refine exn 8 rfl fun K hK => ?_
 go_simp
 refine (digits_any n (by omega) _).mono ?_
 rintro e w2 ⟨rfl, hw2⟩
 have E2 := E1.trans hw2
 have G2 := Gr.of_ext (row := some (w.heap.size + 1)) E2
 go_wp2_with fail
 refine hK.out _ _ (KC.out _ G2) (fun hHeld => ?_)
 clear hK K
 refine tkn 9 rfl hHeld ?_
 simp only [Act.put]
 have N2 := N0.ext E2
 have n_ := N2.cell
 have f_ := N2.fr
 refine exn 10 rfl fun K hK => ?_
 go_simp
 have G9 := G2.trans (putWd_gr w2 (w.heap.size + 1) p q r (.slice a len cap) (n : Nat))
 have E9 := putWd_ext (E0.trans E2) (w.heap.size + 1) (by omega) p q r (.slice a len cap) (n : Nat)
 have N9 := putWd_blk N2 p q r (.slice a len cap) (n : Nat)
 clear n_ f_
 have n_ := N9.cell
 refine hK.out _ _ (KC.out _ G9) (fun hHeld => ?_)
 clear hK K
 refine exn 11 rfl fun K hK => ?_
 go_simp
 refine hK.out _ _ (KC.out _ G9) (fun hHeld => ?_)
 clear hK K
 refine exn 12 rfl fun K hK => ?_
 go_simp
 refine hK.out _ _ (KC.out _ G9) (fun hHeld => ?_)
 clear hK K
 refine wpAnyH_done (by kernel_rfl) ?_ _
 go_wp2_with fail
 exact bodyPost_ret (v := .tuple #[.agg (wdCells p q r (.slice a len cap) (n : Nat)), .string (((⟨(digitsR len).toArray⟩ : ByteArray) ++ ⟨#[32]⟩) ++ ⟨(digitsR n).toArray⟩), .int .i64 0]) (by simp [results, Tryz.results12, go_sem, n_]) rfl ⟨by rw [HCat.out], E9⟩
theorem played_crash (p q r : Pg) (a : Option Addr) (len cap : Nat) (safe : Int) (w : World) (P Q R : Pg) (m : List Rc) (s x : Int) (n : Nat) (hn : n < 1000) (HM : ∀ W, Ext w W → Calls Tryz.prog 22 #[wdVal p q r (.slice a len cap) safe] W fun e w' => Ext W w' ∧ ∃ a' cap', e = .returned (.tuple #[wdVal P Q R (.slice a' m.length cap') s, .int .i64 (n : Nat), .int .i64 x]) ∧ LogIn w' a' m.length cap' m ∧ ∀ ad, a' = some ad → W.heap.size ≤ ad.block) :
  Calls Tryz.prog 12 #[wdVal p q r (.slice a len cap) safe, tx sCrash] w fun e w' => Ext w w' ∧ ∃ a' cap', e = .returned (.tuple #[wdVal P Q R (.slice a' m.length cap') s, tx (digitsR n), .int .i64 x]) ∧ LogIn w' a' m.length cap' m ∧ ∀ ad, a' = some ad → w.heap.size ≤ ad.block := by
 obtain ⟨W0, hW0⟩ : ∃ W0, (w.alloc (.cells (wdCells p q r (.slice a len cap) safe) 38)).alloc (.cells (wdCells noPg noPg noPg (.slice none 0 0) 0) 38) = W0 := ⟨_, rfl⟩
 have E0 : Ext w W0 := by rw [← hW0]; exact ((Ext.refl w).alloc _).alloc _
 have B0 : Blk W0 w.heap.size (wdCells p q r (.slice a len cap) safe) 38 := by rw [← hW0]; exact (Blk.new w _ _ _ rfl).alloc _
 have N0 : Blk W0 (w.heap.size + 1) (wdCells noPg noPg noPg (.slice none 0 0) 0) 38 := by rw [← hW0]; exact Blk.new _ _ _ _ (by simp)
 have KC : Hid (∀ W', Gr (some (w.heap.size + 1)) W0 W' → ∀ o, W'.cell? ⟨w.heap.size, o, none⟩ = (wdCells p q r (.slice a len cap) safe)[o]?) := fun W' g => (B0.gr g (by simp)).cell
 have b0 := B0.cell
 go_enter Tryz.func12, Tryz.ntmps12
 go_wp2_with fail
 refine (HM _ E0).mono ?_
 rintro e w1 ⟨hw1, a', cap', rfl, L1, hf⟩
 have D1 := Blk.new w1 w1.heap.size (wdCells P Q R (.slice a' m.length cap') s) 38 rfl
 have F1 := hw1.alloc (.cells (wdCells P Q R (.slice a' m.length cap') s) 38)
 have hl1 := hw1.size
 have hl0 := N0.lt
 have HL1 := (show Hid (LogIn w1 a' m.length cap' m) from L1)
 have HF : Hid (∀ ad, a' = some ad → w.heap.size ≤ ad.block ∧ ad.block ≠ w.heap.size + 1) := fun ad e => by have := hf ad e; exact ⟨by omega, by omega⟩
 clear L1 hf
 go_wp2_with fail
 have HX := (Ext.refl w1).alloc (.cells (wdCells P Q R (.slice a' m.length cap') s) 38)
 generalize hV0 : w1.alloc (.cells (wdCells P Q R (.slice a' m.length cap') s) 38) = V0 at *
 have KD : Hid (∀ W', Gr (some (w.heap.size + 1)) V0 W' → ∀ o, W'.cell? ⟨w1.heap.size, o, none⟩ = (wdCells P Q R (.slice a' m.length cap') s)[o]?) := fun W' g => (D1.gr g (by simp; omega)).cell
 have HL2 := (show Hid (LogIn V0 a' m.length cap' m) from HL1.out.ext HX)
 clear hW0 b0 hV0 HM HL1 HX KC
 have Ed := (Ext.refl V0).drew
 have Gd := Gr.of_ext (row := some (w.heap.size + 1)) Ed
 refine wp_region_held_drew (S := fun W' => ∀ o, W'.cell? ⟨w1.heap.size, o, none⟩ = (wdCells P Q R (.slice a' m.length cap') s)[o]?) (by kernel_rfl) (KD.out _ Gd) (fun hHeld => ?_)
 refine tkn 0 rfl hHeld ?_
 simp only [Act.put]
 refine tkn 1 rfl hHeld ?_
 simp only [Act.put]
 refine tkn 3 rfl hHeld ?_
 simp only [Act.put]
 refine exn 2 rfl fun K hK => ?_
 go_simp
 refine (digits_any n (by omega) _).mono ?_
 rintro e w2 ⟨rfl, hw2⟩
 have E2 := Ed.trans hw2
 have G2 := Gr.of_ext (row := some (w.heap.size + 1)) E2
 go_wp2_with fail
 refine hK.out _ _ (KD.out _ G2) (fun hHeld => ?_)
 clear hK K
 have N2 := (N0.ext F1).ext E2
 have n_ := N2.cell
 have f_ := N2.fr
 refine exn 4 rfl fun K hK => ?_
 go_simp
 have G9 := G2.trans (putWd_gr w2 (w.heap.size + 1) P Q R (.slice a' m.length cap') s)
 have E9 := putWd_ext ((E0.trans F1).trans E2) (w.heap.size + 1) (by omega) P Q R (.slice a' m.length cap') s
 have N9 := putWd_blk N2 P Q R (.slice a' m.length cap') s
 clear n_ f_
 have n_ := N9.cell
 refine hK.out _ _ (KD.out _ G9) (fun hHeld => ?_)
 clear hK K
 refine exn 5 rfl fun K hK => ?_
 go_simp
 refine hK.out _ _ (KD.out _ G9) (fun hHeld => ?_)
 clear hK K
 refine exn 6 rfl fun K hK => ?_
 go_simp
 refine hK.out _ _ (KD.out _ G9) (fun hHeld => ?_)
 clear hK K
 refine wpAnyH_done (by kernel_rfl) ?_ _
 go_wp2_with fail
 exact bodyPost_ret (v := .tuple #[.agg (wdCells P Q R (.slice a' m.length cap') s), tx (digitsR n), .int .i64 x]) (by simp [results, Tryz.results12, go_sem, n_]) rfl ⟨E9, a', cap', rfl, HL2.out.gr G9 (fun ad e e2 => (HF.out ad e).2 (by injection e2)), fun ad e => (HF.out ad e).1⟩
theorem own_txts {w : World} {base n : Nat} {v : Value} {xs : List (List UInt8)} (h : w.ownsRow base 9 1 v n (tvs xs)) (hn : 0 < n) : ∃ g cap, v = .slice (some ⟨g, 0, none⟩) n cap ∧ Txts w g xs := by
 rcases h.2 with ⟨_, h0⟩ | ⟨g, cap, cur, rfl, hg, hb, hc, hm, hs, ht⟩
 ·omega
 ·exact ⟨g, cap, rfl, fun i hi => own_cell hb ht (by simp [tvs, hi])⟩
theorem ivs_len (ns : List Int) (v : Value) : (ivs ns ++ [v])[ns.length]? = some v := by
 have : ns.length = (ivs ns).length := by simp [ivs]
 rw [this, List.getElem?_append_right (Nat.le_refl _), Nat.sub_self]
 rfl
theorem own_last {w : World} {base n g cap i : Nat} {xs : List Value} {v : Value} (h : w.ownsRow base 3 1 (.slice (some ⟨g, 0, none⟩) n cap) n xs) (hi : xs[i]? = some v) : w.cell? ⟨g, i, none⟩ = some v := by
 rcases h.2 with ⟨h0, _⟩ | ⟨g', cap', cur, e, hg, hb, hc, hm, hs, ht⟩
 ·cases h0
 ·injection e with e1
  injection e1 with e1
  injection e1 with e1
  subst e1
  exact own_cell hb ht hi
theorem played_form (p q r : Pg) (a : Option Addr) (len cap : Nat) (safe : Int) (w : World) (s : List UInt8) (x : List UInt8) (ws : List (List UInt8)) (hs : s.length ≤ 4096) (hw : wordsR s = x :: ws) (hwl : ∀ v ∈ ws, v.length ≤ 4096) (hwn : ws.length ≤ 4096) (c0 : s ≠ sCrash) (c1 : s ≠ sNow) (c2 : s ≠ sDisk) (c3 : s ≠ sMust) (c4 : s ≠ sLog) (hf : numsB ws = true → (x = sWrite → ¬ ws.length = 4) ∧ (x = sCommit → ¬ ws.length = 1) ∧ (x = sAbort → ¬ ws.length = 1) ∧ (x = sSync → ¬ ws.length = 1) ∧ (x = sFlush → ¬ ws.length = 1) ∧ (x = sState → ¬ ws.length = 1)) :
  Calls Tryz.prog 12 #[wdVal p q r (.slice a len cap) safe, tx s] w fun e w' => e = .returned (.tuple #[wdVal p q r (.slice a len cap) safe, tx [], .int .i64 1]) ∧ Ext w w' := by
 obtain ⟨W0, hW0⟩ : ∃ W0, (w.alloc (.cells (wdCells p q r (.slice a len cap) safe) 38)).alloc (.cells (wdCells noPg noPg noPg (.slice none 0 0) 0) 38) = W0 := ⟨_, rfl⟩
 have E0 : Ext w W0 := by rw [← hW0]; exact ((Ext.refl w).alloc _).alloc _
 have B0 : Blk W0 w.heap.size (wdCells p q r (.slice a len cap) safe) 38 := by rw [← hW0]; exact (Blk.new w _ _ _ rfl).alloc _
 have N0 : Blk W0 (w.heap.size + 1) (wdCells noPg noPg noPg (.slice none 0 0) 0) 38 := by rw [← hW0]; exact Blk.new _ _ _ _ (by simp)
 have KC : Hid (∀ W', Gr (some (w.heap.size + 1)) W0 W' → ∀ o, W'.cell? ⟨w.heap.size, o, none⟩ = (wdCells p q r (.slice a len cap) safe)[o]?) := fun W' g => (B0.gr g (by simp)).cell
 have b0 := B0.cell
 have d0 : (s == [99, 114, 97, 115, 104]) = false := beq_eq_false_iff_ne.2 c0
 have d1 : (s == [110, 111, 119]) = false := beq_eq_false_iff_ne.2 c1
 have d2 : (s == [100, 105, 115, 107]) = false := beq_eq_false_iff_ne.2 c2
 have d3 : (s == [109, 117, 115, 116]) = false := beq_eq_false_iff_ne.2 c3
 have d4 : (s == [108, 111, 103]) = false := beq_eq_false_iff_ne.2 c4
 clear c0 c1 c2 c3 c4
 have HS := split_any s hs W0
 rw [hw] at HS
 obtain ⟨i0, hi, hz0, hz1, hz2⟩ := info_parts infoInt
 have HI := (show Hid _ from hi)
 have Z0 := (show Hid _ from hz0)
 have Z1 := (show Hid _ from hz1)
 have Z2 := (show Hid _ from hz2)
 clear hi hz0 hz1 hz2 hw
 have HS' := fun (_ : True) => HS
 clear HS
 have HF := (show Hid _ from hf)
 clear hf
 go_enter Tryz.func12, Tryz.ntmps12
 go_wp2_with fail
 refine (HS' trivial).mono ?_
 rintro e w1 ⟨hw1, v, rfl, hv⟩
 obtain ⟨g0, gc, rfl, T1⟩ := own_txts hv (by simp)
 clear hW0 b0 hv HS'
 simp only [List.length_cons]
 have hE0 := E0.trans hw1
 have hsz1 := hw1.size
 have hsz0 := N0.lt
 go_wp2_with fail
 go_loopw [13, 14] (fun v i wr => ∃ k : Nat, k ≤ ws.length ∧ i = .int .i64 ((k : Int) + 1) ∧ Ext w1 wr ∧ wr.ownsRow w1.heap.size 3 1 v k (ivs ((ws.take k).map numR)) ∧ Hid (numsB (ws.take k) = true)) (fun _ i _ => ws.length + 1 - (intOf i).toNat)
 case atStart => exact ⟨0, Nat.zero_le _, rfl, Ext.refl w1, World.ownsRow_nil _ _ _ _, rfl⟩
 case round =>
  obtain ⟨k2, hk2, rfl, hE, hown, HN⟩ := hrel
  obtain ⟨sa, sm, sc, rfl⟩ := own_slice hown
  obtain rfl := own_len hown
  by_cases hlt : sm < ws.length
  ·have hc : wr.cell? ⟨g0, sm + 1, none⟩ = some (tx ws[sm]) := hE.cell (T1 (sm + 1) (by simp; omega))
   have hlti : (sm : Int) < (ws.length : Int) := by omega
   have HT1 := (show Hid ((ws.take (sm + 1)).map numR = (ws.take sm).map numR ++ [numR ws[sm]]) from numL_take hlt)
   have HO := (show Hid (wr.ownsRow w1.heap.size 3 1 (.slice sa sm sc) sm (ivs ((ws.take sm).map numR))) from hown)
   have hws := hE.size
   have HNm := fun W' => num_any ws[sm] (Nat.le_trans (hwl _ (List.getElem_mem hlt)) (by decide)) W'
   clear hown
   by_cases hnum : 0 ≤ numR ws[sm]
   ·have hnn : ¬ numR ws[sm] < 0 := by omega
    have HN2 : Hid (numsB (ws.take (sm + 1)) = true) := numsB_take hlt HN.out hnum
    generalize ws[sm] = wd at *
    generalize numR wd = nv at *
    go_wp2_with fail
    refine (HNm _).mono ?_
    rintro e w3 ⟨rfl, hw3⟩
    have hE3 := hE.trans hw3
    have HO3 := (show Hid (w3.ownsRow w1.heap.size 3 1 (.slice sa sm sc) sm (ivs ((ws.take sm).map numR))) from own_ext HO.out hw3)
    have hws3 := hw3.size
    go_wp2_with (at_builtin; refine wpList_append_lies _ rfl _ _ 61 rfl w1.heap.size 3 i0 (.int .i64 0) 1 8 Tryz.underlying61 HI.out Z0.out Z1.out Z2.out rfl (by decide) (.slice sa sm sc) sm (ivs ((ws.take sm).map numR)) rfl (own_ext HO3.out ((Ext.refl w3).alloc _)) ⟨w3.heap.size, 0, none⟩ 1 1 [.int .i64 nv] rfl rfl (cells_new _ [.int .i64 nv] _ _ rfl) (fun x hx => by simp at hx; subst hx; rfl) (by decide) (by unfold maxLen; omega) (by omega) (by simp; omega) _ rfl ?_; intro g cap' w4 hown' hgrow hg hgl; have hcn : w4.cell? ⟨g, sm, none⟩ = some (.int .i64 nv) := own_last hown' (by have := ivs_len ((ws.take sm).map numR) (.int .i64 nv); rwa [List.length_map, List.length_take, Nat.min_eq_left (by omega)] at this))
    have hE4 : Ext w1 w4 := (hE3.alloc _).grown (own_ext HO3.out ((Ext.refl w3).alloc _)) hgrow
    go_wp2_with fail
    refine ⟨⟨sm + 1, by omega, by go_num, hE4, ?_, HN2⟩, by simp [intOf]; omega⟩
    rw [HT1.out, ivs_snoc]
    exact hown'
   ·have hnn : numR ws[sm] < 0 := by omega
    generalize ws[sm] = wd at *
    generalize numR wd = nv at *
    go_wp2_with fail
    refine (HNm _).mono ?_
    rintro e w3 ⟨rfl, hw3⟩
    have hE3 := hE.trans hw3
    have HO3 := (show Hid (w3.ownsRow w1.heap.size 3 1 (.slice sa sm sc) sm (ivs ((ws.take sm).map numR))) from own_ext HO.out hw3)
    have hws3 := hw3.size
    go_wp2_with (at_builtin; refine wpList_append_lies _ rfl _ _ 61 rfl w1.heap.size 3 i0 (.int .i64 0) 1 8 Tryz.underlying61 HI.out Z0.out Z1.out Z2.out rfl (by decide) (.slice sa sm sc) sm (ivs ((ws.take sm).map numR)) rfl (own_ext HO3.out ((Ext.refl w3).alloc _)) ⟨w3.heap.size, 0, none⟩ 1 1 [.int .i64 nv] rfl rfl (cells_new _ [.int .i64 nv] _ _ rfl) (fun x hx => by simp at hx; subst hx; rfl) (by decide) (by unfold maxLen; omega) (by omega) (by simp; omega) _ rfl ?_; intro g cap' w4 hown' hgrow hg hgl; have hcn : w4.cell? ⟨g, sm, none⟩ = some (.int .i64 nv) := own_last hown' (by have := ivs_len ((ws.take sm).map numR) (.int .i64 nv); rwa [List.length_map, List.length_take, Nat.min_eq_left (by omega)] at this); have hE4 : Ext w1 w4 := (hE3.alloc _).grown (own_ext HO3.out ((Ext.refl w3).alloc _)) hgrow; have b4 := (B0.ext (hw1.trans hE4)).cell; have N4 := N0.ext (hw1.trans hE4); have n4 := N4.cell; have f4 := N4.fr)
    have E9 := putWd_ext (E0.trans (hw1.trans hE4)) (w.heap.size + 1) (by omega) p q r (.slice a len cap) safe
    have n9 := (putWd_blk N4 p q r (.slice a len cap) safe).cell
    go_wp2_with fail
    exact bodyPost_ret (v := .tuple #[.agg (wdCells p q r (.slice a len cap) safe), tx [], .int .i64 1]) (by simp [results, Tryz.results12, go_sem, n9]) rfl ⟨rfl, E9⟩
  ·obtain rfl : sm = ws.length := by omega
   rw [List.take_length] at hown HN
   have hE2 := hw1.trans hE
   have T2 : wr.cell? ⟨g0, 0, none⟩ = some (tx x) := hE.cell (T1 0 (by simp))
   have b2 := (B0.ext hE2).cell
   have N2 := N0.ext hE2
   have n2 := N2.cell
   have f2 := N2.fr
   have HF2 := (show Hid _ from HF.out HN.out)
   clear hown T1
   by_cases h0 : x = sWrite
   ·subst h0
    have hl : ¬ ws.length = 4 := HF2.out.1 rfl
    have hl2 : ¬ ((ws.length : Nat) : Int) = 4 := by omega
    unfold sWrite at T2
    have E9 := putWd_ext (E0.trans hE2) (w.heap.size + 1) (by omega) p q r (.slice a len cap) safe
    have n9 := (putWd_blk N2 p q r (.slice a len cap) safe).cell
    go_wp2_with fail
    exact bodyPost_ret (v := .tuple #[.agg (wdCells p q r (.slice a len cap) safe), tx [], .int .i64 1]) (by simp [results, Tryz.results12, go_sem, n9]) rfl ⟨rfl, E9⟩
   by_cases h1 : x = sCommit
   ·subst h1
    have hl : ¬ ws.length = 1 := HF2.out.2.1 rfl
    have hl2 : ¬ ((ws.length : Nat) : Int) = 1 := by omega
    unfold sCommit at T2
    have E9 := putWd_ext (E0.trans hE2) (w.heap.size + 1) (by omega) p q r (.slice a len cap) safe
    have n9 := (putWd_blk N2 p q r (.slice a len cap) safe).cell
    go_wp2_with fail
    exact bodyPost_ret (v := .tuple #[.agg (wdCells p q r (.slice a len cap) safe), tx [], .int .i64 1]) (by simp [results, Tryz.results12, go_sem, n9]) rfl ⟨rfl, E9⟩
   by_cases h2 : x = sAbort
   ·subst h2
    have hl : ¬ ws.length = 1 := HF2.out.2.2.1 rfl
    have hl2 : ¬ ((ws.length : Nat) : Int) = 1 := by omega
    unfold sAbort at T2
    have E9 := putWd_ext (E0.trans hE2) (w.heap.size + 1) (by omega) p q r (.slice a len cap) safe
    have n9 := (putWd_blk N2 p q r (.slice a len cap) safe).cell
    go_wp2_with fail
    exact bodyPost_ret (v := .tuple #[.agg (wdCells p q r (.slice a len cap) safe), tx [], .int .i64 1]) (by simp [results, Tryz.results12, go_sem, n9]) rfl ⟨rfl, E9⟩
   by_cases h3 : x = sSync
   ·subst h3
    have hl : ¬ ws.length = 1 := HF2.out.2.2.2.1 rfl
    have hl2 : ¬ ((ws.length : Nat) : Int) = 1 := by omega
    unfold sSync at T2
    have E9 := putWd_ext (E0.trans hE2) (w.heap.size + 1) (by omega) p q r (.slice a len cap) safe
    have n9 := (putWd_blk N2 p q r (.slice a len cap) safe).cell
    go_wp2_with fail
    exact bodyPost_ret (v := .tuple #[.agg (wdCells p q r (.slice a len cap) safe), tx [], .int .i64 1]) (by simp [results, Tryz.results12, go_sem, n9]) rfl ⟨rfl, E9⟩
   by_cases h4 : x = sFlush
   ·subst h4
    have hl : ¬ ws.length = 1 := HF2.out.2.2.2.2.1 rfl
    have hl2 : ¬ ((ws.length : Nat) : Int) = 1 := by omega
    unfold sFlush at T2
    have E9 := putWd_ext (E0.trans hE2) (w.heap.size + 1) (by omega) p q r (.slice a len cap) safe
    have n9 := (putWd_blk N2 p q r (.slice a len cap) safe).cell
    go_wp2_with fail
    exact bodyPost_ret (v := .tuple #[.agg (wdCells p q r (.slice a len cap) safe), tx [], .int .i64 1]) (by simp [results, Tryz.results12, go_sem, n9]) rfl ⟨rfl, E9⟩
   by_cases h5 : x = sState
   ·subst h5
    have hl : ¬ ws.length = 1 := HF2.out.2.2.2.2.2 rfl
    have hl2 : ¬ ((ws.length : Nat) : Int) = 1 := by omega
    unfold sState at T2
    have E9 := putWd_ext (E0.trans hE2) (w.heap.size + 1) (by omega) p q r (.slice a len cap) safe
    have n9 := (putWd_blk N2 p q r (.slice a len cap) safe).cell
    go_wp2_with fail
    exact bodyPost_ret (v := .tuple #[.agg (wdCells p q r (.slice a len cap) safe), tx [], .int .i64 1]) (by simp [results, Tryz.results12, go_sem, n9]) rfl ⟨rfl, E9⟩
   have e0 : (x == [119, 114, 105, 116, 101]) = false := beq_eq_false_iff_ne.2 h0
   have e1 : (x == [99, 111, 109, 109, 105, 116]) = false := beq_eq_false_iff_ne.2 h1
   have e2 : (x == [97, 98, 111, 114, 116]) = false := beq_eq_false_iff_ne.2 h2
   have e3 : (x == [115, 121, 110, 99]) = false := beq_eq_false_iff_ne.2 h3
   have e4 : (x == [102, 108, 117, 115, 104]) = false := beq_eq_false_iff_ne.2 h4
   have e5 : (x == [115, 116, 97, 116, 101]) = false := beq_eq_false_iff_ne.2 h5
   have E9 := putWd_ext (E0.trans hE2) (w.heap.size + 1) (by omega) p q r (.slice a len cap) safe
   have n9 := (putWd_blk N2 p q r (.slice a len cap) safe).cell
   go_wp2_with fail
   exact bodyPost_ret (v := .tuple #[.agg (wdCells p q r (.slice a len cap) safe), tx [], .int .i64 1]) (by simp [results, Tryz.results12, go_sem, n9]) rfl ⟨rfl, E9⟩
end Go.Proofs.YtibfgbmhmdggmaaGreatDoor.B
