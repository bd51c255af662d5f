/- The contracts of the reference's SameLogs and SameWorlds at worlds that are the same, of world.Begin and of the laws' lab; worldBegun answers true. -/
import Derived.Test.YtgojonhjhdbpkaaDesk3
import Derived.Test.YtgojonhjhdbpkaaLogL2
namespace Go.Proofs.Ytgojonhjhdbpkaa.B
set_option maxRecDepth 100000
open Go.ChangeShapes Go.WideShapes Go.ChangeAt Go.RowKit

theorem eqRc_refl (r : Rc) : eqRc r r = true := (eqRc_iff r r).2 rfl
set_option maxHeartbeats 1000000 in
theorem sameLogs_eq (a b : Option Addr) (len cap cap' : Nat) (l : List Rc) (w : World) (h : Recs w a len l) (h' : Recs w b len l) (hl : len ≤ 1000) :
    Calls Try.prog 66 #[.slice a len cap, .slice b len cap'] w fun e w' => e = .returned (.bool true) ∧ Ext w w' := by
  go_enter Try.func66, Try.ntmps66
  go_wp2_with fail
  go_loopw [5] (fun i wr => ∃ k : Nat, k ≤ len ∧ i = .int .i64 k ∧ Ext w wr) (fun i _ => len - (intOf i).toNat)
  case atStart => exact ⟨0, Nat.zero_le _, rfl, Ext.refl w⟩
  case round =>
    obtain ⟨k, hk, rfl, hE⟩ := hrel
    by_cases hlt : k < len
    · obtain ⟨b1, o1, rfl, hkl, c0, c1, c2, c3, c4, c5, c6, c7⟩ := (h.ext hE).at hlt
      obtain ⟨b2, o2, rfl, hkl2, d0, d1, d2, d3, d4, d5, d6, d7⟩ := (h'.ext hE).at hlt
      have e1 := neq_rec l[k] l[k]
      rw [eqRc_refl] at e1
      generalize l[k] = x at *
      go_wp2_with fail
      go_quiet (fail)
      go_wp2_with fail
      go_roundw
      case rel => exact ⟨k + 1, by omega, by go_num, hE.drewN _⟩
      case measure => simp [intOf]; omega
    · go_wp2_with fail
      go_ret
      exact ⟨rfl, hE⟩
theorem eqn_pages (p q r : Pg) : ∀ w, (Op.equalIn 10000 30 (val3 p q r) (val3 p q r)).run Try.prog w = .ok true w := fun w => by
  have := eq_pages 9996 w p q r p q r
  rw [eqPg_refl, eqPg_refl, eqPg_refl] at this
  exact this
set_option maxHeartbeats 1000000 in
theorem sameWorlds_eq (p q r : Pg) (safe : Int) (a b : Option Addr) (len cap cap' : Nat) (l : List Rc) (w : World) (h : Recs w a len l) (h' : Recs w b len l) (hl : len ≤ 1000) :
    Calls Try.prog 40 #[wdVal p q r (.slice a len cap) safe, wdVal p q r (.slice b len cap') safe] w fun e w' => e = .returned (.bool true) ∧ Ext w w' := by
  have E0 := ((Ext.refl w).alloc (.cells (wdCells p q r (.slice a len cap) safe) 51)).alloc (.cells (wdCells p q r (.slice b len cap') safe) 51)
  have A := ((Blk.new w w.heap.size (wdCells p q r (.slice a len cap) safe) 51 rfl).alloc (.cells (wdCells p q r (.slice b len cap') safe) 51)).cell
  have B := (Blk.new (w.alloc (.cells (wdCells p q r (.slice a len cap) safe) 51)) (w.heap.size + 1) (wdCells p q r (.slice b len cap') safe) 51 (by simp)).cell
  have e1 := eqn_pages p q r
  go_enter Try.func40, Try.ntmps40
  go_wp2_with fail
  refine (sameLogs_eq a b len cap cap' l _ (h.ext E0) (h'.ext E0) hl).mono ?_
  rintro e w1 ⟨rfl, hw⟩
  go_wp2_with fail
  go_ret
  exact ⟨rfl, E0.trans hw⟩
abbrev zPg : Pg := ⟨0, 0, 0, 0⟩
set_option maxHeartbeats 1000000 in
theorem begin_any (w : World) : Calls Try.prog 57 #[] w fun e w' => e = .returned (wdVal zPg zPg zPg (.slice none 0 0) 0) ∧ Ext w w' := by
  have Z := Blk.new w w.heap.size (wdCells zPg zPg zPg (.slice none 0 0) 0) 51 rfl
  have c0 := Z.cell
  have f0 := Z.fr
  have E1 := (Ext.refl w).alloc (.cells (wdCells zPg zPg zPg (.slice none 0 0) 0) 51)
  go_enter Try.func57, Try.ntmps57
  go_wp2_with fail
  refine bodyPost_ret (v := .agg (wdCells zPg zPg zPg (.slice none 0 0) 0)) (by simp [results, Try.results57, go_sem, c0]) rfl ⟨rfl, ?_⟩
  exact E1
set_option maxHeartbeats 2000000 in
theorem lab_any (w : World) : Calls Try.prog 56 #[] w fun e w' => ∃ b, e = .returned (wdVal zPg ⟨0, 6, 0, 2⟩ zPg (.slice (some ⟨b, 0, none⟩) 9 9) 6) ∧ Ext w w' ∧ w.heap.size ≤ b ∧ Blk w' b (flat someL).toArray 39 := by
  have Z := Blk.new w w.heap.size (wdCells zPg zPg zPg (.slice none 0 0) 0) 51 rfl
  have E1 := (Ext.refl w).alloc (.cells (wdCells zPg zPg zPg (.slice none 0 0) 0) 51)
  go_enter Try.func56, Try.ntmps56
  go_wp2_with fail
  refine (some_any _).mono ?_
  rintro e w1 ⟨b, rfl, hw, hb, B⟩
  have Z1 := (Z.ext hw).alloc (.cells (wdCells zPg ⟨0, 6, 0, 2⟩ zPg (.slice (some ⟨b, 0, none⟩) 9 9) 6) 51)
  have E2 := (E1.trans hw).alloc (.cells (wdCells zPg ⟨0, 6, 0, 2⟩ zPg (.slice (some ⟨b, 0, none⟩) 9 9) 6) 51)
  have B1 := B.alloc (.cells (wdCells zPg ⟨0, 6, 0, 2⟩ zPg (.slice (some ⟨b, 0, none⟩) 9 9) 6) 51)
  have hbz : b ≠ w.heap.size := by simp at hb; omega
  have c0 := Z1.cell
  have f0 := Z1.fr
  clear Z
  go_wp2_with fail
  refine bodyPost_ret (v := .agg (wdCells zPg ⟨0, 6, 0, 2⟩ zPg (.slice (some ⟨b, 0, none⟩) 9 9) 6)) (by simp [results, Try.results56, go_sem, c0]) rfl ⟨b, rfl, ?_, by simp at hb; omega, ?_⟩
  · exact ((((((((((((((E2.setCell (by simp) _).setCell (by simp) _).setCell (by simp) _).setCell (by simp) _).setCell (by simp) _).setCell (by simp) _).setCell (by simp) _).setCell (by simp) _).setCell (by simp) _).setCell (by simp) _).setCell (by simp) _).setCell (by simp) _).setCell (by simp) _).setCell (by simp) _)
  · exact ((((((((((((((B1.other _ _ hbz).other _ _ hbz).other _ _ hbz).other _ _ hbz).other _ _ hbz).other _ _ hbz).other _ _ hbz).other _ _ hbz).other _ _ hbz).other _ _ hbz).other _ _ hbz).other _ _ hbz).other _ _ hbz).other _ _ hbz)
theorem lab_err : worldErr zPg ⟨0, 6, 0, 2⟩ zPg someL 6 = 0 := by decide +kernel
theorem lab_now : nowOr zPg ⟨0, 6, 0, 2⟩ zPg someL 6 = [8, 0, 0, 9, 0, 6, 0, 2, 0, 0, 0, 0] := by decide +kernel
theorem labX_err : worldErr zPg ⟨1, 6, 0, 2⟩ zPg someL 6 = 1 := by decide +kernel
theorem labY_err : worldErr ⟨8, 0, 0, 9⟩ ⟨0, 6, 0, 2⟩ zPg someL 6 = 1 := by decide +kernel
theorem labZ_err : worldErr zPg ⟨0, 6, 0, 2⟩ zPg someL 10 = 3 := by decide +kernel
theorem begin_err : worldErr zPg zPg zPg [] 0 = 0 := by decide +kernel
theorem recs_none (w : World) : Recs w none 0 [] := ⟨rfl, Or.inl ⟨rfl, rfl⟩⟩
set_option maxHeartbeats 8000000 in
theorem worldBegun_any (w : World) :
    Calls Try.prog 34 #[] w fun e w' => e = .returned (.bool true) ∧ Ext w w' := by
  go_enter Try.func34, Try.ntmps34
  have E0 := Ext.refl w
  go_wp2_with fail
  refine (lab_any _).mono ?_
  rintro e w1 ⟨b0, rfl, hw, hb0, B0⟩
  have E1 := E0.trans hw
  clear hw E0
  go_wp2_with fail
  refine (now_any zPg ⟨0, 6, 0, 2⟩ zPg (some ⟨b0, 0, none⟩) 9 9 someL 6 _ (recs_blk B0) (by simp) (by decide)).mono ?_
  rintro e w2 ⟨rfl, hw⟩
  rw [lab_err, lab_now, show ints [8, 0, 0, 9, 0, 6, 0, 2, 0, 0, 0, 0] = #[.int .i64 8, .int .i64 0, .int .i64 0, .int .i64 9, .int .i64 0, .int .i64 6, .int .i64 0, .int .i64 2, .int .i64 0, .int .i64 0, .int .i64 0, .int .i64 0] from rfl]
  have P := Blk.new w2 w2.heap.size #[.int .i64 8, .int .i64 0, .int .i64 0, .int .i64 9, .int .i64 0, .int .i64 6, .int .i64 0, .int .i64 2, .int .i64 0, .int .i64 0, .int .i64 0, .int .i64 0] 30 rfl
  have E2 := (E1.trans hw).alloc (.cells #[.int .i64 8, .int .i64 0, .int .i64 0, .int .i64 9, .int .i64 0, .int .i64 6, .int .i64 0, .int .i64 2, .int .i64 0, .int .i64 0, .int .i64 0, .int .i64 0] 30)
  clear hw E1 B0 hb0
  go_wp2_with fail
  refine (lab_any _).mono ?_
  rintro e w3 ⟨b1, rfl, hw, hb1, B1⟩
  have X := Blk.new w3 w3.heap.size (wdCells zPg ⟨1, 6, 0, 2⟩ zPg (.slice (some ⟨b1, 0, none⟩) 9 9) 6) 51 rfl
  replace P := (P.ext hw).alloc (.cells (wdCells zPg ⟨1, 6, 0, 2⟩ zPg (.slice (some ⟨b1, 0, none⟩) 9 9) 6) 51)
  replace B1 := B1.alloc (.cells (wdCells zPg ⟨1, 6, 0, 2⟩ zPg (.slice (some ⟨b1, 0, none⟩) 9 9) 6) 51)
  have E3 := (E2.trans hw).alloc (.cells (wdCells zPg ⟨1, 6, 0, 2⟩ zPg (.slice (some ⟨b1, 0, none⟩) 9 9) 6) 51)
  clear hw E2 hb1
  go_wp2_with fail
  refine (lab_any _).mono ?_
  rintro e w4 ⟨b2, rfl, hw, hb2, B2⟩
  replace X := X.ext hw
  replace P := P.ext hw
  replace B1 := B1.ext hw
  have E4 := E3.trans hw
  clear hw E3 hb2
  have p4 := P.cell
  have pl := P.lt
  have hp4 := (P.alloc (.cells (wdCells zPg ⟨0, 6, 0, 2⟩ zPg (.slice (some ⟨b2, 0, none⟩) 9 9) 6) 51)).cell
  go_wp2_with fail
  refine (lab_any _).mono ?_
  rintro e w5 ⟨b3, rfl, hw, hb3, B3⟩
  have Y := (Blk.new w4 w4.heap.size (wdCells ⟨8, 0, 0, 9⟩ ⟨0, 6, 0, 2⟩ zPg (.slice (some ⟨b2, 0, none⟩) 9 9) 6) 51 rfl).ext hw
  have hx4 := ((Ext.refl w4).alloc (.cells (wdCells ⟨8, 0, 0, 9⟩ ⟨0, 6, 0, 2⟩ zPg (.slice (some ⟨b2, 0, none⟩) 9 9) 6) 51)).trans hw
  replace X := X.ext hx4
  replace P := P.ext hx4
  replace B1 := B1.ext hx4
  replace B2 := B2.ext hx4
  have E5 := E4.trans hx4
  clear hw hx4 E4 hb3 p4 pl hp4
  have hx5 := (Ext.refl w5).alloc (.cells (wdCells zPg ⟨0, 6, 0, 2⟩ zPg (.slice (some ⟨b3, 0, none⟩) 9 9) 10) 51)
  have Z := Blk.new w5 w5.heap.size (wdCells zPg ⟨0, 6, 0, 2⟩ zPg (.slice (some ⟨b3, 0, none⟩) 9 9) 10) 51 rfl
  replace X := X.ext hx5
  replace P := P.ext hx5
  replace Y := Y.ext hx5
  replace B1 := B1.ext hx5
  replace B2 := B2.ext hx5
  replace B3 := B3.ext hx5
  have E6 := E5.trans hx5
  clear hx5 E5
  go_wp2_with fail
  refine (begin_any _).mono ?_
  rintro e v1 ⟨rfl, hw⟩
  have F1 := hw
  clear hw
  go_wp2_with fail
  refine (worldCheck_any zPg zPg zPg none 0 0 [] 0 _ (recs_none _) (fun _ => rfl) (by decide)).mono ?_
  rintro e v2 ⟨rfl, hw⟩
  rw [begin_err]
  have F2 := F1.trans hw
  clear hw F1
  go_wp2_with fail
  refine (begin_any _).mono ?_
  rintro e v3 ⟨rfl, hw⟩
  have F3 := F2.trans hw
  clear hw F2
  go_wp2_with fail
  refine (sameWorlds_eq zPg zPg zPg 0 none none 0 0 0 [] _ (recs_none _) (recs_none _) (by decide)).mono ?_
  rintro e v4 ⟨rfl, hw⟩
  have F4 := F3.trans hw
  clear hw F3
  go_wp2_with fail
  refine (lab_any _).mono ?_
  rintro e v5 ⟨b4, rfl, hw, hb4, B4⟩
  have F5 := F4.trans hw
  clear hw F4 hb4
  go_wp2_with fail
  refine (worldCheck_any zPg ⟨0, 6, 0, 2⟩ zPg (some ⟨b4, 0, none⟩) 9 9 someL 6 _ (recs_blk B4) (by simp) (by decide)).mono ?_
  rintro e v6 ⟨rfl, hw⟩
  rw [lab_err]
  have F6 := F5.trans hw
  clear hw F5 B4
  have xc := (X.ext F6).cell
  go_wp2_with fail
  refine (worldCheck_any zPg ⟨1, 6, 0, 2⟩ zPg (some ⟨b1, 0, none⟩) 9 9 someL 6 _ (recs_blk (B1.ext F6)) (by simp) (by decide)).mono ?_
  rintro e v7 ⟨rfl, hw⟩
  rw [labX_err]
  have F7 := F6.trans hw
  clear hw F6 xc
  have yc := (Y.ext F7).cell
  go_wp2_with fail
  refine (worldCheck_any ⟨8, 0, 0, 9⟩ ⟨0, 6, 0, 2⟩ zPg (some ⟨b2, 0, none⟩) 9 9 someL 6 _ (recs_blk (B2.ext F7)) (by simp) (by decide)).mono ?_
  rintro e v8 ⟨rfl, hw⟩
  rw [labY_err]
  have F8 := F7.trans hw
  clear hw F7 yc
  have zc := (Z.ext F8).cell
  go_wp2_with fail
  refine (worldCheck_any zPg ⟨0, 6, 0, 2⟩ zPg (some ⟨b3, 0, none⟩) 9 9 someL 10 _ (recs_blk (B3.ext F8)) (by simp) (by decide)).mono ?_
  rintro e v9 ⟨rfl, hw⟩
  rw [labZ_err]
  have F9 := F8.trans hw
  clear hw F8 zc
  have pc := (P.ext F9).cell
  go_wp2_with fail
  go_ret
  exact ⟨rfl, E6.trans F9⟩
end Go.Proofs.Ytgojonhjhdbpkaa.B
