/- The contracts of the reference's SameLogs and SameWorlds at worlds that are the same, of world.Begin and of the laws' lab; worldBegun answers true. -/
import Derived.Test.YtlpodahldpaniaaGreatDeskB
import Derived.Test.YtlpodahldpaniaaGreatLogLA
namespace Go.Proofs.YtlpodahldpaniaaGreat.B
set_option maxRecDepth 100000
open Go.ChangeShapes Go.WideShapes Go.ChangeAt Go.RowKit

theorem eqRc_refl (r : Rc) : eqRc r r = true := (eqRc_iff r r).2 rfl
set_option maxHeartbeats 1000000 in
theorem sameLogs_eq (a b : Option Addr) (len cap cap' : Nat) (l : List Rc) (w : World) (h : Recs w a len l) (h' : Recs w b len l) (hl : len ≤ 1000) :
    Calls Tryz.prog 24 #[.slice a len cap, .slice b len cap'] w fun e w' => e = .returned (.bool true) ∧ Ext w w' := by
  go_enter Tryz.func24, Tryz.ntmps24
  go_wp2_with fail
  go_loopw [5] (fun i wr => ∃ k : Nat, k ≤ len ∧ i = .int .i64 k ∧ Ext w wr) (fun i _ => len - (intOf i).toNat)
  case atStart => exact ⟨0, Nat.zero_le _, rfl, Ext.refl w⟩
  case round =>
    obtain ⟨k, hk, rfl, hE⟩ := hrel
    by_cases hlt : k < len
    · obtain ⟨b1, o1, rfl, hkl, c0, c1, c2, c3, c4, c5, c6, c7⟩ := (h.ext hE).at hlt
      obtain ⟨b2, o2, rfl, hkl2, d0, d1, d2, d3, d4, d5, d6, d7⟩ := (h'.ext hE).at hlt
      have e1 := neq_rec l[k] l[k]
      rw [eqRc_refl] at e1
      generalize l[k] = x at *
      go_wp2_with fail
      go_quiet (fail)
      go_wp2_with fail
      go_roundw
      case rel => exact ⟨k + 1, by omega, by go_num, hE.drewN _⟩
      case measure => simp [intOf]; omega
    · go_wp2_with fail
      go_ret
      exact ⟨rfl, hE⟩
theorem eqn_pages (p q r : Pg) : ∀ w, (Op.equalIn 10000 25 (val3 p q r) (val3 p q r)).run Tryz.prog w = .ok true w := fun w => by
  have := eq_pages 9996 w p q r p q r
  rw [eqPg_refl, eqPg_refl, eqPg_refl] at this
  exact this
set_option maxHeartbeats 1000000 in
theorem sameWorlds_eq (p q r : Pg) (safe : Int) (a b : Option Addr) (len cap cap' : Nat) (l : List Rc) (w : World) (h : Recs w a len l) (h' : Recs w b len l) (hl : len ≤ 1000) :
    Calls Tryz.prog 9 #[wdVal p q r (.slice a len cap) safe, wdVal p q r (.slice b len cap') safe] w fun e w' => e = .returned (.bool true) ∧ Ext w w' := by
  have E0 := ((Ext.refl w).alloc (.cells (wdCells p q r (.slice a len cap) safe) 28)).alloc (.cells (wdCells p q r (.slice b len cap') safe) 28)
  have A := ((Blk.new w w.heap.size (wdCells p q r (.slice a len cap) safe) 28 rfl).alloc (.cells (wdCells p q r (.slice b len cap') safe) 28)).cell
  have B := (Blk.new (w.alloc (.cells (wdCells p q r (.slice a len cap) safe) 28)) (w.heap.size + 1) (wdCells p q r (.slice b len cap') safe) 28 (by simp)).cell
  have e1 := eqn_pages p q r
  go_enter Tryz.func9, Tryz.ntmps9
  go_wp2_with fail
  refine (sameLogs_eq a b len cap cap' l _ (h.ext E0) (h'.ext E0) hl).mono ?_
  rintro e w1 ⟨rfl, hw⟩
  go_wp2_with fail
  go_ret
  exact ⟨rfl, E0.trans hw⟩
abbrev zPg : Pg := ⟨0, 0, 0, 0⟩
set_option maxHeartbeats 2000000 in
theorem lab_any (w : World) : Calls Tryz.prog 23 #[] w fun e w' => ∃ b, e = .returned (wdVal zPg ⟨0, 6, 0, 2⟩ zPg (.slice (some ⟨b, 0, none⟩) 9 9) 6) ∧ Ext w w' ∧ w.heap.size ≤ b ∧ Blk w' b (flat someL).toArray 65 := by
  have Z := Blk.new w w.heap.size (wdCells zPg zPg zPg (.slice none 0 0) 0) 28 rfl
  have E1 := (Ext.refl w).alloc (.cells (wdCells zPg zPg zPg (.slice none 0 0) 0) 28)
  go_enter Tryz.func23, Tryz.ntmps23
  go_wp2_with fail
  refine (some_any _).mono ?_
  rintro e w1 ⟨b, rfl, hw, hb, B⟩
  have Z1 := (Z.ext hw).alloc (.cells (wdCells zPg ⟨0, 6, 0, 2⟩ zPg (.slice (some ⟨b, 0, none⟩) 9 9) 6) 28)
  have E2 := (E1.trans hw).alloc (.cells (wdCells zPg ⟨0, 6, 0, 2⟩ zPg (.slice (some ⟨b, 0, none⟩) 9 9) 6) 28)
  have B1 := B.alloc (.cells (wdCells zPg ⟨0, 6, 0, 2⟩ zPg (.slice (some ⟨b, 0, none⟩) 9 9) 6) 28)
  have hbz : b ≠ w.heap.size := by simp at hb; omega
  have c0 := Z1.cell
  have f0 := Z1.fr
  clear Z
  go_wp2_with fail
  refine bodyPost_ret (v := .agg (wdCells zPg ⟨0, 6, 0, 2⟩ zPg (.slice (some ⟨b, 0, none⟩) 9 9) 6)) (by simp [results, Tryz.results23, go_sem, c0]) rfl ⟨b, rfl, ?_, by simp at hb; omega, ?_⟩
  · exact ((((((((((((((E2.setCell (by simp) _).setCell (by simp) _).setCell (by simp) _).setCell (by simp) _).setCell (by simp) _).setCell (by simp) _).setCell (by simp) _).setCell (by simp) _).setCell (by simp) _).setCell (by simp) _).setCell (by simp) _).setCell (by simp) _).setCell (by simp) _).setCell (by simp) _)
  · exact ((((((((((((((B1.other _ _ hbz).other _ _ hbz).other _ _ hbz).other _ _ hbz).other _ _ hbz).other _ _ hbz).other _ _ hbz).other _ _ hbz).other _ _ hbz).other _ _ hbz).other _ _ hbz).other _ _ hbz).other _ _ hbz).other _ _ hbz)
theorem lab_err : worldErr zPg ⟨0, 6, 0, 2⟩ zPg someL 6 = 0 := by decide +kernel
theorem lab_now : nowOr zPg ⟨0, 6, 0, 2⟩ zPg someL 6 = [8, 0, 0, 9, 0, 6, 0, 2, 0, 0, 0, 0] := by decide +kernel
theorem labX_err : worldErr zPg ⟨1, 6, 0, 2⟩ zPg someL 6 = 1 := by decide +kernel
theorem labY_err : worldErr ⟨8, 0, 0, 9⟩ ⟨0, 6, 0, 2⟩ zPg someL 6 = 1 := by decide +kernel
theorem labZ_err : worldErr zPg ⟨0, 6, 0, 2⟩ zPg someL 10 = 3 := by decide +kernel
theorem begin_err : worldErr zPg zPg zPg [] 0 = 0 := by decide +kernel
theorem recs_none (w : World) : Recs w none 0 [] := ⟨rfl, Or.inl ⟨rfl, rfl⟩⟩
end Go.Proofs.YtlpodahldpaniaaGreat.B
