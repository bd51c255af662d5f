/- The contract of the book's letGo. -/
import Derived.Test.YtlpodahldpaniaaGreatBookA
namespace Go.Proofs.YtlpodahldpaniaaGreat.B
set_option maxRecDepth 100000
open Go.ChangeShapes Go.WideShapes Go.ChangeAt Go.RowKit

set_option maxHeartbeats 2000000 in
set_option maxRecDepth 100000 in
theorem letGo_any (pc : Array Value) (mh pb : Nat) (ho : List HE) (r : Rc) (w : World) (hB : Blk w pb pc 76) (h13 : pc[13]? = some (.map (some mh))) (hM : MapAt keyP w mh (ho.map hoEnt)) (hne : pb ≠ mh)
    (h1 : 0 < (lookH ho (r.page, r.cell)).2) (h2 : (lookH ho (r.page, r.cell)).2 < 1000) :
    Calls Tryz.prog 96 #[.pointer (some ⟨pb, 0, none⟩), r.val] w fun e w' => e = .returned (.tuple #[]) ∧ Gr (some mh) w w' ∧ MapAt keyP w' mh ((letGoH ho (r.page, r.cell)).map hoEnt) := by
  have HL := (show Hid (lookP (ho.map hoEnt) (r.page, r.cell) (hoVal (0, 0)) = hoVal (lookH ho (r.page, r.cell))) from lookH_eq ho (r.page, r.cell))
  have HG : Hid (letGoH ho (r.page, r.cell) = if 0 < (lookH ho (r.page, r.cell)).2 - 1 then putH ho (r.page, r.cell) ((lookH ho (r.page, r.cell)).1, (lookH ho (r.page, r.cell)).2 - 1) else dropH ho (r.page, r.cell)) := rfl
  generalize lookH ho (r.page, r.cell) = x at *
  go_enter Tryz.func96, Tryz.ntmps96
  go_wp2_with fail
  have C1 := Blk.new w w.heap.size r.cs 65 rfl
  have hE := (Ext.refl w).alloc (.cells r.cs 65)
  have hmw := hM.lt
  have hRne : w.heap.size ≠ mh := by omega
  generalize w.alloc (.cells r.cs 65) = W at *
  have hB1 := hB.ext hE
  have hM1 := hM.ext hE
  have KL : Hid (∀ w', Ext W w' → (Instr.lookup 74 (.map (some mh)) (keyP (r.page, r.cell)) false).run Tryz.prog w' = .ok (hoVal x) w') := fun w' e => by rw [run_lookP (hM1.ext e) (r.page, r.cell), HL.out]
  have KC : Hid (∀ w', Ext W w' → (∀ o, w'.cell? ⟨w.heap.size, o, none⟩ = r.cs[o]?) ∧ w'.cell? ⟨pb, 13, none⟩ = some (.map (some mh))) := fun w' e => ⟨(C1.ext e).cell, by rw [(hB1.ext e).cell]; exact h13⟩
  go_cut [4] (fun s4 wx => ∃ b4 : Nat, s4 = .pointer (some ⟨b4, 0, none⟩) ∧ Blk wx b4 #[.int .i64 x.1, .int .i64 x.2] 132 ∧ Ext W wx ∧ W.heap.size ≤ b4)
  case first =>
    go_region_held3 (fun w' => Ext W w' ∧ ((∀ o, w'.cell? ⟨w.heap.size, o, none⟩ = r.cs[o]?) ∧ w'.cell? ⟨pb, 13, none⟩ = some (.map (some mh))) ∧ (Instr.lookup 74 (.map (some mh)) (keyP (r.page, r.cell)) false).run Tryz.prog w' = .ok (hoVal x) w')
      ((refine (fun e => ⟨e, KC.out _ e, KL.out _ e⟩ : Ext W _ → _) ?_; first | exact (Ext.refl W).drew | exact ((Ext.refl W).alloc _).drew | exact hy | exact hy.alloc _ | exact (hy.setCell hbx _).setCell hbx _))
      (first
      | (go_at_call 95; refine (placeOf_any r _).mono ?_; rintro e w' ⟨rfl, hw'⟩; have hy : Ext W w' := Ext.trans (And.left (by assumption)) hw'; have hbx : W.heap.size ≤ W.heap.size := Nat.le_refl _; have D := Blk.ext (Blk.drew (Blk.new W W.heap.size #[.int .i64 0, .int .i64 0] 132 rfl)) hw'; have dc := D.cell; have df := D.fr)
      | (go_at_call 95; refine (placeOf_any r _).mono ?_; rintro e w' ⟨rfl, hw'⟩; have hy : Ext W w' := Ext.trans (And.left (by assumption)) hw'; have hbx : W.heap.size ≤ W.heap.size := Nat.le_refl _))
    · go_wp2_with fail
      go_meet
      case rel => exact ⟨_, rfl, Blk.new _ _ _ _ rfl, hy.alloc _, hy.size⟩
    · go_wp2_with fail
      go_meet
      case rel => exact ⟨_, rfl, Blk.new _ _ _ _ rfl, hy.alloc _, hy.size⟩
    · go_wp2_with fail
      go_meet
      case rel => exact ⟨_, rfl, (D.set 0 _).set 1 _, (hy.setCell hbx _).setCell hbx _, hbx⟩
  case rest =>
    obtain ⟨b4, rfl, C2, hx4, hb4⟩ := hcut
    have D1 := C1.ext hx4
    have hB2 := hB1.ext hx4
    have hE2 := hE.trans hx4
    have hM2 := hM1.ext hx4
    have hb4m : b4 ≠ mh := by have := hE.size; omega
    have hpl := hB1.lt
    have hrl := C1.lt
    clear C1 hB1 hE KL KC hx4 HL
    have c2 := C2.cell
    have f2 := C2.fr
    by_cases h0 : 0 < x.2 - 1
    · have HD : Hid (decide (0 < x.2 - 1) = true) := by unfold Hid; simpa using h0
      have C3 := C2.set 1 (.int .i64 (x.2 - 1))
      have D3 := D1.other ⟨b4, 1, none⟩ (.int .i64 (x.2 - 1)) (by dsimp only; omega)
      have B3 := hB2.other ⟨b4, 1, none⟩ (.int .i64 (x.2 - 1)) (by dsimp only; omega)
      have M3 := hM2.gr ((Gr.refl (some b4) wc).set (p := ⟨b4, 1, none⟩) (Or.inr rfl) (.int .i64 (x.2 - 1))) (by simpa using Ne.symm hb4m)
      have hE3 := hE2.setCell (p := ⟨b4, 1, none⟩) (by have := hE2.size; dsimp only; omega) (.int .i64 (x.2 - 1))
      go_wp2_with fail
      clear c2 f2 C2 D1 hB2 hM2 hE2
      generalize wc.setCell ⟨b4, 1, none⟩ (.int .i64 (x.2 - 1)) = V at *
      have KC : Hid (∀ w', Gr (some mh) V w' → (∀ o, w'.cell? ⟨w.heap.size, o, none⟩ = r.cs[o]?) ∧ w'.cell? ⟨pb, 13, none⟩ = some (.map (some mh)) ∧ (∀ o, w'.cell? ⟨b4, o, none⟩ = #[.int .i64 x.1, .int .i64 (x.2 - 1)][o]?)) := fun w' e => ⟨(D3.gr e (by simpa using hRne)).cell, by rw [(B3.gr e (by simpa using hne)).cell]; exact h13, (C3.gr e (by simpa using hb4m)).cell⟩
      refine wp_region_held_drew (S := fun w' => Gr (some mh) V w' ∧ (∀ o, w'.cell? ⟨w.heap.size, o, none⟩ = r.cs[o]?) ∧ w'.cell? ⟨pb, 13, none⟩ = some (.map (some mh)) ∧ (∀ o, w'.cell? ⟨b4, o, none⟩ = #[.int .i64 x.1, .int .i64 (x.2 - 1)][o]?)) (by kernel_rfl) ⟨(Gr.refl (some mh) V).drew, KC.out _ (Gr.refl (some mh) V).drew⟩ (fun hHeld => ?_)
      refine wpAnyH_take (i := 0) (v := ?v1) rfl (by kernel_rfl) (by kernel_rfl) (by kernel_rfl) (fun _ _ _ h => h) (Or.inl ⟨by rfl, ?hy1⟩) hHeld ?r1
      case hy1 => first | (intro w hSw; (try dsimp only at hSw); go_simp; done) | (intro w hSw; (try dsimp only at hSw); go_simp; with_reducible rfl)
      simp only [Act.put]
      refine wpAnyH_take (i := 1) (v := ?v2) rfl (by kernel_rfl) (by kernel_rfl) (by kernel_rfl) (fun _ _ _ h => h) (Or.inl ⟨by rfl, ?hy2⟩) hHeld ?r2
      case hy2 => first | (intro w hSw; (try dsimp only at hSw); go_simp; done) | (intro w hSw; (try dsimp only at hSw); go_simp; with_reducible rfl)
      simp only [Act.put]
      refine wpAnyH_take (i := 2) (v := ?v3) rfl (by kernel_rfl) (by kernel_rfl) (by kernel_rfl) (fun _ _ _ h => h) (Or.inl ⟨by rfl, ?hy3⟩) hHeld ?r3
      case hy3 => first | (intro w hSw; (try dsimp only at hSw); go_simp; done) | (intro w hSw; (try dsimp only at hSw); go_simp; with_reducible rfl)
      simp only [Act.put]
      refine wpAnyH_take (i := 3) (v := ?v4) rfl (by kernel_rfl) (by kernel_rfl) (by kernel_rfl) (fun _ _ _ h => h) (Or.inl ⟨by rfl, ?hy4⟩) hHeld ?r4
      case hy4 => first | (intro w hSw; (try dsimp only at hSw); go_simp; done) | (intro w hSw; (try dsimp only at hSw); go_simp; with_reducible rfl)
      simp only [Act.put]
      refine wpAnyH_take (i := 4) (v := ?v5) rfl (by kernel_rfl) (by kernel_rfl) (by kernel_rfl) (fun _ _ _ h => h) (Or.inl ⟨by rfl, ?hy5⟩) hHeld ?r5
      case hy5 => first | (intro w hSw; (try dsimp only at hSw); go_simp; done) | (intro w hSw; (try dsimp only at hSw); go_simp; with_reducible rfl)
      simp only [Act.put]
      refine wpAnyH_take (i := 6) (v := ?v6) rfl (by kernel_rfl) (by kernel_rfl) (by kernel_rfl) (fun _ _ _ h => h) (Or.inl ⟨by rfl, ?hy6⟩) hHeld ?r6
      case hy6 => first | (intro w hSw; (try dsimp only at hSw); go_simp; done) | (intro w hSw; (try dsimp only at hSw); go_simp; with_reducible rfl)
      simp only [Act.put]
      refine wpAnyH_ready (rs := [5]) (by kernel_rfl) (by simp) ?_
      refine AllReadyH.cons rfl (fun K hK => ?_) AllReadyH.nil
      go_simp
      refine (placeOf_any r _).mono ?_
      rintro e w2 ⟨rfl, hw2⟩
      have hy : Gr (some mh) V w2 := hHeld.1.ext hw2
      have M4 := (M3.ext (Ext.refl V).drew).ext hw2
      go_wp2_with fail
      clear hHeld
      refine hK.out _ _ ⟨hy, KC.out _ hy⟩ (fun hHeld => ?_)
      clear hK K
      obtain ⟨w3, hr3, hm3, ho3⟩ := run_putP M4 (r.page, r.cell) (hoVal (x.1, x.2 - 1))
      refine wpAnyH_ready (rs := [7]) (by kernel_rfl) (by simp) ?_
      refine AllReadyH.cons rfl (fun K hK => ?_) AllReadyH.nil
      go_simp
      have hz := hy.trans (Gr.of_only ho3)
      refine hK.out _ _ ⟨hz, KC.out _ hz⟩ (fun hHeld => ?_)
      clear hK K
      refine wpAnyH_done (by kernel_rfl) ?_ _
      clear KC hHeld
      go_end0
      refine ⟨rfl, (Gr.of_ext hE3).trans hz, ?_⟩
      rw [HG.out, if_pos h0, ← putH_eq]
      exact hm3
    · have HD : Hid (decide (0 < x.2 - 1) = false) := by unfold Hid; simpa using h0
      have C3 := C2.set 1 (.int .i64 (x.2 - 1))
      have D3 := D1.other ⟨b4, 1, none⟩ (.int .i64 (x.2 - 1)) (by dsimp only; omega)
      have B3 := hB2.other ⟨b4, 1, none⟩ (.int .i64 (x.2 - 1)) (by dsimp only; omega)
      have M3 := hM2.gr ((Gr.refl (some b4) wc).set (p := ⟨b4, 1, none⟩) (Or.inr rfl) (.int .i64 (x.2 - 1))) (by simpa using Ne.symm hb4m)
      have hE3 := hE2.setCell (p := ⟨b4, 1, none⟩) (by have := hE2.size; dsimp only; omega) (.int .i64 (x.2 - 1))
      go_wp2_with fail
      clear c2 f2 C2 D1 hB2 hM2 hE2
      generalize wc.setCell ⟨b4, 1, none⟩ (.int .i64 (x.2 - 1)) = V at *
      have KC : Hid (∀ w', Gr (some mh) V w' → (∀ o, w'.cell? ⟨w.heap.size, o, none⟩ = r.cs[o]?) ∧ w'.cell? ⟨pb, 13, none⟩ = some (.map (some mh)) ∧ (∀ o, w'.cell? ⟨b4, o, none⟩ = #[.int .i64 x.1, .int .i64 (x.2 - 1)][o]?)) := fun w' e => ⟨(D3.gr e (by simpa using hRne)).cell, by rw [(B3.gr e (by simpa using hne)).cell]; exact h13, (C3.gr e (by simpa using hb4m)).cell⟩
      refine wp_region_held_drew (S := fun w' => Gr (some mh) V w' ∧ (∀ o, w'.cell? ⟨w.heap.size, o, none⟩ = r.cs[o]?) ∧ w'.cell? ⟨pb, 13, none⟩ = some (.map (some mh)) ∧ (∀ o, w'.cell? ⟨b4, o, none⟩ = #[.int .i64 x.1, .int .i64 (x.2 - 1)][o]?)) (by kernel_rfl) ⟨(Gr.refl (some mh) V).drew, KC.out _ (Gr.refl (some mh) V).drew⟩ (fun hHeld => ?_)
      refine wpAnyH_take (i := 0) (v := ?v7) rfl (by kernel_rfl) (by kernel_rfl) (by kernel_rfl) (fun _ _ _ h => h) (Or.inl ⟨by rfl, ?hy7⟩) hHeld ?r7
      case hy7 => first | (intro w hSw; (try dsimp only at hSw); go_simp; done) | (intro w hSw; (try dsimp only at hSw); go_simp; with_reducible rfl)
      simp only [Act.put]
      refine wpAnyH_take (i := 1) (v := ?v8) rfl (by kernel_rfl) (by kernel_rfl) (by kernel_rfl) (fun _ _ _ h => h) (Or.inl ⟨by rfl, ?hy8⟩) hHeld ?r8
      case hy8 => first | (intro w hSw; (try dsimp only at hSw); go_simp; done) | (intro w hSw; (try dsimp only at hSw); go_simp; with_reducible rfl)
      simp only [Act.put]
      refine wpAnyH_take (i := 2) (v := ?v9) rfl (by kernel_rfl) (by kernel_rfl) (by kernel_rfl) (fun _ _ _ h => h) (Or.inl ⟨by rfl, ?hy9⟩) hHeld ?r9
      case hy9 => first | (intro w hSw; (try dsimp only at hSw); go_simp; done) | (intro w hSw; (try dsimp only at hSw); go_simp; with_reducible rfl)
      simp only [Act.put]
      refine wpAnyH_take (i := 3) (v := ?v10) rfl (by kernel_rfl) (by kernel_rfl) (by kernel_rfl) (fun _ _ _ h => h) (Or.inl ⟨by rfl, ?hy10⟩) hHeld ?r10
      case hy10 => first | (intro w hSw; (try dsimp only at hSw); go_simp; done) | (intro w hSw; (try dsimp only at hSw); go_simp; with_reducible rfl)
      simp only [Act.put]
      refine wpAnyH_take (i := 4) (v := ?v11) rfl (by kernel_rfl) (by kernel_rfl) (by kernel_rfl) (fun _ _ _ h => h) (Or.inl ⟨by rfl, ?hy11⟩) hHeld ?r11
      case hy11 => first | (intro w hSw; (try dsimp only at hSw); go_simp; done) | (intro w hSw; (try dsimp only at hSw); go_simp; with_reducible rfl)
      simp only [Act.put]
      refine wpAnyH_ready (rs := [5]) (by kernel_rfl) (by simp) ?_
      refine AllReadyH.cons rfl (fun K hK => ?_) AllReadyH.nil
      go_simp
      refine (placeOf_any r _).mono ?_
      rintro e w2 ⟨rfl, hw2⟩
      have hy : Gr (some mh) V w2 := hHeld.1.ext hw2
      have M4 := (M3.ext (Ext.refl V).drew).ext hw2
      go_wp2_with fail
      clear hHeld
      refine hK.out _ _ ⟨hy, KC.out _ hy⟩ (fun hHeld => ?_)
      clear hK K
      obtain ⟨w3, hr3, hm3, ho3⟩ := run_dropP M4 (r.page, r.cell) 0
      refine wpAnyH_ready (rs := [6]) (by kernel_rfl) (by simp) ?_
      refine AllReadyH.cons rfl (fun K hK => ?_) AllReadyH.nil
      go_simp
      have hz := hy.trans (Gr.of_only ho3)
      refine hK.out _ _ ⟨hz, KC.out _ hz⟩ (fun hHeld => ?_)
      clear hK K
      refine wpAnyH_done (by kernel_rfl) ?_ _
      clear KC hHeld
      go_end0
      refine ⟨rfl, (Gr.of_ext hE3).trans hz, ?_⟩
      rw [HG.out, if_neg (by omega), ← dropH_eq]
      exact hm3
end Go.Proofs.YtlpodahldpaniaaGreat.B
