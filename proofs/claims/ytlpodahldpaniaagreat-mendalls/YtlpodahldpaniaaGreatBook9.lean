/- The contract of the book's hold. -/
import Derived.Test.YtlpodahldpaniaaGreatBook8
import Derived.Test.YtlpodahldpaniaaGreatChainA
namespace Go.Proofs.YtlpodahldpaniaaGreat.B
set_option maxRecDepth 100000
open Go.ChangeShapes Go.WideShapes Go.ChangeAt Go.RowKit

set_option maxHeartbeats 2000000 in
set_option maxRecDepth 100000 in
theorem hold_2 (pb : Nat) (r : Rc) (w : World) (hk : r.kind = 2) :
    Calls Tryz.prog 79 #[.pointer (some ⟨pb, 0, none⟩), r.val] w fun e w' => e = .returned (.tuple #[]) ∧ Ext w w' := by
  obtain ⟨kind, txn, prev, page, cell, old, new, next⟩ := r
  dsimp only at hk
  subst hk
  go_enter Tryz.func79, Tryz.ntmps79
  go_wp2_with fail
  go_end0
  exact ⟨rfl, ((Ext.refl w).alloc _)⟩
set_option maxHeartbeats 2000000 in
set_option maxRecDepth 100000 in
theorem hold_1 (pc : Array Value) (mh pb : Nat) (ho : List HE) (txn prev page cell old new next : Int) (w : World) (hB : Blk w pb pc 76) (h13 : pc[13]? = some (.map (some mh))) (hM : MapAt keyP w mh (ho.map hoEnt)) (hne : pb ≠ mh)
    (h1 : 0 ≤ (lookH ho (page, cell)).2) (h2 : (lookH ho (page, cell)).2 < 1000) :
    Calls Tryz.prog 79 #[.pointer (some ⟨pb, 0, none⟩), (Rc.mk 1 txn prev page cell old new next).val] w fun e w' => e = .returned (.tuple #[]) ∧ Gr (some mh) w w' ∧ MapAt keyP w' mh ((writeH ho (page, cell) txn).map hoEnt) := by
  have HL := (show Hid (lookP (ho.map hoEnt) (page, cell) (hoVal (0, 0)) = hoVal (lookH ho (page, cell))) from lookH_eq ho (page, cell))
  have HG : Hid (writeH ho (page, cell) txn = putH ho (page, cell) (txn, (lookH ho (page, cell)).2 + 1)) := rfl
  generalize lookH ho (page, cell) = x at *
  go_enter Tryz.func79, Tryz.ntmps79
  go_wp2_with fail
  have C1 := Blk.new w w.heap.size (Rc.mk 1 txn prev page cell old new next).cs 65 rfl
  have hE := (Ext.refl w).alloc (.cells (Rc.mk 1 txn prev page cell old new next).cs 65)
  have hmw := hM.lt
  have hRne : w.heap.size ≠ mh := by omega
  generalize w.alloc (.cells (Rc.mk 1 txn prev page cell old new next).cs 65) = W at *
  have hB1 := hB.ext hE
  have hM1 := hM.ext hE
  have KL : Hid (∀ w', Ext W w' → (Instr.lookup 74 (.map (some mh)) (keyP (page, cell)) false).run Tryz.prog w' = .ok (hoVal x) w') := fun w' e => by rw [run_lookP (hM1.ext e) (page, cell), HL.out]
  have KC : Hid (∀ w', Ext W w' → (∀ o, w'.cell? ⟨w.heap.size, o, none⟩ = (Rc.mk 1 txn prev page cell old new next).cs[o]?) ∧ w'.cell? ⟨pb, 13, none⟩ = some (.map (some mh))) := fun w' e => ⟨(C1.ext e).cell, by rw [(hB1.ext e).cell]; exact h13⟩
  go_cut [4] (fun s4 wx => ∃ b4 : Nat, s4 = .pointer (some ⟨b4, 0, none⟩) ∧ Blk wx b4 #[.int .i64 x.1, .int .i64 x.2] 132 ∧ Ext W wx ∧ W.heap.size ≤ b4)
  case first =>
    go_region_held3 (fun w' => Ext W w' ∧ ((∀ o, w'.cell? ⟨w.heap.size, o, none⟩ = (Rc.mk 1 txn prev page cell old new next).cs[o]?) ∧ w'.cell? ⟨pb, 13, none⟩ = some (.map (some mh))) ∧ (Instr.lookup 74 (.map (some mh)) (keyP (page, cell)) false).run Tryz.prog w' = .ok (hoVal x) w')
      ((refine (fun e => ⟨e, KC.out _ e, KL.out _ e⟩ : Ext W _ → _) ?_; first | exact (Ext.refl W).drew | exact ((Ext.refl W).alloc _).drew | exact hy | exact hy.alloc _ | exact (hy.setCell hbx _).setCell hbx _))
      (first
      | (go_at_call 95; refine (placeOf_any (Rc.mk 1 txn prev page cell old new next) _).mono ?_; rintro e w' ⟨rfl, hw'⟩; have hy : Ext W w' := Ext.trans (And.left (by assumption)) hw'; have hbx : W.heap.size ≤ W.heap.size := Nat.le_refl _; have D := Blk.ext (Blk.drew (Blk.new W W.heap.size #[.int .i64 0, .int .i64 0] 132 rfl)) hw'; have dc := D.cell; have df := D.fr)
      | (go_at_call 95; refine (placeOf_any (Rc.mk 1 txn prev page cell old new next) _).mono ?_; rintro e w' ⟨rfl, hw'⟩; have hy : Ext W w' := Ext.trans (And.left (by assumption)) hw'; have hbx : W.heap.size ≤ W.heap.size := Nat.le_refl _))
    · go_wp2_with fail
      go_meet
      case rel => exact ⟨_, rfl, Blk.new _ _ _ _ rfl, hy.alloc _, hy.size⟩
    · go_wp2_with fail
      go_meet
      case rel => exact ⟨_, rfl, Blk.new _ _ _ _ rfl, hy.alloc _, hy.size⟩
    · go_wp2_with fail
      go_meet
      case rel => exact ⟨_, rfl, (D.set 0 _).set 1 _, (hy.setCell hbx _).setCell hbx _, hbx⟩
  case rest =>
    obtain ⟨b4, rfl, C3, hx4, hb4⟩ := hcut
    have D3 := C1.ext hx4
    have B3 := hB1.ext hx4
    have hE3 := hE.trans hx4
    have M3 := hM1.ext hx4
    have hb4m : b4 ≠ mh := by have := hE.size; omega
    clear C1 hB1 hE KL KC hx4 HL
    go_wp2_with fail
    have hwr : IntKind.i64.wrap (x.2 + 1) = x.2 + 1 := by rw [IntKind.wrap_i64]; omega
    have KC : Hid (∀ w', Gr (some mh) wc w' → (∀ o, w'.cell? ⟨w.heap.size, o, none⟩ = (Rc.mk 1 txn prev page cell old new next).cs[o]?) ∧ w'.cell? ⟨pb, 13, none⟩ = some (.map (some mh)) ∧ (∀ o, w'.cell? ⟨b4, o, none⟩ = #[.int .i64 x.1, .int .i64 x.2][o]?)) := fun w' e => ⟨(D3.gr e (by simpa using hRne)).cell, by rw [(B3.gr e (by simpa using hne)).cell]; exact h13, (C3.gr e (by simpa using hb4m)).cell⟩
    refine wp_region_held_drew (S := fun w' => Gr (some mh) wc w' ∧ (∀ o, w'.cell? ⟨w.heap.size, o, none⟩ = (Rc.mk 1 txn prev page cell old new next).cs[o]?) ∧ w'.cell? ⟨pb, 13, none⟩ = some (.map (some mh)) ∧ (∀ o, w'.cell? ⟨b4, o, none⟩ = #[.int .i64 x.1, .int .i64 x.2][o]?)) (by kernel_rfl) ⟨(Gr.refl (some mh) wc).drew, KC.out _ (Gr.refl (some mh) wc).drew⟩ (fun hHeld => ?_)
    refine wpAnyH_take (i := 0) (v := ?v1) rfl (by kernel_rfl) (by kernel_rfl) (by kernel_rfl) (fun _ _ _ h => h) (Or.inl ⟨by rfl, ?hy1⟩) hHeld ?r1
    case hy1 => first | (intro w hSw; (try dsimp only at hSw); go_simp; done) | (intro w hSw; (try dsimp only at hSw); go_simp; with_reducible rfl)
    simp only [Act.put]
    refine wpAnyH_take (i := 1) (v := ?v2) rfl (by kernel_rfl) (by kernel_rfl) (by kernel_rfl) (fun _ _ _ h => h) (Or.inl ⟨by rfl, ?hy2⟩) hHeld ?r2
    case hy2 => first | (intro w hSw; (try dsimp only at hSw); go_simp; done) | (intro w hSw; (try dsimp only at hSw); go_simp; with_reducible rfl)
    simp only [Act.put]
    refine wpAnyH_take (i := 2) (v := ?v3) rfl (by kernel_rfl) (by kernel_rfl) (by kernel_rfl) (fun _ _ _ h => h) (Or.inl ⟨by rfl, ?hy3⟩) hHeld ?r3
    case hy3 => first | (intro w hSw; (try dsimp only at hSw); go_simp; done) | (intro w hSw; (try dsimp only at hSw); go_simp; with_reducible rfl)
    simp only [Act.put]
    refine wpAnyH_take (i := 3) (v := ?v4) rfl (by kernel_rfl) (by kernel_rfl) (by kernel_rfl) (fun _ _ _ h => h) (Or.inl ⟨by rfl, ?hy4⟩) hHeld ?r4
    case hy4 => first | (intro w hSw; (try dsimp only at hSw); go_simp; done) | (intro w hSw; (try dsimp only at hSw); go_simp; with_reducible rfl)
    simp only [Act.put]
    refine wpAnyH_take (i := 4) (v := ?v5) rfl (by kernel_rfl) (by kernel_rfl) (by kernel_rfl) (fun _ _ _ h => h) (Or.inl ⟨by rfl, ?hy5⟩) hHeld ?r5
    case hy5 => first | (intro w hSw; (try dsimp only at hSw); go_simp; done) | (intro w hSw; (try dsimp only at hSw); go_simp; with_reducible rfl)
    simp only [Act.put]
    refine wpAnyH_take (i := 6) (v := ?v6) rfl (by kernel_rfl) (by kernel_rfl) (by kernel_rfl) (fun _ _ _ h => h) (Or.inl ⟨by rfl, ?hy6⟩) hHeld ?r6
    case hy6 => first | (intro w hSw; (try dsimp only at hSw); go_simp; done) | (intro w hSw; (try dsimp only at hSw); go_simp; with_reducible rfl)
    simp only [Act.put]
    refine wpAnyH_take (i := 7) (v := ?v7) rfl (by kernel_rfl) (by kernel_rfl) (by kernel_rfl) (fun _ _ _ h => h) (Or.inl ⟨by rfl, ?hy7⟩) hHeld ?r7
    case hy7 => first | (intro w hSw; (try dsimp only at hSw); go_simp; done) | (intro w hSw; (try dsimp only at hSw); go_simp; with_reducible rfl)
    simp only [Act.put]
    refine wpAnyH_take (i := 8) (v := ?v8) rfl (by kernel_rfl) (by kernel_rfl) (by kernel_rfl) (fun _ _ _ h => h) (Or.inl ⟨by rfl, ?hy8⟩) hHeld ?r8
    case hy8 => first | (intro w hSw; (try dsimp only at hSw); go_simp; done) | (intro w hSw; (try dsimp only at hSw); go_simp; with_reducible rfl)
    simp only [Act.put]
    refine wpAnyH_take (i := 9) (v := ?v9) rfl (by kernel_rfl) (by kernel_rfl) (by kernel_rfl) (fun _ _ _ h => h) (Or.inl ⟨by rfl, ?hy9⟩) hHeld ?r9
    case hy9 => first | (intro w hSw; (try dsimp only at hSw); go_simp; done) | (intro w hSw; (try dsimp only at hSw); go_simp; with_reducible rfl)
    simp only [Act.put]
    refine wpAnyH_take (i := 10) (v := ?v10) rfl (by kernel_rfl) (by kernel_rfl) (by kernel_rfl) (fun _ _ _ h => h) (Or.inl ⟨by rfl, ?hy10⟩) hHeld ?r10
    case hy10 => first | (intro w hSw; (try dsimp only at hSw); go_simp; done) | (intro w hSw; (try dsimp only at hSw); go_simp; with_reducible rfl)
    simp only [Act.put]
    refine wpAnyH_take (i := 11) (v := ?v11) rfl (by kernel_rfl) (by kernel_rfl) (by kernel_rfl) (fun _ _ _ h => h) (Or.inl ⟨by rfl, ?hy11⟩) hHeld ?r11
    case hy11 => first | (intro w hSw; (try dsimp only at hSw); go_simp; done) | (intro w hSw; (try dsimp only at hSw); go_simp; with_reducible rfl)
    simp only [Act.put]
    refine wpAnyH_ready (rs := [5]) (by kernel_rfl) (by simp) ?_
    refine AllReadyH.cons rfl (fun K hK => ?_) AllReadyH.nil
    go_simp
    refine (placeOf_any (Rc.mk 1 txn prev page cell old new next) _).mono ?_
    rintro e w2 ⟨rfl, hw2⟩
    have hy : Gr (some mh) wc w2 := hHeld.1.ext hw2
    have M4 := (M3.ext (Ext.refl wc).drew).ext hw2
    go_wp2_with fail
    clear hHeld
    refine hK.out _ _ ⟨hy, KC.out _ hy⟩ (fun hHeld => ?_)
    clear hK K
    obtain ⟨w3, hr3, hm3, ho3⟩ := run_putP M4 (page, cell) (hoVal (txn, x.2 + 1))
    refine wpAnyH_ready (rs := [12]) (by kernel_rfl) (by simp) ?_
    refine AllReadyH.cons rfl (fun K hK => ?_) AllReadyH.nil
    go_simp
    have hz := hy.trans (Gr.of_only ho3)
    refine hK.out _ _ ⟨hz, KC.out _ hz⟩ (fun hHeld => ?_)
    clear hK K
    refine wpAnyH_done (by kernel_rfl) ?_ _
    clear KC hHeld
    go_end0
    refine ⟨rfl, (Gr.of_ext hE3).trans hz, ?_⟩
    rw [HG.out, ← putH_eq]
    exact hm3
set_option maxHeartbeats 2000000 in
set_option maxRecDepth 100000 in
theorem hold_3 (pc : Array Value) (mh pb : Nat) (ho : List HE) (txn prev page cell old new next : Int) (w : World) (hB : Blk w pb pc 76) (h13 : pc[13]? = some (.map (some mh))) (hM : MapAt keyP w mh (ho.map hoEnt)) (hne : pb ≠ mh)
    (h1 : 0 < (lookH ho (page, cell)).2) (h2 : (lookH ho (page, cell)).2 < 1000) :
    Calls Tryz.prog 79 #[.pointer (some ⟨pb, 0, none⟩), (Rc.mk 3 txn prev page cell old new next).val] w fun e w' => e = .returned (.tuple #[]) ∧ Gr (some mh) w w' ∧ MapAt keyP w' mh ((letGoH ho (page, cell)).map hoEnt) := by
  go_enter Tryz.func79, Tryz.ntmps79
  go_wp2_with fail
  refine (letGo_any pc mh pb ho ⟨3, txn, prev, page, cell, old, new, next⟩ _ (hB.alloc _) h13 (hM.ext ((Ext.refl w).alloc _)) hne h1 h2).mono ?_
  rintro e w2 ⟨rfl, hw2, hm2⟩
  go_wp2_with fail
  go_end0
  exact ⟨rfl, ((Gr.refl (some mh) w).alloc _).trans hw2, hm2⟩
theorem field_stands (s last : Int) (v : Value) : ∀ w, (Instr.field 105 (txVal s last v) 2).run Tryz.prog w = .ok v w := by
  intro w
  simp [Instr.field, go_sem, part, asAgg]
set_option maxHeartbeats 2000000 in
set_option maxRecDepth 100000 in
theorem hold_4 (pc : Array Value) (mt mh pb base : Nat) (ho : List HE) (al : List (Int × Value)) (s last : Int) (sv : Value) (st : List Rc) (txn prev page cell old new next : Int) (w : World) (hB : Blk w pb pc 76) (h12 : pc[12]? = some (.map (some mt))) (h13 : pc[13]? = some (.map (some mh))) (hT : MapAt keyI w mt al) (hM : MapAt keyP w mh (ho.map hoEnt)) (hne : pb ≠ mh)
    (hlk : lookI al txn (txVal 0 0 (.slice none 0 0)) = txVal s last sv) (hown : w.ownsRow base 65 8 sv st.length (flat st)) (hsv : sv.ownBlock ≠ some mh) (hn : st.length ≤ 1000)
    (hpos : ∀ k, (h : k < st.length) → 0 < (lookH (letGos ho (st.take k)) (st[k].page, st[k].cell)).2 ∧ (lookH (letGos ho (st.take k)) (st[k].page, st[k].cell)).2 < 1000) :
    Calls Tryz.prog 79 #[.pointer (some ⟨pb, 0, none⟩), (Rc.mk 4 txn prev page cell old new next).val] w fun e w' => e = .returned (.tuple #[]) ∧ Gr (some mh) w w' ∧ MapAt keyP w' mh ((letGos ho st).map hoEnt) := by
  obtain ⟨a, m, cap, rfl⟩ : ∃ a m cap, sv = .slice a m cap := own_slice hown
  have hm := own_len hown
  subst hm
  have HP := (show Hid (∀ k, (h : k < st.length) → 0 < (lookH (letGos ho (st.take k)) (st[k].page, st[k].cell)).2 ∧ (lookH (letGos ho (st.take k)) (st[k].page, st[k].cell)).2 < 1000) from hpos)
  have HO := (show Hid (w.ownsRow base 65 8 (.slice a st.length cap) st.length (flat st)) from hown)
  clear hpos hown
  go_enter Tryz.func79, Tryz.ntmps79
  go_wp2_with fail
  have C1 := Blk.new w w.heap.size (Rc.mk 4 txn prev page cell old new next).cs 65 rfl
  have hE := (Ext.refl w).alloc (.cells (Rc.mk 4 txn prev page cell old new next).cs 65)
  generalize w.alloc (.cells (Rc.mk 4 txn prev page cell old new next).cs 65) = W at *
  have hB1 := hB.ext hE
  have hM1 := hM.ext hE
  have hT1 := hT.ext hE
  have hO1 : Hid (W.ownsRow base 65 8 (.slice a st.length cap) st.length (flat st)) := own_ext HO.out hE
  have KL : Hid (∀ w', Ext W w' → (Instr.lookup 73 (.map (some mt)) (.int .i64 txn) false).run Tryz.prog w' = .ok (txVal s last (.slice a st.length cap)) w') := fun w' e => by rw [run_lookI (hT1.ext e) txn]; exact congrArg (fun v => Result.ok v w') hlk
  have KC : Hid (∀ w', Ext W w' → (∀ o, w'.cell? ⟨w.heap.size, o, none⟩ = (Rc.mk 4 txn prev page cell old new next).cs[o]?) ∧ w'.cell? ⟨pb, 12, none⟩ = some (.map (some mt))) := fun w' e => ⟨(C1.ext e).cell, by rw [(hB1.ext e).cell]; exact h12⟩
  clear HO
  have KF := field_stands s last (.slice a st.length cap)
  go_region_held3 (fun w' => Ext W w' ∧ ((∀ o, w'.cell? ⟨w.heap.size, o, none⟩ = (Rc.mk 4 txn prev page cell old new next).cs[o]?) ∧ w'.cell? ⟨pb, 12, none⟩ = some (.map (some mt))) ∧ (Instr.lookup 73 (.map (some mt)) (.int .i64 txn) false).run Tryz.prog w' = .ok (txVal s last (.slice a st.length cap)) w')
      ((refine (fun e => ⟨e, KC.out _ e, KL.out _ e⟩ : Ext W _ → _) ?_; exact (Ext.refl W).drew))
      (fail)
  clear KC KL
  go_wp2_with fail
  have g0 : Gr (some mh) W W.drew := (Gr.refl _ _).drew
  go_loopw [46] (fun i wr => ∃ k : Nat, k ≤ st.length ∧ i = .int .i64 k ∧ Gr (some mh) W wr ∧ MapAt keyP wr mh ((letGos ho (st.take k)).map hoEnt)) (fun i _ => st.length - (intOf i).toNat)
  case atStart => exact ⟨0, Nat.zero_le _, rfl, g0, hM1.ext (Ext.refl W).drew⟩
  case round =>
    obtain ⟨k, hk, rfl, hg, hm⟩ := hrel
    by_cases hlt : k < st.length
    · have hrow := own_gr hO1.out hg (fun b hb hc => hsv (by rw [hb]; exact hc))
      obtain ⟨_, ⟨he, hz⟩ | ⟨g, cap', cur, he, hbg, hblk, hc1, hc2, hsz, htk⟩⟩ := hrow
      · omega
      · injection he with ea eb ec
        subst ea
        clear eb ec
        obtain ⟨c0, c1, c2, c3, c4, c5, c6, c7⟩ := own_rec hblk htk k hlt
        have hp := HP.out k hlt
        have HS := (show Hid (letGos ho (st.take (k + 1)) = letGoH (letGos ho (st.take k)) (st[k].page, st[k].cell)) from letGos_take ho st k hlt)
        have hBr := hB1.gr hg (by simpa using hne)
        generalize st[k] = rk at *
        generalize letGos ho (st.take k) = hok at *
        clear hblk htk hsz hO1 HP
        go_wp2_with fail
        refine (letGo_any pc mh pb hok rk _ (hBr.alloc _) h13 (hm.ext ((Ext.refl wr).alloc _)) hne hp.1 hp.2).mono ?_
        rintro e w2 ⟨rfl, hw2, hm2⟩
        go_wp2_with fail
        go_roundw
        case rel => exact ⟨k + 1, by omega, by go_num, (hg.alloc _).trans hw2, by rw [HS.out]; exact hm2⟩
        case measure => simp [intOf]; omega
    · have HF : Hid (st.take k = st) := List.take_of_length_le (by omega)
      go_wp2_with fail
      go_end0
      rw [HF.out] at hm
      exact ⟨rfl, (Gr.of_ext hE).trans hg, hm⟩
end Go.Proofs.YtlpodahldpaniaaGreat.B
