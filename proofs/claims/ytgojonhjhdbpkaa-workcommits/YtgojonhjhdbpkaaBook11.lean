/- The contract of the book's Put. -/
import Derived.Test.YtgojonhjhdbpkaaBook12
namespace Go.Proofs.Ytgojonhjhdbpkaa.B
set_option maxRecDepth 100000
open Go.ChangeShapes Go.WideShapes Go.ChangeAt Go.RowKit

set_option maxHeartbeats 2000000 in
set_option maxRecDepth 100000 in
theorem put_bad1 {base pb mt mh : Nat} {l : List Rc} {tx : List TxE} {ho : List HE} (r : Rc) (w : World) (h : BookOk w base pb mt mh l tx ho) (hr : recErr (l.length + 1 : Nat) r ≠ 0) :
    Calls Try.prog 71 #[.pointer (some ⟨pb, 0, none⟩), r.val] w fun e w' => e = .returned (.int .i64 (recErr (l.length + 1 : Nat) r)) ∧ Ext w w' := by
  have c1 := h.blk.cell
  have hl60 := right_len l h.right
  have c14 : w.cell? ⟨pb, 14, none⟩ = some (.int .i64 (l.length : Nat)) := by rw [c1]; exact (bookCells_12 _ mt mh _ (pagesR_len l)).2.2
  have hE : Hid (recErr (l.length + 1 : Nat) r = recErr ((l.length : Int) + 1) r) := rfl
  have hb : (recErr ((l.length : Int) + 1) r != 0) = true := by simpa using hr
  have hpl := h.blk.lt
  clear c1 hr
  go_enter Try.func71, Try.ntmps71
  go_wp2_with fail
  refine (recCheck_any ((l.length : Int) + 1) r _).mono ?_
  rintro e w1 ⟨rfl, hw1⟩
  go_wp2_with fail
  go_ret
  exact ⟨rfl, ((Ext.refl w).alloc _).trans hw1⟩
set_option maxHeartbeats 2000000 in
set_option maxRecDepth 100000 in
theorem put_bad2 {base pb mt mh : Nat} {l : List Rc} {tx : List TxE} {ho : List HE} (r : Rc) (w : World) (h : BookOk w base pb mt mh l tx ho) (hr : recErr (l.length + 1 : Nat) r = 0) (hf : followsR l r = false) :
    Calls Try.prog 71 #[.pointer (some ⟨pb, 0, none⟩), r.val] w fun e w' => e = .returned (.int .i64 1) ∧ Ext w w' := by
  have c1 := h.blk.cell
  have hl60 := right_len l h.right
  have c14 : w.cell? ⟨pb, 14, none⟩ = some (.int .i64 (l.length : Nat)) := by rw [c1]; exact (bookCells_12 _ mt mh _ (pagesR_len l)).2.2
  have hb : Hid (recErr ((l.length : Int) + 1) r = 0) := hr
  have hpl := h.blk.lt
  obtain ⟨x, hx, hok, _⟩ := h.lookHold (r.page, r.cell)
  have HM : Hid (mayNotB l r x = true) := by unfold Hid; rw [mayNot_eq h.right hr hok, hf]; rfl
  have HX := (show Hid (lookP (ho.map hoEnt) (r.page, r.cell) (hoVal (0, 0)) = hoVal x) from hx)
  have HE := (show Hid (recErr (l.length + 1 : Nat) r = 0) from hr)
  clear c1 hr hf hx hok
  go_enter Try.func71, Try.ntmps71
  go_wp2_with fail
  refine (recCheck_any ((l.length : Int) + 1) r _).mono ?_
  rintro e w1 ⟨rfl, hw1⟩
  rw [hb.out]
  have R1 := (Blk.new w w.heap.size r.cs 39 rfl).ext hw1
  have c2 := R1.cell
  go_wp2_with fail
  have hE1 := ((Ext.refl w).alloc (.cells r.cs 39)).trans hw1
  refine (mayNot_any r _ (h.ext hE1) (recErr_kind HE.out) (recErr_fits HE.out) x HX.out).mono ?_
  rintro e w2 ⟨rfl, hw2⟩
  rw [HM.out]
  go_wp2_with fail
  go_ret
  exact ⟨rfl, hE1.trans hw2⟩
set_option maxHeartbeats 2000000 in
set_option maxRecDepth 100000 in
theorem put_good {base pb mt mh : Nat} {l : List Rc} {tx : List TxE} {ho : List HE} (r : Rc) (w : World) (h : BookOk w base pb mt mh l tx ho) (hr : recErr (l.length + 1 : Nat) r = 0) (hf : followsR l r = true) :
    Calls Try.prog 71 #[.pointer (some ⟨pb, 0, none⟩), r.val] w fun e w' => e = .returned (.int .i64 0) ∧ Below base w w' ∧ ∃ tx' ho', BookOk w' base pb mt mh (l ++ [r]) tx' ho' ∧ Else pb mt mh tx tx' w w' := by
  have c1 := h.blk.cell
  have hl60 := right_len l h.right
  have c14 : w.cell? ⟨pb, 14, none⟩ = some (.int .i64 (l.length : Nat)) := by rw [c1]; exact (bookCells_12 _ mt mh _ (pagesR_len l)).2.2
  have hb : Hid (recErr ((l.length : Int) + 1) r = 0) := hr
  have hpl := h.blk.lt
  obtain ⟨x, hx, hok, _⟩ := h.lookHold (r.page, r.cell)
  have HM : Hid (mayNotB l r x = false) := by unfold Hid; rw [mayNot_eq h.right hr hok, hf]; rfl
  have HX := (show Hid (lookP (ho.map hoEnt) (r.page, r.cell) (hoVal (0, 0)) = hoVal x) from hx)
  have HE := (show Hid (recErr (l.length + 1 : Nat) r = 0) from hr)
  have HF := (show Hid (followsR l r = true) from hf)
  clear c1 hr hf hx hok
  go_enter Try.func71, Try.ntmps71
  go_wp2_with fail
  refine (recCheck_any ((l.length : Int) + 1) r _).mono ?_
  rintro e w1 ⟨rfl, hw1⟩
  rw [hb.out]
  have R1 := (Blk.new w w.heap.size r.cs 39 rfl).ext hw1
  have c2 := R1.cell
  go_wp2_with fail
  have hE1 := ((Ext.refl w).alloc (.cells r.cs 39)).trans hw1
  refine (mayNot_any r _ (h.ext hE1) (recErr_kind HE.out) (recErr_fits HE.out) x HX.out).mono ?_
  rintro e w2 ⟨rfl, hw2⟩
  rw [HM.out]
  have R2 := R1.ext hw2
  have hE2 := hE1.trans hw2
  clear c2 R1 hw1 hw2 HM
  have c2 := R2.cell
  go_wp2_with fail
  have h2 := h.ext hE2
  have b2 := h2.blk
  refine (turn_ok h.right HE.out b2).mono ?_
  rintro e w3 ⟨rfl, g3, B3⟩
  have hrne : w.heap.size ≠ pb := by omega
  have R3 := R2.gr g3 (by simpa using hrne)
  clear c2
  have c3 := R3.cell
  go_wp2_with fail
  obtain ⟨sv, hlk, hown, hwho⟩ := h2.look r.txn
  have hpm : pb ≠ mh := blk_notmap h.blk h.hos
  have hpt : pb ≠ mt := blk_notmap h.blk h.txs
  have npb := own_notblk hown b2 (by decide)
  have o3 := own_gr hown g3 (fun k hk e => by injection e with e; exact npb k hk e)
  have T3 := h2.txs.gr g3 (by simpa using Ne.symm hpt)
  have hl12 := pagesR_len (l ++ [r])
  have hbc := bookCells_12 (pagesR (l ++ [r])) mt mh (l.length : Nat) hl12
  refine (hold_ok h.right HE.out HF.out B3 hbc.1 hbc.2.1 T3 (h2.hos.gr g3 (by simpa using Ne.symm hpm)) hlk o3 ⟨h.hold, h.held, h.once⟩).mono ?_
  rintro e w4 ⟨rfl, g4, ho', M4, hH⟩
  have hrm : w.heap.size ≠ mh := by have := h.hos.lt; omega
  have hrt : w.heap.size ≠ mt := by have := h.txs.lt; omega
  have R4 := R3.gr g4 (by simpa using hrm)
  have B4 := B3.gr g4 (by simpa using hpm)
  have T4 := T3.gr g4 (by simpa using h.ne)
  have nmh := own_notmap hown h2.hos
  have nmt := own_notmap hown h2.txs
  have o4 := own_gr o3 g4 (fun k hk e => by injection e with e; rw [e] at hk; exact nmh hk)
  have hbs : base ≤ w4.heap.size := by have := h.ge; have := hE2.size; have := g3.size; have := g4.size; omega
  clear c3 T3 o3 HX c14
  have c4 := R4.cell
  go_wp2_with fail
  clear c4
  have KC : Hid (∀ w', Blk w' w.heap.size r.cs 39 → Blk w' pb (bookCells (pagesR (l ++ [r])) mt mh (l.length : Nat)) 71 → (∀ o, w'.cell? ⟨w.heap.size, o, none⟩ = r.cs[o]?) ∧ w'.cell? ⟨pb, 12, none⟩ = some (.map (some mt))) := fun w' x y => ⟨x.cell, by rw [y.cell]; exact hbc.1⟩
  have nrow : ∀ k, sv.ownBlock = some k → k ≠ w.heap.size := fun k hk => by
    have := own_lt hown k hk
    rcases hwho with ⟨t, ht, _, hts⟩ | ⟨_, rfl⟩
    · have := own_lt (h.own t ht) k (by rw [hts]; exact hk)
      omega
    · simp [Value.ownBlock] at hk
  refine wp_region_held_drew (S := fun w' => (∀ o, w'.cell? ⟨w.heap.size, o, none⟩ = r.cs[o]?) ∧ w'.cell? ⟨pb, 12, none⟩ = some (.map (some mt))) (by kernel_rfl) (KC.out _ R4.drew B4.drew) (fun hHeld => ?_)
  refine wpAnyH_take (i := 0) (v := ?v1) rfl (by kernel_rfl) (by kernel_rfl) (by kernel_rfl) (fun _ _ _ h => h) (Or.inl ⟨by rfl, ?hy1⟩) hHeld ?r1
  case hy1 => first | (intro w hSw; (try dsimp only at hSw); go_simp; done) | (intro w hSw; (try dsimp only at hSw); go_simp; with_reducible rfl)
  simp only [Act.put]
  refine wpAnyH_take (i := 1) (v := ?v2) rfl (by kernel_rfl) (by kernel_rfl) (by kernel_rfl) (fun _ _ _ h => h) (Or.inl ⟨by rfl, ?hy2⟩) hHeld ?r2
  case hy2 => first | (intro w hSw; (try dsimp only at hSw); go_simp; done) | (intro w hSw; (try dsimp only at hSw); go_simp; with_reducible rfl)
  simp only [Act.put]
  refine wpAnyH_take (i := 2) (v := ?v3) rfl (by kernel_rfl) (by kernel_rfl) (by kernel_rfl) (fun _ _ _ h => h) (Or.inl ⟨by rfl, ?hy3⟩) hHeld ?r3
  case hy3 => first | (intro w hSw; (try dsimp only at hSw); go_simp; done) | (intro w hSw; (try dsimp only at hSw); go_simp; with_reducible rfl)
  simp only [Act.put]
  refine wpAnyH_take (i := 3) (v := ?v4) rfl (by kernel_rfl) (by kernel_rfl) (by kernel_rfl) (fun _ _ _ h => h) (Or.inl ⟨by rfl, ?hy4⟩) hHeld ?r4
  case hy4 => first | (intro w hSw; (try dsimp only at hSw); go_simp; done) | (intro w hSw; (try dsimp only at hSw); go_simp; with_reducible rfl)
  simp only [Act.put]
  refine wpAnyH_take (i := 4) (v := ?v5) rfl (by kernel_rfl) (by kernel_rfl) (by kernel_rfl) (fun _ _ _ h => h) (Or.inl ⟨by rfl, ?hy5⟩) hHeld ?r5
  case hy5 => first | (intro w hSw; (try dsimp only at hSw); go_simp; done) | (intro w hSw; (try dsimp only at hSw); go_simp; with_reducible rfl)
  simp only [Act.put]
  refine wpAnyH_take (i := 5) (v := ?v6) rfl (by kernel_rfl) (by kernel_rfl) (by kernel_rfl) (fun _ _ _ h => h) (Or.inl ⟨by rfl, ?hy6⟩) hHeld ?r6
  case hy6 => first | (intro w hSw; (try dsimp only at hSw); go_simp; done) | (intro w hSw; (try dsimp only at hSw); go_simp; with_reducible rfl)
  simp only [Act.put]
  refine wpAnyH_take (i := 6) (v := ?v7) rfl (by kernel_rfl) (by kernel_rfl) (by kernel_rfl) (fun _ _ _ h => h) (Or.inl ⟨by rfl, ?hy7⟩) hHeld ?r7
  case hy7 => first | (intro w hSw; (try dsimp only at hSw); go_simp; done) | (intro w hSw; (try dsimp only at hSw); go_simp; with_reducible rfl)
  simp only [Act.put]
  refine wpAnyH_take (i := 7) (v := ?v8) rfl (by kernel_rfl) (by kernel_rfl) (by kernel_rfl) (fun _ _ _ h => h) (Or.inl ⟨by rfl, ?hy8⟩) hHeld ?r8
  case hy8 => first | (intro w hSw; (try dsimp only at hSw); go_simp; done) | (intro w hSw; (try dsimp only at hSw); go_simp; with_reducible rfl)
  simp only [Act.put]
  refine wpAnyH_take (i := 8) (v := ?v9) rfl (by kernel_rfl) (by kernel_rfl) (by kernel_rfl) (fun _ _ _ h => h) (Or.inl ⟨by rfl, ?hy9⟩) hHeld ?r9
  case hy9 => first | (intro w hSw; (try dsimp only at hSw); go_simp; done) | (intro w hSw; (try dsimp only at hSw); go_simp; with_reducible rfl)
  simp only [Act.put]
  refine wpAnyH_take (i := 9) (v := ?v10) rfl (by kernel_rfl) (by kernel_rfl) (by kernel_rfl) (fun _ _ _ h => h) (Or.inl ⟨by rfl, ?hy10⟩) hHeld ?r10
  case hy10 => first | (intro w hSw; (try dsimp only at hSw); go_simp; done) | (intro w hSw; (try dsimp only at hSw); go_simp; with_reducible rfl)
  simp only [Act.put]
  refine wpAnyH_take (i := 10) (v := ?v11) rfl (by kernel_rfl) (by kernel_rfl) (by kernel_rfl) (fun _ _ _ h => h) (Or.inl ⟨by rfl, ?hy11⟩) hHeld ?r11
  case hy11 => first | (intro w hSw; (try dsimp only at hSw); go_simp; done) | (intro w hSw; (try dsimp only at hSw); go_simp; with_reducible rfl)
  simp only [Act.put]
  refine wpAnyH_take (i := 11) (v := ?v12) rfl (by kernel_rfl) (by kernel_rfl) (by kernel_rfl) (fun _ _ _ h => h) (Or.inl ⟨by rfl, ?hy12⟩) hHeld ?r12
  case hy12 => first | (intro w hSw; (try dsimp only at hSw); go_simp; done) | (intro w hSw; (try dsimp only at hSw); go_simp; with_reducible rfl)
  simp only [Act.put]
  refine wpAnyH_take (i := 13) (v := ?v13) rfl (by kernel_rfl) (by kernel_rfl) (by kernel_rfl) (fun _ _ _ h => h) (Or.inl ⟨by rfl, ?hy13⟩) hHeld ?r13
  case hy13 => first | (intro w hSw; (try dsimp only at hSw); go_simp; done) | (intro w hSw; (try dsimp only at hSw); go_simp; with_reducible rfl)
  simp only [Act.put]
  refine wpAnyH_take (i := 14) (v := ?v14) rfl (by kernel_rfl) (by kernel_rfl) (by kernel_rfl) (fun _ _ _ h => h) (Or.inl ⟨by rfl, ?hy14⟩) hHeld ?r14
  case hy14 => first | (intro w hSw; (try dsimp only at hSw); go_simp; done) | (intro w hSw; (try dsimp only at hSw); go_simp; with_reducible rfl)
  simp only [Act.put]
  have T4d : MapAt keyI w4.drew mt (tx.map TxE.ent) := T4.ext (Ext.refl w4).drew
  have hrun : (Instr.lookup 68 (.map (some mt)) (.int .i64 r.txn) false).run Try.prog w4.drew = .ok (txVal (stateR l r.txn) (lastR l r.txn : Nat) sv) w4.drew := by rw [run_lookI T4d r.txn]; exact congrArg (fun v => Result.ok v w4.drew) hlk
  refine wpAnyH_ready (rs := [12]) (by kernel_rfl) (by simp) ?_
  refine AllReadyH.cons rfl (fun K hK => ?_) AllReadyH.nil
  go_simp
  refine hK.out _ _ hHeld (fun hHeld => ?_)
  clear hK K hrun
  refine wpAnyH_ready (rs := [15]) (by kernel_rfl) (by simp) ?_
  refine AllReadyH.cons rfl (fun K hK => ?_) AllReadyH.nil
  go_simp
  refine (with_ok (stateR l r.txn) (lastR l r.txn : Nat) ((l.length : Int) + 1) h.right HE.out HF.out (own_ext o4 (Ext.refl w4).drew) hbs).mono ?_
  rintro e w5 ⟨sv', rfl, O5, hsv', g5⟩
  have g5' : Gr sv.ownBlock w4 w5 := ((Gr.refl sv.ownBlock w4).drew).trans g5
  have R5 := R4.gr g5' (fun e => nrow _ e.symm rfl)
  have B5 := B4.gr g5' (fun e => npb _ e.symm rfl)
  have T5 := T4.gr g5' (fun e => nmt e.symm)
  go_wp2_with fail
  clear hHeld
  refine hK.out _ _ (KC.out _ R5 B5) (fun hHeld => ?_)
  clear hK K
  obtain ⟨w6, hr6, M6, ho6⟩ := run_putI T5 r.txn (txVal r.kind ((l.length : Int) + 1) sv')
  refine wpAnyH_ready (rs := [16]) (by kernel_rfl) (by simp) ?_
  refine AllReadyH.cons rfl (fun K hK => ?_) AllReadyH.nil
  go_simp
  have R6 := R5.gr (Gr.of_only ho6) (by simpa using hrt)
  have B6 := B5.gr (Gr.of_only ho6) (by simpa using hpt)
  refine hK.out _ _ (KC.out _ R6 B6) (fun hHeld => ?_)
  clear hK K
  refine wpAnyH_done (by kernel_rfl) ?_ _
  clear KC hHeld hr6
  have c6 : w6.cell? ⟨pb, 14, none⟩ = some (.int .i64 (l.length : Nat)) := by rw [B6.cell]; exact hbc.2.2
  have f6 := B6.fr 14
  go_wp2_with fail
  go_ret
  have hfin := book_next (w7 := w6.setCell ⟨pb, 14, none⟩ (.int .i64 ((l.length : Int) + 1))) h HE.out HF.out ⟨hE2, g3, g4, g5', ho6, rfl⟩ hwho B3 M4 hH O5 hsv' M6
  have helse := book_else (w7 := w6.setCell ⟨pb, 14, none⟩ (.int .i64 ((l.length : Int) + 1))) (e := ⟨r.txn, r.kind, (l.length : Int) + 1, sv', standB (l ++ [r]) r.txn⟩) h ⟨hE2, g3, g4, g5', ho6, rfl⟩ hwho rfl hsv'
  exact ⟨rfl, hfin.1, _, _, hfin.2, helse⟩
end Go.Proofs.Ytgojonhjhdbpkaa.B
