/- The contract of the book's clashes. -/
import Derived.Test.YtbmojkcmjoechabBook3
namespace Go.Proofs.Ytbmojkcmjoechab.B
open Go.ChangeShapes Go.WideShapes Go.ChangeAt Go.RowKit

set_option maxHeartbeats 1000000 in
set_option maxRecDepth 100000 in
theorem clashes_any {base pb mt mh : Nat} {l : List Rc} {tx : List TxE} {ho : List ((Int × Int) × (Int × Int))} (r : Rc) (x : Int × Int) (w : World) (h : BookOk w base pb mt mh l tx ho)
    (hx : lookP (ho.map hoEnt) (r.page, r.cell) (hoVal (0, 0)) = hoVal x) (p0 : 0 ≤ r.page) (p2 : r.page ≤ 2) (q0 : 0 ≤ r.cell) (q2 : r.cell ≤ 2) :
    Calls Try.prog 46 #[.pointer (some ⟨pb, 0, none⟩), r.val] w fun e w' => e = .returned (.bool (clashB l r x)) ∧ Ext w w' := by
  have HX := (show Hid _ from hx)
  clear hx
  go_enter Try.func46, Try.ntmps46
  go_wp2_with fail
  have C0 := (Blk.new w w.heap.size #[.pointer (some ⟨pb, 0, none⟩)] 42 rfl).alloc (.cells r.cs 32)
  have C1 := Blk.new (w.alloc (.cells #[.pointer (some ⟨pb, 0, none⟩)] 42)) (w.heap.size + 1) r.cs 32 (by simp)
  have hE := ((Ext.refl w).alloc (.cells #[.pointer (some ⟨pb, 0, none⟩)] 42)).alloc (.cells r.cs 32)
  generalize (w.alloc (.cells #[.pointer (some ⟨pb, 0, none⟩)] 42)).alloc (.cells r.cs 32) = W at *
  have hB := h.ext hE
  have hl12 := pagesR_len l
  have KL : Hid (∀ w', Ext W w' → (Instr.lookup 49 (.map (some mh)) (keyP (r.page, r.cell)) false).run Try.prog w' = .ok (hoVal x) w') := fun w' e => by rw [run_lookP (hB.ext e).hos (r.page, r.cell), HX.out]
  have KC : Hid (∀ w', Ext W w' → (∀ o, w'.cell? ⟨w.heap.size, o, none⟩ = #[.pointer (some ⟨pb, 0, none⟩)][o]?) ∧ (∀ o, w'.cell? ⟨w.heap.size + 1, o, none⟩ = r.cs[o]?) ∧ w'.cell? ⟨pb, 13, none⟩ = some (.map (some mh))) := fun w' e => ⟨(C0.ext e).cell, (C1.ext e).cell, by rw [(hB.ext e).blk.cell]; exact (bookCells_12 _ mt mh _ hl12).2.1⟩
  go_cut [5] (fun s5 wx => ∃ b5 : Nat, s5 = .pointer (some ⟨b5, 0, none⟩) ∧ Blk wx b5 #[.int .i64 x.1, .int .i64 x.2] 78 ∧ Ext W wx)
  case first =>
    go_region_held3 (fun w' => Ext W w' ∧ ((∀ o, w'.cell? ⟨w.heap.size, o, none⟩ = #[.pointer (some ⟨pb, 0, none⟩)][o]?) ∧ (∀ o, w'.cell? ⟨w.heap.size + 1, o, none⟩ = r.cs[o]?) ∧ w'.cell? ⟨pb, 13, none⟩ = some (.map (some mh))) ∧ (Instr.lookup 49 (.map (some mh)) (keyP (r.page, r.cell)) false).run Try.prog w' = .ok (hoVal x) w')
      ((refine (fun e => ⟨e, KC.out _ e, KL.out _ e⟩ : Ext W _ → _) ?_; first | exact (Ext.refl W).drew | exact ((Ext.refl W).alloc _).drew | exact hy | exact hy.alloc _ | exact (hy.setCell hbx _).setCell hbx _))
      (first
      | (go_at_call 51; refine (placeOf_any r _).mono ?_; rintro e w' ⟨rfl, hw'⟩; have hy : Ext W w' := Ext.trans (And.left (by assumption)) hw'; have hbx : W.heap.size ≤ W.heap.size := Nat.le_refl _; have D := Blk.ext (Blk.drew (Blk.new W W.heap.size #[.int .i64 0, .int .i64 0] 78 rfl)) hw'; have dc := D.cell; have df := D.fr)
      | (go_at_call 51; refine (placeOf_any r _).mono ?_; rintro e w' ⟨rfl, hw'⟩; have hy : Ext W w' := Ext.trans (And.left (by assumption)) hw'; have hbx : W.heap.size ≤ W.heap.size := Nat.le_refl _))
    · go_wp2_with fail
      go_meet
      case rel => exact ⟨_, rfl, Blk.new _ _ _ _ rfl, hy.alloc _⟩
    · go_wp2_with fail
      go_meet
      case rel => exact ⟨_, rfl, Blk.new _ _ _ _ rfl, hy.alloc _⟩
    · go_wp2_with fail
      go_meet
      case rel => exact ⟨_, rfl, (D.set 0 _).set 1 _, (hy.setCell hbx _).setCell hbx _⟩
  case rest =>
    obtain ⟨b5, rfl, C2, hx5⟩ := hcut
    have D0 := C0.ext hx5
    have D1 := C1.ext hx5
    have hB2 := hB.ext hx5
    have hE2 := hE.trans hx5
    clear C0 C1 hB hE hx5 KL KC
    go_wp2_with fail
    refine (any2 60 61 #[.pointer (some ⟨w.heap.size + 1, 0, none⟩), .pointer (some ⟨w.heap.size, 0, none⟩)] #[.pointer (some ⟨b5, 0, none⟩), .pointer (some ⟨w.heap.size + 1, 0, none⟩)] _ _ (by simp [go_sem]) (by simp [go_sem])
      (clash1_ans (pagesR l) mt mh pb (l.length : Nat) r _ _ _ hl12 (hB2.blk.alloc _) (D0.alloc _) (D1.alloc _) p0 p2 q0 q2) (fun _ => clash2_ans x r _ _ _ (C2.alloc _) (D1.alloc _))).mono ?_
    rintro e w2 ⟨rfl, hw2⟩
    go_wp2_with fail
    go_ret
    exact ⟨rfl, (hE2.alloc _).trans hw2⟩
end Go.Proofs.Ytbmojkcmjoechab.B
