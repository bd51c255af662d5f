/- The contracts of the reference's OwnWorld and put. -/
import Derived.Test.YtlpodahldpaniaaWorkA
import Derived.Laws.AppendOwnNone
namespace Go.Proofs.Ytlpodahldpaniaa.B
set_option maxRecDepth 100000
open Go.ChangeShapes Go.WideShapes Go.ChangeAt Go.RowKit

/-- A record with the number of the one ahead. -/
def linkR (l : List Rc) (r : Rc) : Rc := ⟨r.kind, r.txn, (lastR l r.txn : Nat), r.page, r.cell, r.old, r.new, r.next⟩
theorem own_fresh (w : World) (o1 o2 : Obj) : (((w.alloc o1).alloc o2).alloc (.cells #[] 56)).ownsRow w.heap.size 56 8 (.slice (some ⟨w.heap.size + 1 + 1, 0, none⟩) 0 0) 0 [] := by
  have := World.ownsRow_lit (base := w.heap.size) (e := 56) (size := 8) ((w.alloc o1).alloc o2) #[] 0 (by simp; omega) (by decide) rfl
  simpa using this
set_option maxHeartbeats 4000000 in
theorem ownWorld_any (p q r : Pg) (a : Option Addr) (len cap : Nat) (l : List Rc) (safe : Int) (w : World) (h : LogIn w a len cap l) (hl : len ≤ 60) :
    Calls Try.prog 30 #[wdVal p q r (.slice a len cap) safe] w fun e w' => ∃ a' cap', e = .returned (wdVal p q r (.slice a' l.length cap') safe) ∧ Ext w w' ∧ w'.ownsRow w.heap.size 56 8 (.slice a' l.length cap') l.length (flat l) := by
  obtain ⟨i0, hi, hz0, hz1, hz2⟩ := info_parts infoRec
  have HI := (show Hid _ from hi)
  have Z0 := (show Hid _ from hz0)
  have Z1 := (show Hid _ from hz1)
  have Z2 := (show Hid _ from hz2)
  clear hi hz0 hz1 hz2
  have hll := h.recs.len
  have E0 := (((Ext.refl w).alloc (.cells (wdCells p q r (.slice a len cap) safe) 28)).alloc (.cells (wdCells noPg noPg noPg (.slice none 0 0) 0) 28)).alloc (.cells #[] 56)
  have B0 := ((Blk.new w w.heap.size (wdCells p q r (.slice a len cap) safe) 28 rfl).alloc (.cells (wdCells noPg noPg noPg (.slice none 0 0) 0) 28)).alloc (.cells #[] 56)
  have N0 := (Blk.new (w.alloc (.cells (wdCells p q r (.slice a len cap) safe) 28)) (w.heap.size + 1) (wdCells noPg noPg noPg (.slice none 0 0) 0) 28 (by simp)).alloc (.cells #[] 56)
  have hN := own_fresh w (.cells (wdCells p q r (.slice a len cap) safe) 28) (.cells (wdCells noPg noPg noPg (.slice none 0 0) 0) 28)
  have b0 := B0.cell
  cases a with
  | none =>
    obtain rfl := h.nil rfl
    have hl0 : len = 0 := by
      rcases h.recs.2 with ⟨_, h0⟩ | ⟨b, off, e, _⟩
      · exact h0
      · cases e
    subst hl0
    have hl1 : l = [] := List.length_eq_zero_iff.1 hll
    subst hl1
    go_enter Try.func30, Try.ntmps30
    go_wp2_with (at_builtin; refine wpList_append_own_none _ rfl _ _ 26 rfl w.heap.size 56 i0 8 Try.underlying26 HI.out (.slice (some ⟨w.heap.size + 1 + 1, 0, none⟩) 0 0) 0 [] rfl hN rfl ?_)
    refine bodyPost_ret (v := .agg (wdCells p q r (.slice (some ⟨w.heap.size + 1 + 1, 0, none⟩) 0 0) safe)) (by simp [results, Try.results30, go_sem]) rfl ⟨_, _, rfl, ?_, ?_⟩
    · exact (((Ext.refl w).alloc _).alloc _).alloc _
    · exact own_fresh w _ _
  | some ad =>
    obtain ⟨b, off, rfl⟩ : ∃ b off, ad = ⟨b, off, none⟩ := by
      rcases h.recs.2 with ⟨e, _⟩ | ⟨b, off, e, _⟩
      · cases e
      · injection e with e; exact ⟨b, off, e⟩
    have hcl := recs_cells (h.recs.ext E0)
    have HLen : Hid ((flat l).length = len * 8) := by rw [Hid, flat_len, hll]
    go_enter Try.func30, Try.ntmps30
    go_wp2_with (at_builtin; refine wpList_append_own _ rfl _ _ 26 rfl w.heap.size 56 i0 (.agg #[.int .i64 0, .int .i64 0, .int .i64 0, .int .i64 0, .int .i64 0, .int .i64 0, .int .i64 0, .int .i64 0]) 8 64 Try.underlying26 HI.out Z0.out Z1.out Z2.out rfl (by decide) (.slice (some ⟨w.heap.size + 1 + 1, 0, none⟩) 0 0) 0 [] rfl hN ⟨b, off, none⟩ len cap (flat l) rfl HLen.out hcl (flat_one l) (by unfold maxLen; omega) (by omega) (by simp; omega) ?_; intro v' w3 hown' hgrow hnil3; obtain ⟨sa, sm, sc, hvv⟩ := own_slice hown'; subst hvv; clear hnil3; have B3 := B0.gr hgrow (by simp [Value.ownBlock] <;> omega); have N3 := N0.gr hgrow (by simp [Value.ownBlock] <;> omega); have b3 := B3.cell; have f3 := B3.fr; have B4 := B3.set 12 (.slice sa sm sc); have b4 := B4.cell; have N4 := N3.other ⟨w.heap.size, 12, none⟩ (.slice sa sm sc) (by simp); have n4 := N4.cell; have g4 := N4.fr)
    have E3 : Ext w w3 := E0.grown hN hgrow
    rw [Nat.zero_add, List.nil_append, ← hll] at hown'
    have G4 : Gr (some w.heap.size) w3 (w3.setCell ⟨w.heap.size, 12, none⟩ (.slice sa sm sc)) := (Gr.refl (some w.heap.size) w3).set (p := ⟨w.heap.size, 12, none⟩) (Or.inr rfl) _
    have own4 := own_gr hown' G4 (fun k hk e => by injection e with e; exact own_notblk hown' B3 (by decide) k hk e)
    have E4 := E3.setCell (p := ⟨w.heap.size, 12, none⟩) (Nat.le_refl _) (.slice sa sm sc)
    have G5 := put14_gr (w3.setCell ⟨w.heap.size, 12, none⟩ (.slice sa sm sc)) (w.heap.size + 1) (.int .i64 p.c0) (.int .i64 p.c1) (.int .i64 p.c2) (.int .i64 p.last) (.int .i64 q.c0) (.int .i64 q.c1) (.int .i64 q.c2) (.int .i64 q.last) (.int .i64 r.c0) (.int .i64 r.c1) (.int .i64 r.c2) (.int .i64 r.last) (.slice sa sm sc) (.int .i64 safe)
    have own5 := own_gr own4 G5 (fun k hk e => by injection e with e; exact own_notblk own4 N4 (by decide) k hk e)
    have E5 := put14_ext E4 (w.heap.size + 1) (by omega) (.int .i64 p.c0) (.int .i64 p.c1) (.int .i64 p.c2) (.int .i64 p.last) (.int .i64 q.c0) (.int .i64 q.c1) (.int .i64 q.c2) (.int .i64 q.last) (.int .i64 r.c0) (.int .i64 r.c1) (.int .i64 r.c2) (.int .i64 r.last) (.slice sa sm sc) (.int .i64 safe)
    obtain rfl := own_len hown'
    refine bodyPost_ret (v := .agg (wdCells p q r (.slice sa l.length sc) safe)) (by simp [results, Try.results30, go_sem, n4]) rfl ⟨_, _, rfl, ?_, ?_⟩
    · exact E5
    · exact own5
end Go.Proofs.Ytlpodahldpaniaa.B
