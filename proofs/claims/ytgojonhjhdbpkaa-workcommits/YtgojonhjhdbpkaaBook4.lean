/- The contract of the book's clashes. -/
import Derived.Test.YtgojonhjhdbpkaaBook3
namespace Go.Proofs.Ytgojonhjhdbpkaa.B
set_option maxRecDepth 100000
open Go.ChangeShapes Go.WideShapes Go.ChangeAt Go.RowKit

set_option maxHeartbeats 1000000 in
set_option maxRecDepth 100000 in
theorem clashes_any {base pb mt mh : Nat} {l : List Rc} {tx : List TxE} {ho : List ((Int × Int) × (Int × Int))} (r : Rc) (x : Int × Int) (w : World) (h : BookOk w base pb mt mh l tx ho)
    (hx : lookP (ho.map hoEnt) (r.page, r.cell) (hoVal (0, 0)) = hoVal x) (p0 : 0 ≤ r.page) (p2 : r.page ≤ 2) (q0 : 0 ≤ r.cell) (q2 : r.cell ≤ 2) :
    Calls Try.prog 100 #[.pointer (some ⟨pb, 0, none⟩), r.val] w fun e w' => e = .returned (.bool (clashB l r x)) ∧ Ext w w' := by
  have HX := (show Hid (lookP (ho.map hoEnt) (r.page, r.cell) (hoVal (0, 0)) = hoVal x) from hx)
  clear hx
  have hl12 := pagesR_len l
  go_enter Try.func100, Try.ntmps100
  go_wp2_with fail
  have D0 := ((Blk.new w w.heap.size #[.pointer (some ⟨pb, 0, none⟩)] 63 rfl).alloc (.cells r.cs 39))
  have D1 := (Blk.new (w.alloc (.cells #[.pointer (some ⟨pb, 0, none⟩)] 63)) (w.heap.size + 1) r.cs 39 (by simp))
  have hE := ((Ext.refl w).alloc (.cells #[.pointer (some ⟨pb, 0, none⟩)] 63)).alloc (.cells r.cs 39)
  have hB2 := h.ext hE
  refine (any2 114 115 #[.pointer (some ⟨w.heap.size + 1, 0, none⟩), .pointer (some ⟨w.heap.size, 0, none⟩)] #[.pointer (some ⟨w.heap.size, 0, none⟩), .pointer (some ⟨w.heap.size + 1, 0, none⟩)] _ _ (by simp [go_sem]) (by simp [go_sem])
    (clash1_ans (pagesR l) mt mh pb (l.length : Nat) r _ _ _ hl12 (hB2.blk.alloc _) (D0.alloc _) (D1.alloc _) p0 p2 q0 q2) (fun _ => clash2_ans x r _ _ _ (hB2.ext ((Ext.refl _).alloc _)) HX.out (D0.alloc _) (D1.alloc _))).mono ?_
  rintro e w2 ⟨rfl, hw2⟩
  go_wp2_with fail
  go_ret
  exact ⟨rfl, (hE.alloc _).trans hw2⟩
end Go.Proofs.Ytgojonhjhdbpkaa.B
