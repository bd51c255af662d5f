/- The contracts of putRec, lay and wire.Write. -/
import Derived.Test.YtbfefocehnafgaaDoorWire1
namespace Go.Proofs.YtbfefocehnafgaaDoor.B
set_option maxRecDepth 100000
open Go.ChangeShapes Go.WideShapes Go.ChangeAt Go.RowKit

theorem numsIn_blk {w : World} {b : Nat} {t : TypeId} {ns : List Int} (h : Blk w b (ns.map fun n => Value.int .i64 n).toArray t) : NumsIn w b 0 ns := fun i hi => by
  rw [h.cell, List.getElem?_toArray, Nat.zero_add]
  simp [hi]
theorem recBytes_3 {r : Rc} (h : r.kind = 3) : recBytes r = [r.kind, r.txn, r.prev].map byt ++ [r.page, r.cell, r.old, r.new].map byt ++ [r.next].map byt := by
  unfold recBytes turns; simp [h]
theorem recBytes_1 {r : Rc} (h : r.kind = 1) : recBytes r = [r.kind, r.txn, r.prev].map byt ++ [r.page, r.cell, r.old, r.new].map byt := by
  unfold recBytes turns; simp [h]
theorem recBytes_0 {r : Rc} (h3 : r.kind ≠ 3) (h1 : r.kind ≠ 1) : recBytes r = [r.kind, r.txn, r.prev].map byt := by
  unfold recBytes turns; simp [h3, h1]
set_option maxHeartbeats 8000000 in
theorem putRec_any (base bt : Nat) (bs : List UInt8) (r : Rc) (w : World) (T0 : Tape base bt bs w) (hl : bs.length ≤ 90000) :
    Calls Tryd.prog 24 #[.pointer (some ⟨bt, 0, none⟩), r.val] w fun e w' => e = .returned (.tuple #[]) ∧ Tape base bt (bs ++ recBytes r) w' ∧ Tp base bt w w' := by
  have hbt := T0.lt
  have hge := T0.ge
  have B1 := Blk.new w w.heap.size r.cs 46 rfl
  have x0 := (Ext.refl w).alloc (.cells r.cs 46)
  have T1 := T0.ext x0
  have P1 := (Tp.refl base bt w).ext (by omega) x0
  have hbx : w.heap.size ≠ bt := by omega
  go_enter Tryd.func24, Tryd.ntmps24
  have b1 := B1.cell
  have N1 := Blk.new (w.alloc (.cells r.cs 46)) (w.heap.size + 1) #[.int .i64 r.kind, .int .i64 r.txn, .int .i64 r.prev] 3 (by simp)
  have o1 := (Ext.refl (w.alloc (.cells r.cs 46))).alloc (.cells #[.int .i64 r.kind, .int .i64 r.txn, .int .i64 r.prev] 3)
  have U1 := T1.ext o1
  go_wp2_with fail
  refine (tapePut_any base bt bs (w.heap.size + 1) 0 3 3 [r.kind, r.txn, r.prev] _ U1 (numsIn_blk N1) rfl N1.lt (by omega) (N1.not8 (by decide)) (by simp; omega)).mono ?_
  rintro e w2 ⟨rfl, T2, p1⟩
  have B2 := (B1.ext o1).tp p1 hbx (by decide)
  have P2 := (P1.ext (by have := T1.lt; omega) o1).trans p1
  clear b1 N1 o1 U1 p1 B1 P1
  generalize w.heap.size = bx at *
  have b2 := B2.cell
  go_wp2_with fail
  refine (turns_any r _).mono ?_
  rintro e w2a ⟨rfl, hw⟩
  have B3 := B2.ext hw
  have T3 := T2.ext hw
  have P3 := P2.ext (by have := T2.lt; omega) hw
  clear hw b2 B2 P2 T1 T2
  by_cases h3 : r.kind = 3
  · have HE := (show Hid _ from recBytes_3 h3)
    have hk : (r.kind == 3) = true := by simp [h3]
    have ht : turns r = true := by unfold turns; simp [h3]
    rw [ht]
    clear h3
    have b3 := B3.cell
    have N3 := Blk.new w2a w2a.heap.size #[.int .i64 r.page, .int .i64 r.cell, .int .i64 r.old, .int .i64 r.new] 3 rfl
    have o3 := (Ext.refl w2a).alloc (.cells #[.int .i64 r.page, .int .i64 r.cell, .int .i64 r.old, .int .i64 r.new] 3)
    have U3 := T3.ext o3
    go_wp2_with fail
    refine (tapePut_any base bt (bs ++ ([r.kind, r.txn, r.prev].map byt)) w2a.heap.size 0 4 4 [r.page, r.cell, r.old, r.new] _ U3 (numsIn_blk N3) rfl N3.lt (by have := T3.lt; omega) (N3.not8 (by decide)) (by simp; omega)).mono ?_
    rintro e w4 ⟨rfl, T4, p3⟩
    have B4 := (B3.ext o3).tp p3 hbx (by decide)
    have P4 := (P3.ext (by have := T3.lt; omega) o3).trans p3
    clear b3 N3 o3 U3 p3 B3 P3
    have b4 := B4.cell
    have N4 := Blk.new w4 w4.heap.size #[.int .i64 r.next] 3 rfl
    have o4 := (Ext.refl w4).alloc (.cells #[.int .i64 r.next] 3)
    have U4 := T4.ext o4
    go_wp2_with fail
    refine (tapePut_any base bt ((bs ++ ([r.kind, r.txn, r.prev].map byt)) ++ ([r.page, r.cell, r.old, r.new].map byt)) w4.heap.size 0 1 1 [r.next] _ U4 (numsIn_blk N4) rfl N4.lt (by have := T4.lt; omega) (N4.not8 (by decide)) (by simp; omega)).mono ?_
    rintro e w5 ⟨rfl, T5, p4⟩
    have B5 := (B4.ext o4).tp p4 hbx (by decide)
    have P5 := (P4.ext (by have := T4.lt; omega) o4).trans p4
    clear b4 N4 o4 U4 p4 B4 P4
    have b5 := B5.cell
    go_wp2_with fail
    refine bodyPost_end (results_none rfl _ _ _) rfl ?_
    exact ⟨rfl, by rw [HE.out]; simpa using T5, P5⟩
  · by_cases h1 : r.kind = 1
    · have HE := (show Hid _ from recBytes_1 h1)
      have hk : (r.kind == 3) = false := by simp [h3]
      have ht : turns r = true := by unfold turns; simp [h1]
      rw [ht]
      clear h3 h1
      have b3 := B3.cell
      have N3 := Blk.new w2a w2a.heap.size #[.int .i64 r.page, .int .i64 r.cell, .int .i64 r.old, .int .i64 r.new] 3 rfl
      have o3 := (Ext.refl w2a).alloc (.cells #[.int .i64 r.page, .int .i64 r.cell, .int .i64 r.old, .int .i64 r.new] 3)
      have U3 := T3.ext o3
      go_wp2_with fail
      refine (tapePut_any base bt (bs ++ ([r.kind, r.txn, r.prev].map byt)) w2a.heap.size 0 4 4 [r.page, r.cell, r.old, r.new] _ U3 (numsIn_blk N3) rfl N3.lt (by have := T3.lt; omega) (N3.not8 (by decide)) (by simp; omega)).mono ?_
      rintro e w4 ⟨rfl, T4, p3⟩
      have B4 := (B3.ext o3).tp p3 hbx (by decide)
      have P4 := (P3.ext (by have := T3.lt; omega) o3).trans p3
      clear b3 N3 o3 U3 p3 B3 P3
      have b4 := B4.cell
      go_wp2_with fail
      refine bodyPost_end (results_none rfl _ _ _) rfl ?_
      exact ⟨rfl, by rw [HE.out]; simpa using T4, P4⟩
    · have HE := (show Hid _ from recBytes_0 h3 h1)
      have hk : (r.kind == 3) = false := by simp [h3]
      have ht : turns r = false := by unfold turns; simp [h1, h3]
      rw [ht]
      clear h3 h1
      have b3 := B3.cell
      go_wp2_with fail
      refine bodyPost_end (results_none rfl _ _ _) rfl ?_
      exact ⟨rfl, by rw [HE.out]; simpa using T3, P3⟩
end Go.Proofs.YtbfefocehnafgaaDoor.B
