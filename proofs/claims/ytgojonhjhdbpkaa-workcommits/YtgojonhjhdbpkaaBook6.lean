/- The contract of the book's mayNotFollow. -/
import Derived.Test.YtgojonhjhdbpkaaBook5
namespace Go.Proofs.Ytgojonhjhdbpkaa.B
set_option maxRecDepth 100000
open Go.ChangeShapes Go.WideShapes Go.ChangeAt Go.RowKit

theorem stand_len {l : List Rc} (h : Right l) (k : Int) : (standB l k).length ≤ 1000 := by
  have h1 := right_len l h
  by_cases h4 : stateR l k = 4
  · rw [stand_of_4 h4]; simp
  · rw [stand_of_n4 h4, standRecs_length]
    have := standsR_le l k
    omega
theorem own_slice {w : World} {base : Nat} {e : TypeId} {size n : Nat} {v : Value} {xs : List Value} (h : w.ownsRow base e size v n xs) : ∃ a m cap, v = .slice a m cap := by
  rcases h.2 with ⟨rfl, _⟩ | ⟨g, cap, cur, rfl, _⟩
  · exact ⟨none, 0, 0, rfl⟩
  · exact ⟨_, _, _, rfl⟩
theorem own_len {w : World} {base : Nat} {e : TypeId} {size n m cap : Nat} {a : Option Addr} {xs : List Value} (h : w.ownsRow base e size (.slice a m cap) n xs) : m = n := by
  rcases h.2 with ⟨e, h⟩ | ⟨g, cap, cur, e, _⟩ <;> injection e <;> omega
set_option maxHeartbeats 1000000 in
set_option maxRecDepth 100000 in
theorem mayNot_any {base pb mt mh : Nat} {l : List Rc} {tx : List TxE} {ho : List ((Int × Int) × (Int × Int))} (r : Rc) (w : World) (h : BookOk w base pb mt mh l tx ho)
    (hk : r.kind = 1 ∨ r.kind = 2 ∨ r.kind = 3 ∨ r.kind = 4) (hf : turns r = true → 0 ≤ r.page ∧ r.page ≤ 2 ∧ 0 ≤ r.cell ∧ r.cell ≤ 2) (x : Int × Int) (hx : lookP (ho.map hoEnt) (r.page, r.cell) (hoVal (0, 0)) = hoVal x) :
    Calls Try.prog 82 #[.pointer (some ⟨pb, 0, none⟩), r.val] w fun e w' => e = .returned (.bool (mayNotB l r x)) ∧ Ext w w' := by
  have HX := (show Hid (lookP (ho.map hoEnt) (r.page, r.cell) (hoVal (0, 0)) = hoVal x) from hx)
  have HK := (show Hid (r.kind = 1 ∨ r.kind = 2 ∨ r.kind = 3 ∨ r.kind = 4) from hk)
  have HF := (show Hid (turns r = true → 0 ≤ r.page ∧ r.page ≤ 2 ∧ 0 ≤ r.cell ∧ r.cell ≤ 2) from hf)
  clear hx hk hf
  go_enter Try.func82, Try.ntmps82
  go_wp2_with fail
  have C0 := (Blk.new w w.heap.size #[.pointer (some ⟨pb, 0, none⟩)] 63 rfl).alloc (.cells r.cs 39)
  have C1 := Blk.new (w.alloc (.cells #[.pointer (some ⟨pb, 0, none⟩)] 63)) (w.heap.size + 1) r.cs 39 (by simp)
  have hE := ((Ext.refl w).alloc (.cells #[.pointer (some ⟨pb, 0, none⟩)] 63)).alloc (.cells r.cs 39)
  generalize (w.alloc (.cells #[.pointer (some ⟨pb, 0, none⟩)] 63)).alloc (.cells r.cs 39) = W at *
  have hB := h.ext hE
  have hl12 := pagesR_len l
  obtain ⟨sv, hlk, hown, hwho⟩ := hB.look r.txn
  have hst := stand_len h.right r.txn
  obtain ⟨a, m, cap, rfl⟩ : ∃ a m cap, sv = .slice a m cap := own_slice hown
  have HO := (show Hid (W.ownsRow base 39 8 (.slice a m cap) (standB l r.txn).length (flat (standB l r.txn))) from hown)
  clear hown
  have KL : Hid (∀ w', Ext W w' → (Instr.lookup 68 (.map (some mt)) (.int .i64 r.txn) false).run Try.prog w' = .ok (txVal (stateR l r.txn) (lastR l r.txn : Nat) (.slice a m cap)) w') := fun w' e => by rw [run_lookI (hB.ext e).txs r.txn]; exact congrArg (fun v => Result.ok v w') hlk
  have KC : Hid (∀ w', Ext W w' → (∀ o, w'.cell? ⟨w.heap.size, o, none⟩ = #[.pointer (some ⟨pb, 0, none⟩)][o]?) ∧ (∀ o, w'.cell? ⟨w.heap.size + 1, o, none⟩ = r.cs[o]?) ∧ w'.cell? ⟨pb, 12, none⟩ = some (.map (some mt))) := fun w' e => ⟨(C0.ext e).cell, (C1.ext e).cell, by rw [(hB.ext e).blk.cell]; exact (bookCells_12 _ mt mh _ hl12).1⟩
  clear hlk hwho
  go_cut [5] (fun s5 wx => ∃ b5 : Nat, s5 = .pointer (some ⟨b5, 0, none⟩) ∧ Blk wx b5 #[.int .i64 (stateR l r.txn), .int .i64 (lastR l r.txn : Nat), .slice a m cap] 75 ∧ Ext W wx)
  case first =>
    go_region_held3 (fun w' => Ext W w' ∧ ((∀ o, w'.cell? ⟨w.heap.size, o, none⟩ = #[.pointer (some ⟨pb, 0, none⟩)][o]?) ∧ (∀ o, w'.cell? ⟨w.heap.size + 1, o, none⟩ = r.cs[o]?) ∧ w'.cell? ⟨pb, 12, none⟩ = some (.map (some mt))) ∧ (Instr.lookup 68 (.map (some mt)) (.int .i64 r.txn) false).run Try.prog w' = .ok (txVal (stateR l r.txn) (lastR l r.txn : Nat) (.slice a m cap)) w')
      ((refine (fun e => ⟨e, KC.out _ e, KL.out _ e⟩ : Ext W _ → _) ?_; first | exact (Ext.refl W).drew | exact ((Ext.refl W).alloc _).drew | exact hy | exact hy.alloc _ | exact (hy.setCell hbx _).setCell hbx _))
      (first
      | (fail)
      | (fail))
    all_goals (go_wp2_with fail; go_meet; case rel => exact ⟨_, rfl, Blk.new _ _ _ _ rfl, ((Ext.refl W).alloc _).drew⟩)
  case rest =>
    obtain ⟨b5, rfl, C2, hx5⟩ := hcut
    have D0 := C0.ext hx5
    have D1 := C1.ext hx5
    have hB2 := hB.ext hx5
    have hE2 := hE.trans hx5
    have hO2 := own_ext HO.out hx5
    have hfit : m = (standB l r.txn).length := own_len hO2
    clear C0 C1 hB hE KL KC HO
    go_wp2_with fail
    refine (any4 96 97 99 101 #[.pointer (some ⟨w.heap.size + 1, 0, none⟩), .pointer (some ⟨b5, 0, none⟩)] #[.pointer (some ⟨b5, 0, none⟩), .pointer (some ⟨w.heap.size + 1, 0, none⟩)] #[.pointer (some ⟨w.heap.size + 1, 0, none⟩), .pointer (some ⟨w.heap.size, 0, none⟩)] #[.pointer (some ⟨w.heap.size + 1, 0, none⟩), .pointer (some ⟨b5, 0, none⟩)]
      (r.prev != (lastR l r.txn : Nat)) (!allowsB (stateR l r.txn) (standB l r.txn).length r.kind) (r.kind == 1 && clashB l r x) (r.kind == 3 && !eqRc r (backB (lastR l r.txn : Nat) (standB l r.txn)))
      (by simp [go_sem]) (by simp [go_sem]) (by simp [go_sem]) (by simp [go_sem])
      (may1_ans (stateR l r.txn) (lastR l r.txn : Nat) _ r _ _ _ (D1.alloc _) (C2.alloc _))
      (fun _ => by rw [← hfit]; exact may2_ans (stateR l r.txn) (lastR l r.txn : Nat) a m cap r _ _ _ (D1.alloc _) (C2.alloc _) (by omega) HK.out)
      (fun _ _ => may3_ans r x _ _ _ (hB2.ext ((Ext.refl _).alloc _)) HX.out (D1.alloc _) (D0.alloc _) HF.out)
      (fun _ _ _ => may4_ans (stateR l r.txn) (lastR l r.txn : Nat) (.slice a m cap) (standB l r.txn) base r _ _ _ (D1.alloc _) (C2.alloc _) (own_ext hO2 ((Ext.refl _).alloc _)) hst)).mono ?_
    rintro e w2 ⟨rfl, hw2⟩
    go_wp2_with fail
    go_ret
    exact ⟨rfl, (hE2.alloc _).trans hw2⟩
end Go.Proofs.Ytgojonhjhdbpkaa.B
