/- What All and Half answer, in one form for the world and for the error. How slices of truths, and of numbers, that a law is handed are opened. mendBegun answers true. The contract of the laws' is, where the cells of the pages are the cells asked. -/
import Derived.Test.YtbfefocehnafgaaGreatCrew9
import Derived.Test.YtbfefocehnafgaaGreatPlainA
import Derived.Test.YtbfefocehnafgaaGreatDeskB
import Derived.Test.YtbfefocehnafgaaGreatCrewB
import Derived.Test.YtbfefocehnafgaaGreatScanA
import Derived.BigQuiet
namespace Go.Proofs.YtbfefocehnafgaaGreat.B
set_option maxRecDepth 100000
open Go.ChangeShapes Go.WideShapes Go.ChangeAt Go.RowKit

/-- What All answers, in one form for the world and for the error. -/
theorem AllAns.all {base : Nat} {w' : World} {e : Ending} {p q r : Pg} {x : Int} {n : Nat} {l' : List Rc} {s : Int} (h : AllAns base w' e p q r x n l' s) :
    ∃ a cap, e = .returned (.tuple #[wdVal (ansP x p) (ansP x q) (ansP x r) (.slice a (ansL x l').length cap) (ansS x s), .int .i64 (ansS x (n : Nat)), .int .i64 x]) ∧ LogIn w' a (ansL x l').length cap (ansL x l') := by
  unfold ansP ansL ansS
  rcases h with ⟨rfl, a, cap, rfl, hin, _⟩ | ⟨hx, rfl⟩
  · exact ⟨a, cap, rfl, hin⟩
  · simp only [if_neg hx]
    exact ⟨none, 0, rfl, ⟨recs_none _, Nat.le_refl _, Nat.zero_le _, fun _ => rfl, fun ad e => by cases e⟩⟩
theorem WorkAns.allIn {base : Nat} {w' : World} {e : Ending} {p q r : Pg} {x : Int} {l' : List Rc} {s : Int} (h : WorkAns base w' e p q r x l' s) :
    ∃ a cap, e = .returned (.tuple #[wdVal (ansP x p) (ansP x q) (ansP x r) (.slice a (ansL x l').length cap) (ansS x s), .int .i64 x]) ∧ LogIn w' a (ansL x l').length cap (ansL x l') := by
  unfold ansP ansL ansS
  rcases h with ⟨rfl, a, cap, rfl, hin, _⟩ | ⟨hx, rfl⟩
  · exact ⟨a, cap, rfl, hin⟩
  · simp only [if_neg hx]
    exact ⟨none, 0, rfl, ⟨recs_none _, Nat.le_refl _, Nat.zero_le _, fun _ => rfl, fun ad e => by cases e⟩⟩
theorem ans_ok {x : Int} (h : x = 0) (p : Pg) (l : List Rc) (s : Int) : ansP x p = p ∧ ansL x l = l ∧ ansS x s = s := by
  unfold ansP ansL ansS
  rw [if_pos h, if_pos h, if_pos h]
  exact ⟨rfl, rfl, rfl⟩
theorem errOf_half {we e : Int} (h : errOf we e = 0) : we = 0 ∧ e = 0 := errOf_zero h
end Go.Proofs.YtbfefocehnafgaaGreat.B
namespace Go.Proofs.YtbfefocehnafgaaGreat.B
set_option maxRecDepth 100000
open Go.ChangeShapes Go.WideShapes Go.ChangeAt Go.RowKit

theorem boolCells : Tryz.prog.cellsOf 4 = 1 := by kernel_rfl
theorem okWide_ints {W : World} {base : Nat} {v : Value} (h : Value.okWide Tryz.prog W .any base 45 v) : v = .slice none 0 0 ∨ ∃ b off len cap, v = .slice (some ⟨b, off, none⟩) len cap := by
  simp only [Value.okWide, Tryz.underlying45] at h
  simp only [Cell.okWide, Tryz.underlying45] at h
  cases v <;> simp only [Cell.ok, Tryz.underlying45] at h
  rename_i x len cap
  cases x with
  | none =>
    cases len with
    | zero => cases cap with
      | zero => exact Or.inl rfl
      | succ c => exact h.elim
    | succ l => exact h.elim
  | some a =>
    obtain ⟨b, off, sp⟩ := a
    have : sp = none := h.2.2.2.1
    subst this
    exact Or.inr ⟨b, off, len, cap, rfl⟩
/-- A slice's address and the numbers that it leads to, wherever they lie. -/
def NumsAt (w : World) (a : Option Addr) (len : Nat) (ns : List Int) : Prop := ns.length = len ∧ (∀ n ∈ ns, IntKind.i64.has n) ∧ (ns = [] ∨ ∃ b off, a = some ⟨b, off, none⟩ ∧ ∀ i, (h : i < ns.length) → w.cell? ⟨b, off + i, none⟩ = some (.int .i64 ns[i]))
theorem NumsAt.ext {w w' : World} {a : Option Addr} {len : Nat} {ns : List Int} (h : NumsAt w a len ns) (e : Ext w w') : NumsAt w' a len ns := by
  obtain ⟨h1, h2, h | ⟨b, off, ha, hc⟩⟩ := h
  · exact ⟨h1, h2, Or.inl h⟩
  · exact ⟨h1, h2, Or.inr ⟨b, off, ha, fun i hi => e.cell (hc i hi)⟩⟩
theorem NumsAt.at {w : World} {a : Option Addr} {len : Nat} {ns : List Int} (h : NumsAt w a len ns) {k : Nat} (hk : k < ns.length) : ∃ b off, a = some ⟨b, off, none⟩ ∧ w.cell? ⟨b, off + k, none⟩ = some (.int .i64 ns[k]) ∧ IntKind.i64.has ns[k] := by
  obtain ⟨_, h2, h | ⟨b, off, ha, hc⟩⟩ := h
  · rw [h] at hk; exact absurd hk (Nat.not_lt_zero k)
  · exact ⟨b, off, ha, hc k hk, h2 _ (List.getElem_mem hk)⟩
/-- A list of what is there, one by one. -/
theorem list_of {α : Type} (p : Nat → α → Prop) (n : Nat) (h : ∀ i, i < n → ∃ a, p i a) : ∃ l : List α, l.length = n ∧ ∀ i, (hi : i < l.length) → p i l[i] := by
  induction n with
  | zero => exact ⟨[], rfl, fun i hi => absurd hi (Nat.not_lt_zero i)⟩
  | succ n ih =>
    obtain ⟨l, hl, hp⟩ := ih (fun i hi => h i (by omega))
    obtain ⟨a, ha⟩ := h n (by omega)
    refine ⟨l ++ [a], by simp [hl], fun i hi => ?_⟩
    by_cases hin : i < l.length
    · rw [List.getElem_append_left hin]; exact hp i hin
    · have : i = n := by simp at hi; omega
      subst this
      rw [List.getElem_append_right (by omega)]
      simpa using ha
theorem open_ints {H : Type} {enc : TypeId × Value → H} {W : World} {base : Nat} {v : Value} {d : DataW H} {ps : List MemPlace} (hval : Value.okWide Tryz.prog W .any base 45 v)
    (hd : DataW.Trod enc Tryz.prog W 0 (fun _ => true) true 45 v d ps) : ∃ x len cap ns, v = .slice x len cap ∧ (NumsAt W x len ns ∧ len ≤ maxLen) := by
  obtain ⟨fuel, hf⟩ := hd
  rcases okWide_ints hval with rfl | ⟨b, off, len, cap, rfl⟩
  · exact ⟨none, 0, 0, [], rfl, ⟨rfl, (fun n hn => (by cases hn)), Or.inl rfl⟩, Nat.zero_le _⟩
  · rcases Go.Deep.open_slice1 Tryz.underlying45 intCells hf with ⟨h0, _⟩ | ⟨a, len', cap', m, n, V, D, Pl, hcs, _, hlc, hcm, hm, _, hx⟩
    · simp [Value.cells] at h0
    · simp [Value.cells] at hcs
      obtain ⟨rfl, rfl, rfl⟩ := hcs
      have hlm : len ≤ m := by rw [hm]; split <;> omega
      obtain ⟨l, hl, hp⟩ := list_of (fun i (k : Int) => W.cell? ⟨b, off + i, none⟩ = some (.int .i64 k) ∧ IntKind.i64.has k) len (fun i hi => by
        obtain ⟨h1, h2⟩ := hx i (by omega)
        obtain ⟨k, hk, _, hwf⟩ := DataW.trod_int Tryz.underlying3 h2
        injection hk with hk
        rw [hk, Addr.add_lit] at h1
        simp only [Lit.wf, Bool.and_eq_true, decide_eq_true_eq] at hwf
        exact ⟨k, h1, hwf⟩)
      refine ⟨_, len, cap, l, rfl, ⟨hl, fun k hk => ?_, Or.inr ⟨b, off, rfl, fun i hi => (hp i hi).1⟩⟩, Nat.le_trans hlc hcm⟩
      obtain ⟨i, hi, e⟩ := List.getElem_of_mem hk
      have := (hp i hi).2
      rw [e] at this
      exact this
end Go.Proofs.YtbfefocehnafgaaGreat.B
namespace Go.Proofs.YtbfefocehnafgaaGreat.B
set_option maxRecDepth 100000
open Go.ChangeShapes Go.WideShapes Go.ChangeAt Go.RowKit

abbrev half1L : List Rc := mendN (1 : Int).toNat (someL.take (6 : Int).toNat)
abbrev allL : List Rc := mendR (someL.take (6 : Int).toNat)
theorem mb1 : errOf (worldErr zPg ⟨0, 6, 0, 2⟩ zPg someL 6) (mendErr (someL.take (6 : Int).toNat)) = 0 := by decide +kernel
theorem mb2 : needR (someL.take (6 : Int).toNat) = 2 := by decide +kernel
theorem mb3 : allL.length = 8 := by decide +kernel
theorem mb4 : pagesR allL = [0, 0, 0, 7, 0, 6, 0, 2, 0, 0, 0, 0] := by decide +kernel
theorem mb5 : errOf (worldErr zPg ⟨0, 6, 0, 2⟩ zPg someL 6) (halfX 1 3 (someL.take (6 : Int).toNat)) = 0 := by decide +kernel
theorem mb6 : half1L.length = 7 := by decide +kernel
theorem mb7 : pagesR half1L = [0, 0, 0, 7, 0, 6, 0, 2, 0, 0, 0, 0] := by decide +kernel
theorem mb8 : errOf (worldErr zPg ⟨0, 6, 0, 2⟩ zPg someL 6) (halfX (-1) 3 (someL.take (6 : Int).toNat)) = 3 := by decide +kernel
theorem mb9 : errOf (worldErr zPg ⟨0, 6, 0, 2⟩ zPg someL 6) (halfX 1 0 (someL.take (6 : Int).toNat)) = 1 := by decide +kernel
theorem mb10 : half1L.take (7 : Int).toNat = half1L := by rw [show (7 : Int).toNat = half1L.length from by rw [mb6]; rfl, List.take_length]
theorem mb11 : errOf (worldErr ⟨0, 0, 0, 7⟩ ⟨0, 6, 0, 2⟩ zPg half1L 7) (mendErr half1L) = 0 := by decide +kernel
theorem mb12 : needR half1L = 1 := by decide +kernel
theorem mb13 : mendR half1L = allL := by
  have hR : Right (someL.take (6 : Int).toNat) := (logErr_zero (by decide +kernel : logErr (someL.take (6 : Int).toNat) = 0)).2
  exact (mendR_part hR (by decide +kernel) 1).2.1
theorem bools_blk {w : World} {b : Nat} {t : TypeId} {b0 b1 b2 : Bool} (h : Blk w b #[.bool b0, .bool b1, .bool b2] t) : Bools w (some ⟨b, 0, none⟩) 3 [b0, b1, b2] := by
  refine ⟨rfl, Or.inr ⟨b, 0, rfl, fun i hi => ?_⟩⟩
  rw [Nat.zero_add, h.cell]
  match i, hi with
  | 0, _ => rfl
  | 1, _ => rfl
  | 2, _ => rfl
end Go.Proofs.YtbfefocehnafgaaGreat.B
namespace Go.Proofs.YtbfefocehnafgaaGreat.B
set_option maxRecDepth 100000
open Go.ChangeShapes Go.WideShapes Go.ChangeAt Go.RowKit

/-- The nine cells of three pages. -/
abbrev val9 (p q r : Pg) : Array Value := #[.int .i64 p.c0, .int .i64 p.c1, .int .i64 p.c2, .int .i64 q.c0, .int .i64 q.c1, .int .i64 q.c2, .int .i64 r.c0, .int .i64 r.c1, .int .i64 r.c2]
abbrev val12 (p q r : Pg) : Array Value := #[.int .i64 p.c0, .int .i64 p.c1, .int .i64 p.c2, .int .i64 p.last, .int .i64 q.c0, .int .i64 q.c1, .int .i64 q.c2, .int .i64 q.last, .int .i64 r.c0, .int .i64 r.c1, .int .i64 r.c2, .int .i64 r.last]
theorem eqn_arr (a b c : Int) : ∀ w, (Op.equalIn 10000 22 (.agg #[.int .i64 a, .int .i64 b, .int .i64 c]) (.agg #[.int .i64 a, .int .i64 b, .int .i64 c])).run Tryz.prog w = .ok true w := fun w => by
  have := eql_arr a b c a b c w
  rw [this]
  simp
set_option maxHeartbeats 4000000 in
theorem is_any (p q r : Pg) (w : World) :
    Calls Tryz.prog 23 #[val3 p q r, .agg (val9 p q r)] w fun e w' => e = .returned (.bool true) ∧ Ext w w' := by
  have E0 := ((Ext.refl w).alloc (.cells (val12 p q r) 25)).alloc (.cells (val9 p q r) 48)
  have A := (Blk.new w w.heap.size (val12 p q r) 25 rfl).alloc (.cells (val9 p q r) 48)
  have B := Blk.new (w.alloc (.cells (val12 p q r) 25)) (w.heap.size + 1) (val9 p q r) 48 (by simp)
  have e0 := eqn_arr p.c0 p.c1 p.c2
  have e1 := eqn_arr q.c0 q.c1 q.c2
  have e2 := eqn_arr r.c0 r.c1 r.c2
  go_enter Tryz.func23, Tryz.ntmps23
  go_wp2_with fail
  generalize (w.alloc (.cells (val12 p q r) 25)).alloc (.cells (val9 p q r) 48) = w0 at *
  generalize w.heap.size = bp at *
  go_loopw [5] (fun i wr => ∃ k : Nat, k ≤ 3 ∧ i = .int .i64 k ∧ Ext w wr ∧ Blk wr bp (val12 p q r) 25 ∧ Blk wr (bp + 1) (val9 p q r) 48) (fun i _ => 3 - (intOf i).toNat)
  case atStart => exact ⟨0, Nat.zero_le _, rfl, E0, A, B⟩
  case round =>
    obtain ⟨k, hk, rfl, hE, A1, B1⟩ := hrel
    clear A B E0
    by_cases hlt : k < 3
    · have ac := A1.cell
      have bc := B1.cell
      have hk3 : k = 0 ∨ k = 1 ∨ k = 2 := by omega
      rcases hk3 with rfl | rfl | rfl
      all_goals
        go_wp2_with fail
        go_quiet (fail)
        go_wp2_with fail
        go_roundw
        case rel => first | exact ⟨1, by decide, by go_num, hE.drewN _, A1.drewN _, B1.drewN _⟩ | exact ⟨2, by decide, by go_num, hE.drewN _, A1.drewN _, B1.drewN _⟩ | exact ⟨3, by decide, by go_num, hE.drewN _, A1.drewN _, B1.drewN _⟩
        case measure => simp [intOf]
    · obtain rfl : k = 3 := by omega
      go_wp2_with fail
      go_ret
      exact ⟨rfl, hE⟩
end Go.Proofs.YtbfefocehnafgaaGreat.B
