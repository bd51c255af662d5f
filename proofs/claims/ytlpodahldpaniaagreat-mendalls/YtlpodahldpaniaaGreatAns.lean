/- What a call answers that makes a world, in one form for the world and for the error. -/
import Derived.Test.YtlpodahldpaniaaGreatRoll0
import Derived.Test.YtlpodahldpaniaaGreatDesk4
namespace Go.Proofs.YtlpodahldpaniaaGreat.B
set_option maxRecDepth 100000
open Go.ChangeShapes Go.WideShapes Go.ChangeAt Go.RowKit

def ansP (x : Int) (p : Pg) : Pg := if x = 0 then p else noPg
def ansL (x : Int) (l : List Rc) : List Rc := if x = 0 then l else []
def ansS (x s : Int) : Int := if x = 0 then s else 0
theorem WorkAns.all {base : Nat} {w' : World} {e : Ending} {p q r : Pg} {x : Int} {l' : List Rc} {s : Int} (h : WorkAns base w' e p q r x l' s) :
    ∃ a cap, e = .returned (.tuple #[wdVal (ansP x p) (ansP x q) (ansP x r) (.slice a (ansL x l').length cap) (ansS x s), .int .i64 x]) ∧ Recs w' a (ansL x l').length (ansL x l') := by
  unfold ansP ansL ansS
  rcases h with ⟨rfl, a, cap, rfl, hin, _⟩ | ⟨hx, rfl⟩
  · exact ⟨a, cap, rfl, hin.recs⟩
  · simp only [if_neg hx]
    exact ⟨none, 0, rfl, recs_none _⟩
theorem ansL_ok {x : Int} {l : List Rc} (h : x = 0) : ansL x l = l := by unfold ansL; rw [if_pos h]
theorem ansL_len {x : Int} {l : List Rc} (h : x = 0 → l.length ≤ 1000) : (ansL x l).length ≤ 1000 := by
  unfold ansL
  by_cases hx : x = 0
  · rw [if_pos hx]; exact h hx
  · rw [if_neg hx]; simp
theorem ansL_le {p q r : Pg} {l : List Rc} {safe e : Int} : (ansL (errOf (worldErr p q r l safe) e) l).length ≤ 1000 := ansL_len fun h => by
  have := (logErr_zero (worldErr_zero (errOf_zero h).1).1).1
  omega
theorem stateAns_eq {l l' : List Rc} {u : Int} (hl : logErr l = 0) (hl' : logErr l' = 0) (hs : stateR l' u = stateR l u) (ha : lastR l' u = lastR l u) : stateAns l' u = stateAns l u := by
  unfold stateAns
  rw [if_pos hl, if_pos hl', hs, ha]
theorem step_other {l : List Rc} {r : Rc} {u : Int} (he : recErr (l.length + 1 : Nat) r = 0) (hf : followsR l r = true) (hu : r.txn ≠ u) : stateR (l ++ [r]) u = stateR l u ∧ lastR (l ++ [r]) u = lastR l u := by
  have hb : (r.txn == u) = false := by simpa using hu
  rw [stateR_snoc he hf, if_neg hu, lastR_snoc, hb, if_neg Bool.false_ne_true]
  exact ⟨rfl, rfl⟩
theorem write_alone {p q r : Pg} {l : List Rc} {safe t x c v u : Int} (hu : t ≠ u) (h : errOf (worldErr p q r l safe) (writeErr l t x c v) = 0) : stateAns (l ++ [writeRec l t x c v]) u = stateAns l u ∧ (l ++ [writeRec l t x c v]).length ≤ 1000 := by
  obtain ⟨hz, he⟩ := errOf_zero h
  obtain ⟨_, hl, _, hl', hlt, _⟩ := write_all h
  obtain ⟨h1, h2⟩ := write_step (logErr_zero hl).2 he
  obtain ⟨h3, h4⟩ := step_other h1 h2 (u := u) hu
  exact ⟨stateAns_eq hl hl' h3 h4, by simp; omega⟩
theorem commit_alone {p q r : Pg} {l : List Rc} {safe t u : Int} (hu : t ≠ u) (h : errOf (worldErr p q r l safe) (commitErr l t) = 0) : stateAns ((l ++ [commitRec l t]) ++ [endRec l t]) u = stateAns l u ∧ ((l ++ [commitRec l t]) ++ [endRec l t]).length ≤ 1000 := by
  obtain ⟨hz, he⟩ := errOf_zero h
  have hl := (worldErr_zero hz).1
  obtain ⟨h60, hR⟩ := logErr_zero hl
  obtain ⟨h1, h2⟩ := commit_step he
  obtain ⟨h3, h4⟩ := end_step he
  obtain ⟨h5, h6⟩ := step_other h1 h2 (u := u) hu
  obtain ⟨h7, h8⟩ := step_other h3 h4 (u := u) hu
  have hl' := logErr_of (commit_right hR he).2
  exact ⟨stateAns_eq hl hl' (by rw [h7, h5]) (by rw [h8, h6]), by simp; omega⟩
theorem abort_alone {p q r : Pg} {l : List Rc} {safe t u : Int} (hu : t ≠ u) (h : errOf (worldErr p q r l safe) (abortErr l t) = 0) : stateAns (abortR l t) u = stateAns l u ∧ (abortR l t).length ≤ 1000 := by
  obtain ⟨hz, he⟩ := errOf_zero h
  have hl := (worldErr_zero hz).1
  obtain ⟨h60, hR⟩ := logErr_zero hl
  obtain ⟨h1, h2⟩ := abort_other hR he hu
  have h3 := abort_right hR he
  have h4 := right_len _ h3.1
  exact ⟨stateAns_eq hl (logErr_of h3.1) h1 h2, by omega⟩
end Go.Proofs.YtlpodahldpaniaaGreat.B
