/- The contracts of the book's smaller functions: placeOf, allows, Back. -/
import Derived.Test.YtgojonhjhdbpkaaBookSpec2
import Derived.Test.YtgojonhjhdbpkaaMapLaw
namespace Go.Proofs.Ytgojonhjhdbpkaa.B
set_option maxRecDepth 100000
open Go.ChangeShapes Go.WideShapes Go.ChangeAt Go.RowKit

set_option maxHeartbeats 400000 in
theorem placeOf_any (r : Rc) (w : World) :
    Calls Try.prog 105 #[r.val] w fun e w' => e = .returned (keyP (r.page, r.cell)) ∧ Ext w w' := by
  go_enter Try.func105, Try.ntmps105
  go_wp2_with fail
  exact bodyPost_ret (v := .agg #[.int .i64 r.page, .int .i64 r.cell]) (by simp [results, Try.results105, go_sem]) rfl ⟨rfl, ((Ext.refl _).alloc _).alloc _⟩

/-- A Txn as the book has it. -/
abbrev txVal (s last : Int) (sv : Value) : Value := .agg #[.int .i64 s, .int .i64 last, sv]

set_option maxHeartbeats 400000 in
theorem allows_any (s last : Int) (a : Option Addr) (n cap : Nat) (k : Int) (w : World) (hn : n ≤ 1000) (hk : k = 1 ∨ k = 2 ∨ k = 3 ∨ k = 4) :
    Calls Try.prog 98 #[txVal s last (.slice a n cap), .int .i64 k] w fun e w' => e = .returned (.bool (allowsB s n k)) ∧ Ext w w' := by
  rcases hk with rfl | rfl | rfl | rfl
  · have HA : Hid (allowsB s n 1 = (s == 0 || s == 1)) := rfl
    cases h0 : (s == 0)
    · go_enter Try.func98, Try.ntmps98
      go_wp2_with fail
      go_ret
      exact ⟨by rw [HA.out, h0]; rfl, (Ext.refl _).alloc _⟩
    · go_enter Try.func98, Try.ntmps98
      go_wp2_with fail
      go_ret
      exact ⟨by rw [HA.out, h0]; rfl, (Ext.refl _).alloc _⟩
  · have HA : Hid (allowsB s n 2 = (s == 0 || s == 1)) := rfl
    cases h0 : (s == 0)
    · go_enter Try.func98, Try.ntmps98
      go_wp2_with fail
      go_ret
      exact ⟨by rw [HA.out, h0]; rfl, (Ext.refl _).alloc _⟩
    · go_enter Try.func98, Try.ntmps98
      go_wp2_with fail
      go_ret
      exact ⟨by rw [HA.out, h0]; rfl, (Ext.refl _).alloc _⟩
  · have HA : Hid (allowsB s n 3 = (decide (0 < n) && s != 2)) := rfl
    by_cases h0 : 0 < n
    · have hi : (0 : Int) < (n : Int) := by omega
      have HD : Hid (decide (0 < n) = true) := by unfold Hid; simpa using h0
      go_enter Try.func98, Try.ntmps98
      go_wp2_with fail
      go_ret
      exact ⟨by rw [HA.out, HD.out]; rfl, (Ext.refl _).alloc _⟩
    · have hi : ¬ (0 : Int) < (n : Int) := by omega
      have HD : Hid (decide (0 < n) = false) := by unfold Hid; simpa using h0
      go_enter Try.func98, Try.ntmps98
      go_wp2_with fail
      go_ret
      exact ⟨by rw [HA.out, HD.out]; rfl, (Ext.refl _).alloc _⟩
  · have HA : Hid (allowsB s n 4 = (s == 2 || (s == 3 && n == 0))) := rfl
    cases h2 : (s == 2)
    · cases h3 : (s == 3)
      · go_enter Try.func98, Try.ntmps98
        go_wp2_with fail
        go_ret
        exact ⟨by rw [HA.out, h2, h3]; rfl, (Ext.refl _).alloc _⟩
      · have HN : Hid (((n : Int) == 0) = (n == 0)) := by unfold Hid; rw [Bool.eq_iff_iff]; simp
        go_enter Try.func98, Try.ntmps98
        go_wp2_with fail
        go_ret
        exact ⟨by rw [HA.out, h2, h3, ← HN.out]; rfl, (Ext.refl _).alloc _⟩
    · go_enter Try.func98, Try.ntmps98
      go_wp2_with fail
      go_ret
      exact ⟨by rw [HA.out, h2]; rfl, (Ext.refl _).alloc _⟩

/-- Records, cell by cell. -/
def flat (l : List Rc) : List Value := l.flatMap fun r => r.cs.toList
theorem flat_snoc (l : List Rc) (r : Rc) : flat (l ++ [r]) = flat l ++ r.cs.toList := by simp [flat]
theorem flat_len (l : List Rc) : (flat l).length = l.length * 8 := by
  induction l with
  | nil => rfl
  | cons r l ih => simp only [flat, List.flatMap_cons, List.length_append] at *; rw [ih]; simp; omega
theorem flat_dropLast (l : List Rc) : flat l.dropLast = (flat l).take (l.dropLast.length * 8) := by
  rcases List.eq_nil_or_concat l with rfl | ⟨ms, r, rfl⟩
  · rfl
  · simp only [List.concat_eq_append, List.dropLast_concat, flat_snoc]
    rw [List.take_append_of_le_length (by rw [flat_len]; omega), List.take_of_length_le (by rw [flat_len]; omega)]
theorem own_cell {w : World} {g : Nat} {cur : Array Value} {e : TypeId} {xs : List Value} {m i : Nat} {v : Value} (hg : w.heap[g]? = some (.cells cur e (0, 0))) (hx : cur.toList.take m = xs) (hi : xs[i]? = some v) : w.cell? ⟨g, i, none⟩ = some v := by
  have h1 : cur[i]? = some v := by
    rw [← hx] at hi
    rw [List.getElem?_take] at hi
    split at hi
    · simpa using hi
    · cases hi
  simp [World.cell?, hg, h1]
theorem flat_get : ∀ (l : List Rc) (i j : Nat) (h : i < l.length), j < 8 → (flat l)[i * 8 + j]? = l[i].cs.toList[j]? := by
  intro l
  induction l with
  | nil => intro i j h; simp at h
  | cons r l ih =>
    intro i j h hj
    have e : flat (r :: l) = r.cs.toList ++ flat l := by simp [flat]
    rw [e]
    cases i with
    | zero => rw [List.getElem?_append_left (by simp; omega)]; simp
    | succ i =>
      rw [List.getElem?_append_right (by simp; omega)]
      have := ih i j (by simpa using h) hj
      rw [show (i + 1) * 8 + j - r.cs.toList.length = i * 8 + j from by simp; omega, this]
      simp
theorem own_rec {w : World} {g : Nat} {cur : Array Value} {e : TypeId} {l : List Rc} {m : Nat} (hg : w.heap[g]? = some (.cells cur e (0, 0))) (hx : cur.toList.take m = flat l) (i : Nat) (hi : i < l.length) : RecAt w g (i * 8) l[i] := by
  have f : ∀ j v, j < 8 → l[i].cs.toList[j]? = some v → w.cell? ⟨g, i * 8 + j, none⟩ = some v := fun j v hj hv => own_cell hg hx (by rw [flat_get l i j hi hj]; exact hv)
  exact ⟨f 0 _ (by omega) rfl, f 1 _ (by omega) rfl, f 2 _ (by omega) rfl, f 3 _ (by omega) rfl, f 4 _ (by omega) rfl, f 5 _ (by omega) rfl, f 6 _ (by omega) rfl, f 7 _ (by omega) rfl⟩

set_option maxHeartbeats 1000000 in
set_option maxRecDepth 100000 in
theorem back_any (s last : Int) (sv : Value) (st : List Rc) (base : Nat) (w : World) (ho : w.ownsRow base 39 8 sv st.length (flat st)) (hn : st.length ≤ 1000) :
    Calls Try.prog 102 #[txVal s last sv] w fun e w' => e = .returned (Rc.val (backB last st)) ∧ Ext w w' := by
  rcases List.eq_nil_or_concat st with rfl | ⟨ms, v, rfl⟩
  · obtain ⟨_, ⟨rfl, _⟩ | ⟨g, cap, cur, rfl, hg, hblk, hn', hcap, hsz, htk⟩⟩ := ho
    · go_enter Try.func102, Try.ntmps102
      go_wp2_with fail
      exact bodyPost_ret (v := .agg #[.int .i64 0, .int .i64 0, .int .i64 0, .int .i64 0, .int .i64 0, .int .i64 0, .int .i64 0, .int .i64 0]) (by simp [results, Try.results102, go_sem]) rfl ⟨rfl, ((Ext.refl _).alloc _).alloc _⟩
    · rw [List.length_nil]
      go_enter Try.func102, Try.ntmps102
      go_wp2_with fail
      exact bodyPost_ret (v := .agg #[.int .i64 0, .int .i64 0, .int .i64 0, .int .i64 0, .int .i64 0, .int .i64 0, .int .i64 0, .int .i64 0]) (by simp [results, Try.results102, go_sem]) rfl ⟨rfl, ((Ext.refl _).alloc _).alloc _⟩
  · rw [List.concat_eq_append] at *
    have HB : Hid (backB last (ms ++ [v]) = ⟨3, v.txn, last, v.page, v.cell, v.new, v.old, v.prev⟩) := by unfold Hid backB; simp
    obtain ⟨_, ⟨_, h0⟩ | ⟨g, cap, cur, rfl, hg, hblk, hn', hcap, hsz, htk⟩⟩ := ho
    · simp at h0
    have hrec : RecAt w g (ms.length * 8) v := by
      have := own_rec hblk htk ms.length (by simp)
      simpa using this
    obtain ⟨c0, c1, c2, c3, c4, c5, c6, c7⟩ := hrec
    have hgl := cell_lt c0
    dsimp only at hgl
    have hml : ms.length ≤ 1000 := by simp at hn; omega
    have hne : (((ms.length : Int) + 1) == 0) = false := by rw [beq_eq_false_iff_ne]; omega
    rw [List.length_append, List.length_singleton]
    clear htk hsz hcap hn' hblk hn hg
    go_enter Try.func102, Try.ntmps102
    go_wp2_with fail
    refine bodyPost_ret (v := .agg #[.int .i64 3, .int .i64 v.txn, .int .i64 last, .int .i64 v.page, .int .i64 v.cell, .int .i64 v.new, .int .i64 v.old, .int .i64 v.prev]) (by simp [results, Try.results102, go_sem]) rfl ⟨by rw [HB.out], ?_⟩
    exact (((Ext.refl _).alloc _).alloc _).alloc _
end Go.Proofs.Ytgojonhjhdbpkaa.B
