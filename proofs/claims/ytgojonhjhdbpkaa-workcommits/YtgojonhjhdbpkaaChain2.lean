/- What right logs keep: wherever one is cut, it is right; states never go back; the Writes that stand, as a stack; who is over without a Commit has turned nothing. No Go in sight. -/
import Derived.Test.YtgojonhjhdbpkaaChain
import Derived.Test.YtgojonhjhdbpkaaLog8
namespace Go.Proofs.Ytgojonhjhdbpkaa.B
set_option maxRecDepth 100000

theorem right_pre {l : List Rc} (h : Right l) (n : Nat) : Right (l.take n) := by
  by_cases hn : n ≤ l.length
  · rw [← right_take hn]
    by_cases h0 : errTo l n = 0
    · exact h0
    · have := errTo_keep l n h0 (l.length - n)
      rw [show n + (l.length - n) = l.length from by omega] at this
      unfold Right at h
      rw [h] at this
      exact this.symm
  · rw [List.take_of_length_le (by omega)]; exact h
theorem logErr_of {l : List Rc} (h : Right l) : logErr l = 0 := by
  unfold logErr
  rw [if_neg (by have := right_len l h; omega)]
  exact h
theorem logErr_pre {l : List Rc} (h : logErr l = 0) (n : Nat) : logErr (l.take n) = 0 := logErr_of (right_pre (logErr_zero h).2 n)
/-- How far a Txn is, in a log and in what it grew to. -/
structure Further (a b : List Rc) (t : Int) : Prop where
  state : stateR a t ≤ stateR b t
  two : stateR a t = 2 → stateR b t = 2 ∨ stateR b t = 4
  last : lastR a t ≤ lastR b t
theorem Further.refl (a : List Rc) (t : Int) : Further a a t := ⟨Int.le_refl _, Or.inl, Nat.le_refl _⟩
theorem Further.trans {a b c : List Rc} {t : Int} (h : Further a b t) (k : Further b c t) : Further a c t :=
  ⟨Int.le_trans h.state k.state, fun e => by
    rcases h.two e with e2 | e2
    · exact k.two e2
    · have := k.state
      rcases stateR_range c t with x | x | x | x | x <;> omega, Nat.le_trans h.last k.last⟩
theorem further_step {l : List Rc} {r : Rc} (he : recErr (l.length + 1 : Nat) r = 0) (hf : followsR l r = true) (t : Int) : Further l (l ++ [r]) t := by
  obtain ⟨_, s4, s2, s3⟩ := follows_ok hf
  have hk := recErr_kind he
  have hl := lastR_le t l
  have hs := stateR_range l t
  by_cases ht : r.txn = t
  · subst ht
    refine ⟨?_, fun e => ?_, ?_⟩
    · rw [stateR_snoc he hf, if_pos rfl]
      rcases hs with e | e | e | e | e
      · omega
      · omega
      · have := s2 e; omega
      · have := s3 e; omega
      · omega
    · rw [stateR_snoc he hf, if_pos rfl]
      exact Or.inr (s2 e)
    · rw [lastR_snoc, beq_self_eq_true, if_pos rfl]; omega
  · have hb : (r.txn == t) = false := by simpa using ht
    refine ⟨?_, fun e => ?_, ?_⟩
    · rw [stateR_snoc he hf, if_neg ht]; exact Int.le_refl _
    · rw [stateR_snoc he hf, if_neg ht]; exact Or.inl e
    · rw [lastR_snoc, hb]; exact Nat.le_refl _
theorem right_further (t : Int) : ∀ l, Right l → ∀ n, Further (l.take n) l t := right_ind _ (fun n => by rw [List.take_nil]; exact Further.refl _ _)
  fun l r _ ih he hf n => by
    by_cases hn : n ≤ l.length
    · rw [List.take_append_of_le_length hn]
      exact (ih n).trans (further_step he hf t)
    · rw [List.take_of_length_le (by simp; omega)]
      exact Further.refl _ _
/-- The Writes of a Txn that stand, as a stack. -/
def stackR (l : List Rc) (t : Int) : List Rc := foldI (fun st _ r => if r.txn == t then (if r.kind == 1 then st ++ [r] else if r.kind == 3 then st.dropLast else st) else st) [] 0 l
theorem stackR_snoc (l : List Rc) (r : Rc) (t : Int) : stackR (l ++ [r]) t = if r.txn == t then (if r.kind == 1 then stackR l t ++ [r] else if r.kind == 3 then (stackR l t).dropLast else stackR l t) else stackR l t := foldI_snoc _ _ _ _
theorem stackR_take (l : List Rc) (t : Int) (k : Nat) (h : k < l.length) : stackR (l.take (k + 1)) t = if l[k].txn == t then (if l[k].kind == 1 then stackR (l.take k) t ++ [l[k]] else if l[k].kind == 3 then (stackR (l.take k) t).dropLast else stackR (l.take k) t) else stackR (l.take k) t := foldI_take _ _ _ _ h
theorem stackR_le (t : Int) : ∀ l : List Rc, (stackR l t).length ≤ l.length := list_snoc _ (Nat.le_refl _) fun l r ih => by
  rw [stackR_snoc]; simp only [List.length_append, List.length_singleton]
  split
  · split
    · simp only [List.length_append, List.length_singleton]; omega
    · split
      · rw [List.length_dropLast]; omega
      · omega
  · omega
theorem stack_eq (t : Int) : ∀ l, Right l → stateR l t ≠ 4 → stackR l t = standB l t := right_ind _ (fun _ => by rw [stand_nil']; rfl)
  fun l r hR ih he hf h4 => by
    rw [stackR_snoc]
    by_cases ht : r.txn = t
    · subst ht
      obtain ⟨_, s4, _, _⟩ := follows_ok hf
      rw [beq_self_eq_true, if_pos rfl, ih s4]
      rw [stateR_snoc he hf, if_pos rfl] at h4
      rcases recErr_kind he with k | k | k | k
      · rw [standB_write he hf k, k]; rfl
      · rw [standB_commit he hf k, k]; rfl
      · rw [standB_back hR he hf k, k]; rfl
      · exact absurd k h4
    · have hb : (r.txn == t) = false := by simpa using ht
      rw [stateR_snoc he hf, if_neg ht] at h4
      rw [hb, standB_other he hf ht]
      exact ih h4
/-- No two Txns that are not over have Writes of one cell that stand. -/
theorem stack_alone {l : List Rc} (hR : Right l) {s t : Int} (hs : stateR l s ≠ 4) (ht : stateR l t ≠ 4) (hne : s ≠ t) {x y : Rc} (hx : x ∈ stackR l s) (hy : y ∈ stackR l t) : ¬ (x.page = y.page ∧ x.cell = y.cell) := by
  rintro ⟨h1, h2⟩
  rw [stack_eq s l hR hs] at hx
  rw [stack_eq t l hR ht] at hy
  exact hne (right_alone l hR (x.page, x.cell) s t (held_pos.2 ⟨x, hx, rfl, rfl⟩) (held_pos.2 ⟨y, hy, h1.symm, h2.symm⟩))
theorem stack_in {l : List Rc} (hR : Right l) {s : Int} (hs : stateR l s ≠ 4) {x : Rc} (hx : x ∈ stackR l s) : InP (x.page, x.cell) := by
  rw [stack_eq s l hR hs] at hx
  obtain ⟨hl, _, hk⟩ := standB_mem hx
  exact right_fits l hR x hl (turns_of.2 (Or.inl hk))
/-- The last one that stands is what the cell is. -/
theorem stack_top {l : List Rc} (hR : Right l) {s : Int} (hs : stateR l s ≠ 4) {st : List Rc} {x : Rc} (hx : stackR l s = st ++ [x]) : cellR l (x.page, x.cell) = x.new := by
  have hin := stack_in hR hs (x := x) (by rw [hx]; simp)
  obtain ⟨a, ha⟩ := right_linked l hR (x.page, x.cell) hin s
  rw [← stack_eq s l hR hs, hx, atP_snoc, if_pos rfl, linked_snoc] at ha
  exact ha.2.symm
theorem right_follows {l : List Rc} (hR : Right l) {j : Nat} {x : Rc} (hx : l[j]? = some x) : recErr ((l.take j).length + 1 : Nat) x = 0 ∧ followsR (l.take j) x = true := by
  obtain ⟨hj, hx⟩ := List.getElem?_eq_some_iff.1 hx
  have := right_pre hR (j + 1)
  rw [take_snoc l j hj, right_snoc, hx] at this
  exact this.2
/-- Who is over without a Commit has turned nothing. -/
theorem right_gone {l : List Rc} {z r : Rc} (hR : Right (l ++ [z])) (hz : z.kind = 4) (hs : stateR l z.txn = 3) {i : Nat} (hi : l[i]? = some r) (hk : r.kind = 1) (ht : r.txn = z.txn)
    (hfirst : ∀ j x, j < i → l[j]? = some x → ¬ (x.txn = r.txn ∧ x.kind = 1 ∧ x.page = r.page ∧ x.cell = r.cell))
    (hother : ∀ j x, i < j → l[j]? = some x → ¬ (x.kind = 1 ∧ x.txn ≠ r.txn ∧ x.page = r.page ∧ x.cell = r.cell)) : cellR (l ++ [z]) (r.page, r.cell) = r.old := by
  rw [← ht] at hs
  obtain ⟨hRl, hez, hfz⟩ := (right_snoc l z).1 hR
  have hil : i < l.length := (List.getElem?_eq_some_iff.1 hi).1
  have hp : InP (r.page, r.cell) := right_fits l hRl r (List.mem_of_getElem? hi) (turns_of.2 (Or.inl hk))
  have main : ∀ j, i + j ≤ l.length → linked r.old (atP (standB (l.take (i + j)) r.txn) (r.page, r.cell)) (cellR (l.take (i + j)) (r.page, r.cell)) ∧ ∀ u, u ≠ r.txn → heldBy (l.take (i + j)) (r.page, r.cell) u = 0 := by
    intro j
    induction j with
    | zero =>
      intro _
      obtain ⟨he, hf⟩ := right_follows hRl hi
      have hRi := right_pre hRl i
      have h0 : heldBy (l.take i) (r.page, r.cell) r.txn = 0 := by
        by_cases h : 0 < heldBy (l.take i) (r.page, r.cell) r.txn
        · obtain ⟨x, hx, h1, h2⟩ := held_pos.1 h
          obtain ⟨hm, h3, h4⟩ := standB_mem hx
          obtain ⟨n, hn⟩ := List.mem_iff_getElem?.1 hm
          have hni : n < i := by
            have := (List.getElem?_eq_some_iff.1 hn).1
            rw [List.length_take] at this
            omega
          rw [List.getElem?_take_of_lt hni] at hn
          exact absurd ⟨h3, h4, h1, h2⟩ (hfirst n x hni hn)
        · omega
      refine ⟨?_, fun u hu => taken_none hRi (follows_write hk hf) hu⟩
      rw [Nat.add_zero, atP_none h0]
      exact follows_old hk hf
    | succ j ih =>
      intro hj
      obtain ⟨h1, h2⟩ := ih (by omega)
      have hjl : i + j < l.length := by omega
      have hx : l[i + j]? = some l[i + j] := List.getElem?_eq_getElem hjl
      obtain ⟨he, hf⟩ := right_follows hRl hx
      have hRj := right_pre hRl (i + j)
      rw [show i + (j + 1) = i + j + 1 from rfl, take_snoc l (i + j) hjl]
      generalize l[i + j] = x at *
      have hw : x.kind = 1 → (r.page, r.cell) = (x.page, x.cell) → x.txn = r.txn := fun k e => by
        obtain ⟨e1, e2⟩ := Prod.mk.inj e
        by_cases hj0 : j = 0
        · subst hj0
          rw [Nat.add_zero, hi] at hx
          injection hx with hx
          rw [hx]
        · by_cases h : x.txn = r.txn
          · exact h
          · exact absurd ⟨k, h, e1.symm, e2.symm⟩ (hother (i + j) x (by omega) hx)
      refine ⟨linked_step hRj he hf hp h2 hw (fun e k => ?_) h1, fun u hu => ?_⟩
      · have hfu := right_further r.txn l hRl (i + j + 1)
        have h4 : stateR (l.take (i + j + 1)) r.txn = 4 := by
          have e2 : l.take (i + j + 1) = l.take (i + j) ++ [x] := by
            have := List.take_add_one (l := l) (i := i + j)
            rw [hx] at this
            exact this
          rw [e2, stateR_snoc he hf, if_pos e, k]
        have := hfu.state
        omega
      · rcases held_step hRj he hf (r.page, r.cell) u with h | ⟨k, h, e⟩
        · have := h2 u hu; omega
        · exact absurd (h ▸ hw k e) hu
  obtain ⟨h1, _⟩ := main (l.length - i) (by omega)
  rw [show i + (l.length - i) = l.length from by omega, List.take_length] at h1
  have hsB : standB l r.txn = [] := by
    have h4 : stateR l r.txn ≠ 4 := by omega
    rw [stand_of_n4 h4]
    unfold followsR at hfz
    rw [← ht, hs] at hfz
    split at hfz
    · cases hfz
    · simp [hz] at hfz
      unfold standRecs
      rw [hfz]; rfl
  rw [hsB] at h1
  rw [cellR_snoc hez hp, if_neg (fun x => by have := turns_of.1 x.1; omega)]
  exact h1.symm
end Go.Proofs.Ytgojonhjhdbpkaa.B
