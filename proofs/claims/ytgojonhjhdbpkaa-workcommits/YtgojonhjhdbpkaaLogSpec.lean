/- The document's answers about logs, as plain functions of a list of records: no Go in sight. -/
import Derived.Test.YtgojonhjhdbpkaaRec2
namespace Go.Proofs.Ytgojonhjhdbpkaa.B
set_option maxRecDepth 100000

/-- From the left, each record with its place. -/
def foldI {α : Type} (f : α → Nat → Rc → α) : α → Nat → List Rc → α
  | a, _, [] => a
  | a, i, r :: l => foldI f (f a i r) (i + 1) l
theorem foldI_append {α : Type} (f : α → Nat → Rc → α) (l m : List Rc) : ∀ (a : α) (i : Nat), foldI f a i (l ++ m) = foldI f (foldI f a i l) (i + l.length) m := by
  induction l with
  | nil => intro a i; simp [foldI]
  | cons x l ih => intro a i; simp only [List.cons_append, foldI, ih, List.length_cons]; rw [show i + (l.length + 1) = i + 1 + l.length from by omega]
theorem foldI_snoc {α : Type} (f : α → Nat → Rc → α) (a : α) (l : List Rc) (r : Rc) : foldI f a 0 (l ++ [r]) = f (foldI f a 0 l) l.length r := by
  rw [foldI_append]; simp [foldI]
theorem take_snoc (l : List Rc) (k : Nat) (h : k < l.length) : l.take (k + 1) = l.take k ++ [l[k]] := List.take_succ_eq_append_getElem h
theorem foldI_take {α : Type} (f : α → Nat → Rc → α) (a : α) (l : List Rc) (k : Nat) (h : k < l.length) : foldI f a 0 (l.take (k + 1)) = f (foldI f a 0 (l.take k)) k l[k] := by
  rw [take_snoc l k h, foldI_snoc, List.length_take_of_le (by omega)]

/-- The number of the last record of a Txn (0: none). -/
def lastR (l : List Rc) (t : Int) : Nat := foldI (fun n i r => if r.txn == t then i + 1 else n) 0 0 l
/-- How many records of a Txn are of a kind. -/
def countR (l : List Rc) (t k : Int) : Nat := foldI (fun n _ r => if r.txn == t && r.kind == k then n + 1 else n) 0 0 l
/-- How far a Txn has come. -/
def stateR (l : List Rc) (t : Int) : Int := if lastR l t = 0 then 0 else if countR l t 4 > 0 then 4 else if countR l t 2 > 0 then 2 else if countR l t 3 > 0 then 3 else 1
/-- The numbers of a Txn's Writes. -/
def writesR (l : List Rc) (t : Int) : List Nat := foldI (fun ns i r => if r.txn == t && r.kind == 1 then ns ++ [i + 1] else ns) [] 0 l
/-- Those that were not taken back. -/
def standsR (l : List Rc) (t : Int) : List Nat := (writesR l t).take ((writesR l t).length - countR l t 3)
/-- The pages behind the last record: twelve numbers, four a page. -/
def pagesR (l : List Rc) : List Int := foldI (fun ps i r => if turns r then (ps.set (r.page.toNat * 4 + r.cell.toNat) r.new).set (r.page.toNat * 4 + 3) (i + 1) else ps) (List.replicate 12 0) 0 l

theorem lastR_snoc (l : List Rc) (r : Rc) (t : Int) : lastR (l ++ [r]) t = if r.txn == t then l.length + 1 else lastR l t := foldI_snoc _ _ _ _
theorem countR_snoc (l : List Rc) (r : Rc) (t k : Int) : countR (l ++ [r]) t k = if r.txn == t && r.kind == k then countR l t k + 1 else countR l t k := foldI_snoc _ _ _ _
theorem writesR_snoc (l : List Rc) (r : Rc) (t : Int) : writesR (l ++ [r]) t = if r.txn == t && r.kind == 1 then writesR l t ++ [l.length + 1] else writesR l t := foldI_snoc _ _ _ _
theorem pagesR_snoc (l : List Rc) (r : Rc) : pagesR (l ++ [r]) = if turns r then ((pagesR l).set (r.page.toNat * 4 + r.cell.toNat) r.new).set (r.page.toNat * 4 + 3) (l.length + 1) else pagesR l := foldI_snoc _ _ _ _
theorem lastR_take (l : List Rc) (t : Int) (k : Nat) (h : k < l.length) : lastR (l.take (k + 1)) t = if l[k].txn == t then k + 1 else lastR (l.take k) t := foldI_take _ _ _ _ h
theorem countR_take (l : List Rc) (t c : Int) (k : Nat) (h : k < l.length) : countR (l.take (k + 1)) t c = if l[k].txn == t && l[k].kind == c then countR (l.take k) t c + 1 else countR (l.take k) t c := foldI_take _ _ _ _ h
theorem writesR_take (l : List Rc) (t : Int) (k : Nat) (h : k < l.length) : writesR (l.take (k + 1)) t = if l[k].txn == t && l[k].kind == 1 then writesR (l.take k) t ++ [k + 1] else writesR (l.take k) t := foldI_take _ _ _ _ h
theorem pagesR_take (l : List Rc) (k : Nat) (h : k < l.length) : pagesR (l.take (k + 1)) = if turns l[k] then ((pagesR (l.take k)).set (l[k].page.toNat * 4 + l[k].cell.toNat) l[k].new).set (l[k].page.toNat * 4 + 3) (k + 1) else pagesR (l.take k) := foldI_take _ _ _ _ h
theorem list_snoc {α : Type} (P : List α → Prop) (h0 : P []) (h1 : ∀ l r, P l → P (l ++ [r])) : ∀ l, P l := by
  intro l
  have : ∀ n, ∀ l : List α, l.length = n → P l := by
    intro n
    induction n with
    | zero => intro l h; rw [List.length_eq_zero_iff.1 h]; exact h0
    | succ n ih =>
      intro l h
      have hne : l ≠ [] := by intro e; rw [e] at h; simp at h
      rw [← List.dropLast_concat_getLast hne]
      exact h1 _ _ (ih _ (by simp; omega))
  exact this _ l rfl
theorem lastR_le (t : Int) : ∀ l : List Rc, lastR l t ≤ l.length := list_snoc _ (Nat.le_refl _) fun l r ih => by
  rw [lastR_snoc]; simp only [List.length_append, List.length_singleton]; split <;> omega
theorem countR_le (t c : Int) : ∀ l : List Rc, countR l t c ≤ l.length := list_snoc _ (Nat.le_refl _) fun l r ih => by
  rw [countR_snoc]; simp only [List.length_append, List.length_singleton]; split <;> omega
theorem writesR_le (t : Int) : ∀ l : List Rc, (writesR l t).length ≤ l.length := list_snoc _ (Nat.le_refl _) fun l r ih => by
  rw [writesR_snoc]; simp only [List.length_append, List.length_singleton]; split
  · simp only [List.length_append, List.length_singleton]; omega
  · omega
theorem pagesR_len : ∀ l : List Rc, (pagesR l).length = 12 := list_snoc _ rfl fun l r ih => by
  rw [pagesR_snoc]; split
  · simpa using ih
  · exact ih
/-- The numbers of Writes are of Writes of the Txn, within the log. -/
theorem writesR_mem (t : Int) : ∀ l : List Rc, ∀ n ∈ writesR l t, 1 ≤ n ∧ n ≤ l.length := list_snoc _ (by intro n h; simp [writesR, foldI] at h) fun l r ih n hn => by
  rw [writesR_snoc] at hn
  simp only [List.length_append, List.length_singleton]
  split at hn
  · rw [List.mem_append] at hn
    rcases hn with hn | hn
    · have := ih n hn; omega
    · simp at hn; omega
  · have := ih n hn; omega

/-- Has another Txn a Write of that cell that stands? -/
def takenAt (l : List Rc) (t u p c : Int) : Bool := u != t && (stateR l u != 4 && (standsR l u).any fun n => match l[n - 1]? with | some r => r.page == p && r.cell == c | none => false)
def takenR (l : List Rc) (t p c : Int) : Bool := (List.range 9).any fun u => takenAt l t (u + 1 : Nat) p c
/-- May a right record stand behind a right log? -/
def followsR (l : List Rc) (r : Rc) : Bool :=
  if r.prev != (lastR l r.txn : Nat) || (stateR l r.txn == 4 || ((stateR l r.txn == 2 && r.kind != 4) || (stateR l r.txn == 3 && (r.kind != 3 && r.kind != 4)))) then false
  else if r.kind == 1 then r.old == (pagesR l).getD (r.page.toNat * 4 + r.cell.toNat) 0 && !takenR l r.txn r.page r.cell
  else if r.kind == 2 then true
  else if r.kind == 3 then match (standsR l r.txn).getLast? with
    | none => false
    | some n => match l[n - 1]? with
      | none => false
      | some w => r.page == w.page && (r.cell == w.cell && (r.old == w.new && (r.new == w.old && r.next == w.prev)))
  else stateR l r.txn == 2 || (stateR l r.txn == 3 && (standsR l r.txn).isEmpty)
/-- The error of a record behind a right log. -/
def stepErr (l : List Rc) (r : Rc) : Int := if recErr (l.length + 1 : Nat) r != 0 then recErr (l.length + 1 : Nat) r else if followsR l r then 0 else 1
/-- The first error among the first k records. -/
def errTo (l : List Rc) : Nat → Int
  | 0 => 0
  | k + 1 => if errTo l k != 0 then errTo l k else match l[k]? with
    | none => 0
    | some r => stepErr (l.take k) r
/-- The document's error of a log. -/
def logErr (l : List Rc) : Int := if 60 < l.length then 2 else errTo l l.length
end Go.Proofs.Ytgojonhjhdbpkaa.B
