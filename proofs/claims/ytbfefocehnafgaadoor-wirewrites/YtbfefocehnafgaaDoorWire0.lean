/- Worlds as bytes, as plain functions: written, read; what is written is read as it was, and nothing else is. No Go in sight. -/
import Derived.Test.YtbfefocehnafgaaDoorPlainB
namespace Go.Proofs.YtbfefocehnafgaaDoor.B
set_option maxRecDepth 100000

/-- A number as a byte; the byte at a place (0, if there is none). -/
def byt (x : Int) : UInt8 := UInt8.ofNat (x % 256).toNat
def byteAt (b : List UInt8) (i : Nat) : Int := (b.getD i 0).toNat
/-- A number that a byte holds. -/
def Small (x : Int) : Prop := 0 ≤ x ∧ x ≤ 255
theorem byt_small {x : Int} (h : Small x) : (((byt x).toNat : Nat) : Int) = x := by
  unfold byt Small at *
  rw [UInt8.toNat_ofNat']
  omega
theorem byt_back (u : UInt8) : byt ((u.toNat : Nat) : Int) = u := by
  unfold byt
  have hu := u.toNat_lt
  rw [show (((u.toNat : Nat) : Int) % 256).toNat = u.toNat from by omega]
  exact UInt8.ofNat_toNat
theorem byteAt_small (b : List UInt8) (i : Nat) : Small (byteAt b i) := by
  unfold byteAt Small
  have := (b.getD i 0).toNat_lt
  omega
/-- How many bytes a record of a kind has. -/
def recLen (k : Int) : Nat := if k = 3 then 8 else if k = 1 then 7 else 3
theorem recLen_pos (k : Int) : 3 ≤ recLen k ∧ recLen k ≤ 8 := by unfold recLen; split <;> (try split) <;> omega
def recBytes (r : Rc) : List UInt8 := [byt r.kind, byt r.txn, byt r.prev] ++ ((if turns r then [byt r.page, byt r.cell, byt r.old, byt r.new] else []) ++ if r.kind = 3 then [byt r.next] else [])
theorem recBytes_len (r : Rc) : (recBytes r).length = recLen r.kind := by
  unfold recBytes recLen turns
  by_cases h3 : r.kind = 3
  · simp [h3]
  · by_cases h1 : r.kind = 1
    · simp [h1]
    · simp [h1, h3]
/-- All records' bytes. -/
def logBytes (l : List Rc) : List UInt8 := l.flatMap recBytes
theorem logBytes_nil : logBytes [] = [] := rfl
theorem logBytes_cons (r : Rc) (l : List Rc) : logBytes (r :: l) = recBytes r ++ logBytes l := by unfold logBytes; rw [List.flatMap_cons]
theorem logBytes_snoc (l : List Rc) (r : Rc) : logBytes (l ++ [r]) = logBytes l ++ recBytes r := by unfold logBytes; rw [List.flatMap_append]; simp
theorem logBytes_take (l : List Rc) (k : Nat) (h : k < l.length) : logBytes (l.take (k + 1)) = logBytes (l.take k) ++ recBytes l[k] := by rw [take_snoc l k h, logBytes_snoc]
theorem logBytes_len (l : List Rc) : (logBytes l).length ≤ 8 * l.length := by
  induction l with
  | nil => exact Nat.le_refl _
  | cons r l ih =>
    rw [logBytes_cons, List.length_append, recBytes_len, List.length_cons]
    have := recLen_pos r.kind
    omega
def pgBytes (p : Pg) : List UInt8 := [byt p.c0, byt p.c1, byt p.c2, byt p.last]
def headBytes (p q r : Pg) (safe : Int) : List UInt8 := pgBytes p ++ (pgBytes q ++ (pgBytes r ++ [byt safe]))
def wdBytes (w : Wd) : List UInt8 := headBytes w.p w.q w.r w.safe ++ logBytes w.l
/-- A record that is read: what is not there is 0. -/
def rdRec (b : List UInt8) : Rc :=
  if byteAt b 0 = 3 then ⟨byteAt b 0, byteAt b 1, byteAt b 2, byteAt b 3, byteAt b 4, byteAt b 5, byteAt b 6, byteAt b 7⟩
  else if byteAt b 0 = 1 then ⟨byteAt b 0, byteAt b 1, byteAt b 2, byteAt b 3, byteAt b 4, byteAt b 5, byteAt b 6, 0⟩
  else ⟨byteAt b 0, byteAt b 1, byteAt b 2, 0, 0, 0, 0, 0⟩
theorem rdRec_kind (b : List UInt8) : (rdRec b).kind = byteAt b 0 := by unfold rdRec; split <;> (try split) <;> rfl
/-- All records that are read: so many at most. -/
def rdRecs : Nat → List UInt8 → List Rc
  | 0, _ => []
  | _ + 1, [] => []
  | n + 1, x :: b => rdRec (x :: b) :: rdRecs n ((x :: b).drop (recLen (byteAt (x :: b) 0)))
theorem rdRecs_nil (n : Nat) : rdRecs n [] = [] := by cases n <;> rfl
theorem rdRecs_cons {n : Nat} {b : List UInt8} (h : b ≠ []) : rdRecs (n + 1) b = rdRec b :: rdRecs n (b.drop (recLen (byteAt b 0))) := by
  cases b with
  | nil => exact absurd rfl h
  | cons x b => rfl
theorem rdRecs_len (n : Nat) : ∀ b : List UInt8, (rdRecs n b).length ≤ b.length := by
  induction n with
  | zero => intro b; exact Nat.zero_le _
  | succ n ih =>
    intro b
    cases b with
    | nil => exact Nat.le_refl _
    | cons x b =>
      have h1 := ih ((x :: b).drop (recLen (byteAt (x :: b) 0)))
      have h2 := recLen_pos (byteAt (x :: b) 0)
      rw [rdRecs_cons (by simp), List.length_cons]
      rw [List.length_drop] at h1
      have h3 : (x :: b).length = b.length + 1 := rfl
      omega
/-- More may be read than there is. -/
theorem rdRecs_more (n : Nat) : ∀ (m : Nat) (b : List UInt8), b.length ≤ n → b.length ≤ m → rdRecs n b = rdRecs m b := by
  induction n with
  | zero =>
    intro m b h _
    have hb : b = [] := List.length_eq_zero_iff.1 (by omega)
    rw [hb, rdRecs_nil, rdRecs_nil]
  | succ n ih =>
    intro m b h1 h2
    cases b with
    | nil => rw [rdRecs_nil, rdRecs_nil]
    | cons x b =>
      cases m with
      | zero => simp at h2
      | succ m =>
        have h3 := recLen_pos (byteAt (x :: b) 0)
        rw [rdRecs_cons (by simp), rdRecs_cons (by simp), ih m]
        · rw [List.length_drop]; omega
        · rw [List.length_drop]; omega
def rdLog (b : List UInt8) : List Rc := rdRecs b.length b
theorem rdLog_nil : rdLog [] = [] := rfl
theorem rdLog_cons {b : List UInt8} (h : b ≠ []) : rdLog b = rdRec b :: rdLog (b.drop (recLen (byteAt b 0))) := by
  have hl : b.length ≠ 0 := fun e => h (List.length_eq_zero_iff.1 e)
  obtain ⟨n, hn⟩ : ∃ n, b.length = n + 1 := ⟨b.length - 1, by omega⟩
  unfold rdLog
  have h3 := recLen_pos (byteAt b 0)
  rw [hn, rdRecs_cons h, rdRecs_more n (b.drop (recLen (byteAt b 0))).length]
  · rw [List.length_drop]; omega
  · exact Nat.le_refl _
def rdWd (b : List UInt8) : Wd := ⟨⟨byteAt b 0, byteAt b 1, byteAt b 2, byteAt b 3⟩, ⟨byteAt b 4, byteAt b 5, byteAt b 6, byteAt b 7⟩, ⟨byteAt b 8, byteAt b 9, byteAt b 10, byteAt b 11⟩, rdLog (b.drop 13), byteAt b 12⟩
/-- Is no record cut off? -/
def wholeN : Nat → List UInt8 → Bool
  | 0, b => b.isEmpty
  | _ + 1, [] => true
  | n + 1, x :: b => decide (recLen (byteAt (x :: b) 0) ≤ (x :: b).length) && wholeN n ((x :: b).drop (recLen (byteAt (x :: b) 0)))
theorem wholeN_nil (n : Nat) : wholeN n [] = true := by cases n <;> rfl
theorem wholeN_cons {n : Nat} {b : List UInt8} (h : b ≠ []) : wholeN (n + 1) b = (decide (recLen (byteAt b 0) ≤ b.length) && wholeN n (b.drop (recLen (byteAt b 0)))) := by
  cases b with
  | nil => exact absurd rfl h
  | cons x b => rfl
theorem wholeN_more (n : Nat) : ∀ (m : Nat) (b : List UInt8), b.length ≤ n → b.length ≤ m → wholeN n b = wholeN m b := by
  induction n with
  | zero =>
    intro m b h _
    have hb : b = [] := List.length_eq_zero_iff.1 (by omega)
    rw [hb, wholeN_nil, wholeN_nil]
  | succ n ih =>
    intro m b h1 h2
    cases b with
    | nil => rw [wholeN_nil, wholeN_nil]
    | cons x b =>
      cases m with
      | zero => simp at h2
      | succ m =>
        have h3 := recLen_pos (byteAt (x :: b) 0)
        rw [wholeN_cons (by simp), wholeN_cons (by simp), ih m]
        · rw [List.length_drop]; omega
        · rw [List.length_drop]; omega
def whole (b : List UInt8) : Bool := wholeN b.length b
theorem whole_nil : whole [] = true := rfl
theorem whole_cons {b : List UInt8} (h : b ≠ []) : whole b = (decide (recLen (byteAt b 0) ≤ b.length) && whole (b.drop (recLen (byteAt b 0)))) := by
  have hl : b.length ≠ 0 := fun e => h (List.length_eq_zero_iff.1 e)
  obtain ⟨n, hn⟩ : ∃ n, b.length = n + 1 := ⟨b.length - 1, by omega⟩
  unfold whole
  have h3 := recLen_pos (byteAt b 0)
  rw [hn, wholeN_cons h, hn, wholeN_more n (b.drop (recLen (byteAt b 0))).length]
  · rw [List.length_drop]; omega
  · exact Nat.le_refl _
def wholeWd (b : List UInt8) : Bool := decide (13 ≤ b.length) && whole (b.drop 13)
/-- Induction over the bytes of records. -/
theorem bytes_ind (P : List UInt8 → Prop) (h0 : P []) (hs : ∀ b, b ≠ [] → P (b.drop (recLen (byteAt b 0))) → P b) : ∀ b, P b := by
  have : ∀ n, ∀ b : List UInt8, b.length ≤ n → P b := by
    intro n
    induction n with
    | zero => intro b h; rw [List.length_eq_zero_iff.1 (Nat.le_zero.1 h)]; exact h0
    | succ n ih =>
      intro b h
      by_cases hb : b = []
      · rw [hb]; exact h0
      · have h3 := recLen_pos (byteAt b 0)
        have hl : b.length ≠ 0 := fun e => hb (List.length_eq_zero_iff.1 e)
        exact hs b hb (ih _ (by rw [List.length_drop]; omega))
  exact fun b => this _ b (Nat.le_refl _)
theorem byt_at {b : List UInt8} {i : Nat} (h : i < b.length) : byt (byteAt b i) = b[i] := by
  unfold byteAt
  rw [byt_back, List.getD_eq_getElem?_getD, List.getElem?_eq_getElem h]
  rfl
/-- A whole record that is read has the bytes that it was read from. -/
theorem rdRec_bytes {b : List UInt8} (h : recLen (byteAt b 0) ≤ b.length) : recBytes (rdRec b) = b.take (recLen (byteAt b 0)) := by
  have hlen : (recBytes (rdRec b)).length = recLen (byteAt b 0) := by rw [recBytes_len, rdRec_kind]
  have h3 := recLen_pos (byteAt b 0)
  refine List.ext_getElem (by rw [hlen, List.length_take]; omega) fun i hi _ => ?_
  rw [hlen] at hi
  rw [List.getElem_take]
  unfold recLen at hi h
  by_cases e3 : byteAt b 0 = 3
  · rw [if_pos e3] at hi h
    have hr : recBytes (rdRec b) = [byt (byteAt b 0), byt (byteAt b 1), byt (byteAt b 2), byt (byteAt b 3), byt (byteAt b 4), byt (byteAt b 5), byt (byteAt b 6), byt (byteAt b 7)] := by
      unfold rdRec
      rw [if_pos e3]
      simp [recBytes, turns, e3]
    simp only [hr]
    have hc : i = 0 ∨ i = 1 ∨ i = 2 ∨ i = 3 ∨ i = 4 ∨ i = 5 ∨ i = 6 ∨ i = 7 := by omega
    rcases hc with rfl | rfl | rfl | rfl | rfl | rfl | rfl | rfl <;> exact byt_at (by omega)
  · rw [if_neg e3] at hi h
    by_cases e1 : byteAt b 0 = 1
    · rw [if_pos e1] at hi h
      have hr : recBytes (rdRec b) = [byt (byteAt b 0), byt (byteAt b 1), byt (byteAt b 2), byt (byteAt b 3), byt (byteAt b 4), byt (byteAt b 5), byt (byteAt b 6)] := by
        unfold rdRec
        rw [if_neg e3, if_pos e1]
        simp [recBytes, turns, e1]
      simp only [hr]
      have hc : i = 0 ∨ i = 1 ∨ i = 2 ∨ i = 3 ∨ i = 4 ∨ i = 5 ∨ i = 6 := by omega
      rcases hc with rfl | rfl | rfl | rfl | rfl | rfl | rfl <;> exact byt_at (by omega)
    · rw [if_neg e1] at hi h
      have hr : recBytes (rdRec b) = [byt (byteAt b 0), byt (byteAt b 1), byt (byteAt b 2)] := by
        unfold rdRec
        rw [if_neg e3, if_neg e1]
        simp [recBytes, turns, e1, e3]
      simp only [hr]
      have hc : i = 0 ∨ i = 1 ∨ i = 2 := by omega
      rcases hc with rfl | rfl | rfl <;> exact byt_at (by omega)
theorem log_whole : ∀ b : List UInt8, whole b = true → logBytes (rdLog b) = b := bytes_ind _ (fun _ => rfl) fun b hb ih h => by
  rw [whole_cons hb, Bool.and_eq_true, decide_eq_true_eq] at h
  rw [rdLog_cons hb, logBytes_cons, ih h.2, rdRec_bytes h.1, List.take_append_drop]
theorem log_cut : ∀ b : List UInt8, b.length ≤ (logBytes (rdLog b)).length ∧ (whole b = false → b.length < (logBytes (rdLog b)).length) := bytes_ind _ ⟨Nat.le_refl _, fun h => by cases h⟩ fun b hb ih => by
  obtain ⟨h1, h2⟩ := ih
  rw [rdLog_cons hb, logBytes_cons, List.length_append, recBytes_len, rdRec_kind]
  rw [List.length_drop] at h1 h2
  refine ⟨by omega, fun h => ?_⟩
  rw [whole_cons hb, Bool.and_eq_false_iff] at h
  by_cases hl : recLen (byteAt b 0) ≤ b.length
  · have := h2 (h.resolve_left (by simpa using hl))
    omega
  · omega
theorem head_len (p q r : Pg) (safe : Int) : (headBytes p q r safe).length = 13 := rfl
theorem wd_whole {b : List UInt8} (h : wholeWd b = true) : wdBytes (rdWd b) = b := by
  unfold wholeWd at h
  rw [Bool.and_eq_true, decide_eq_true_eq] at h
  have hh : headBytes (rdWd b).p (rdWd b).q (rdWd b).r (rdWd b).safe = b.take 13 := by
    refine List.ext_getElem (by rw [head_len, List.length_take]; omega) fun i hi _ => ?_
    rw [head_len] at hi
    rw [List.getElem_take]
    have hr : headBytes (rdWd b).p (rdWd b).q (rdWd b).r (rdWd b).safe = [byt (byteAt b 0), byt (byteAt b 1), byt (byteAt b 2), byt (byteAt b 3), byt (byteAt b 4), byt (byteAt b 5), byt (byteAt b 6), byt (byteAt b 7), byt (byteAt b 8), byt (byteAt b 9), byt (byteAt b 10), byt (byteAt b 11), byt (byteAt b 12)] := rfl
    simp only [hr]
    have hc : i = 0 ∨ i = 1 ∨ i = 2 ∨ i = 3 ∨ i = 4 ∨ i = 5 ∨ i = 6 ∨ i = 7 ∨ i = 8 ∨ i = 9 ∨ i = 10 ∨ i = 11 ∨ i = 12 := by omega
    rcases hc with rfl | rfl | rfl | rfl | rfl | rfl | rfl | rfl | rfl | rfl | rfl | rfl | rfl <;> exact byt_at (by omega)
  unfold wdBytes
  rw [hh]
  show b.take 13 ++ logBytes (rdLog (b.drop 13)) = b
  rw [log_whole _ h.2, List.take_append_drop]
theorem wd_cut {b : List UInt8} (h : wholeWd b = false) : wdBytes (rdWd b) ≠ b := fun e => by
  have hl : (wdBytes (rdWd b)).length = 13 + (logBytes (rdLog (b.drop 13))).length := by unfold wdBytes; rw [List.length_append, head_len]; rfl
  rw [e] at hl
  obtain ⟨h1, h2⟩ := log_cut (b.drop 13)
  rw [List.length_drop] at h1 h2
  unfold wholeWd at h
  rw [Bool.and_eq_false_iff] at h
  rcases h with h | h
  · have : ¬ 13 ≤ b.length := by simpa using h
    omega
  · have := h2 h
    omega
/-- The right world of which these are the bytes. -/
def fromR (b : List UInt8) : Option Wd := if wholeWd b = true ∧ (rdWd b).err = 0 then some (rdWd b) else none
theorem from_eq (b : List UInt8) : (if (rdWd b).err = 0 ∧ wdBytes (rdWd b) = b then some (rdWd b) else none) = fromR b := by
  unfold fromR
  cases h : wholeWd b
  · rw [if_neg (fun x => wd_cut h x.2), if_neg (fun x => by cases x.1)]
  · by_cases he : (rdWd b).err = 0
    · rw [if_pos ⟨he, wd_whole h⟩, if_pos ⟨rfl, he⟩]
    · rw [if_neg (fun x => he x.1), if_neg (fun x => he x.2)]
/-- The numbers of a right record are bytes, and those that are not told are 0. -/
theorem rec_small {n : Int} {r : Rc} (h : recErr n r = 0) : Small r.kind ∧ Small r.txn ∧ Small r.prev ∧ Small r.page ∧ Small r.cell ∧ Small r.old ∧ Small r.new ∧ Small r.next ∧
    (turns r = false → r.page = 0 ∧ r.cell = 0 ∧ r.old = 0 ∧ r.new = 0) ∧ (r.kind ≠ 3 → r.next = 0) := by
  obtain ⟨h1, h2, h3, h4⟩ := (recErr_zero' n r).1 h
  have g1 := out1_false h1
  have g2 := out1_false h2
  unfold outOf at h3
  simp only [Bool.or_eq_false_iff] at h3
  obtain ⟨a1, a2, a3, a4⟩ := h3
  have g3 := out1_false a1
  have g4 := out1_false a2
  unfold tooMuch at h4
  rw [Bool.or_eq_false_iff] at h4
  obtain ⟨b1, b2⟩ := h4
  have c1 : turns r = false → r.page = 0 ∧ r.cell = 0 ∧ r.old = 0 ∧ r.new = 0 := fun ht => by
    rw [ht, out_zero4] at b1
    simpa using b1
  have c2 : r.kind ≠ 3 → r.next = 0 := fun hk => by
    have : (r.kind != 3) = true := by simpa using hk
    rw [this] at b2
    simpa using b2
  have c3 : turns r = true → (0 ≤ r.page ∧ r.page ≤ 2) ∧ (0 ≤ r.cell ∧ r.cell ≤ 2) ∧ (0 ≤ r.old ∧ r.old ≤ 99) ∧ (0 ≤ r.new ∧ r.new ≤ 99) := fun ht => by
    rw [ht] at a3
    simp only [Bool.true_and, cellOut, Bool.or_eq_false_iff] at a3
    refine ⟨out1_false a3.1, out1_false a3.2.1, ?_⟩
    have := a3.2.2
    simp [out] at this
    omega
  have c4 : r.kind = 3 → 0 ≤ r.next ∧ r.next ≤ n - 1 := fun hk => by
    have : (r.kind == 3) = true := by simpa using hk
    rw [this] at a4
    exact out1_false a4
  have c5 : Small r.next := by
    by_cases hk : r.kind = 3
    · have := c4 hk; unfold Small; omega
    · rw [c2 hk]; unfold Small; omega
  refine ⟨by unfold Small; omega, by unfold Small; omega, by unfold Small; omega, ?_, ?_, ?_, ?_, c5, c1, c2⟩ <;> cases ht : turns r
  · rw [(c1 ht).1]; unfold Small; omega
  · have := (c3 ht).1; unfold Small; omega
  · rw [(c1 ht).2.1]; unfold Small; omega
  · have := (c3 ht).2.1; unfold Small; omega
  · rw [(c1 ht).2.2.1]; unfold Small; omega
  · have := (c3 ht).2.2.1; unfold Small; omega
  · rw [(c1 ht).2.2.2]; unfold Small; omega
  · have := (c3 ht).2.2.2; unfold Small; omega
theorem at_byt {b : List UInt8} {i : Nat} {x : Int} (hx : Small x) (h : b[i]? = some (byt x)) : byteAt b i = x := by
  unfold byteAt
  rw [List.getD_eq_getElem?_getD, h]
  exact byt_small hx
theorem rdRec_back {n : Int} {r : Rc} (h : recErr n r = 0) (m : List UInt8) : rdRec (recBytes r ++ m) = r ∧ byteAt (recBytes r ++ m) 0 = r.kind := by
  obtain ⟨s1, s2, s3, s4, s5, s6, s7, s8, z1, z2⟩ := rec_small h
  have hk : byteAt (recBytes r ++ m) 0 = r.kind := at_byt s1 rfl
  refine ⟨?_, hk⟩
  have h1 : byteAt (recBytes r ++ m) 1 = r.txn := at_byt s2 rfl
  have h2 : byteAt (recBytes r ++ m) 2 = r.prev := at_byt s3 rfl
  unfold rdRec
  rw [hk, h1, h2]
  obtain ⟨kind, txn, prev, page, cell, old, new, next⟩ := r
  dsimp only at *
  by_cases e3 : kind = 3
  · subst e3
    rw [if_pos rfl, at_byt (i := 3) s4 rfl, at_byt (i := 4) s5 rfl, at_byt (i := 5) s6 rfl, at_byt (i := 6) s7 rfl, at_byt (i := 7) s8 rfl]
  · rw [if_neg e3]
    have hz := z2 e3
    subst hz
    by_cases e1 : kind = 1
    · subst e1
      rw [if_pos rfl, at_byt (i := 3) s4 rfl, at_byt (i := 4) s5 rfl, at_byt (i := 5) s6 rfl, at_byt (i := 6) s7 rfl]
    · rw [if_neg e1]
      obtain ⟨y1, y2, y3, y4⟩ := z1 (by simp [turns, e1, e3])
      subst y1 y2 y3 y4
      rfl
/-- Records each of which may be of a number. -/
theorem log_back : ∀ l : List Rc, (∀ r ∈ l, ∃ n, recErr n r = 0) → rdLog (logBytes l) = l ∧ whole (logBytes l) = true := by
  intro l
  induction l with
  | nil => intro _; exact ⟨rfl, rfl⟩
  | cons r l ih =>
    intro h
    obtain ⟨n, hn⟩ := h r (List.mem_cons_self ..)
    obtain ⟨i1, i2⟩ := ih fun x hx => h x (List.mem_cons_of_mem _ hx)
    obtain ⟨h1, h2⟩ := rdRec_back hn (logBytes l)
    have hne : recBytes r ++ logBytes l ≠ [] := by unfold recBytes; simp
    have hlen := recBytes_len r
    have hd : (recBytes r ++ logBytes l).drop (recLen r.kind) = logBytes l := by rw [← hlen, List.drop_left]
    rw [logBytes_cons, rdLog_cons hne, whole_cons hne, h1, h2, hd, i1, i2]
    refine ⟨rfl, ?_⟩
    rw [Bool.and_true, decide_eq_true_eq, List.length_append]
    omega
theorem right_recs : ∀ l, Right l → ∀ r ∈ l, ∃ n, recErr n r = 0 := right_ind _ (fun r h => by cases h) fun l r _ ih he _ x hx => by
  rcases List.mem_append.1 hx with hx | hx
  · exact ih x hx
  · simp at hx
    subst hx
    exact ⟨_, he⟩
theorem pages_small : ∀ l, Right l → ∀ k, Small ((pagesR l).getD k 0) := right_ind _ (fun k => by
  have hz : (pagesR []).getD k 0 = 0 := by
    show (List.replicate 12 (0 : Int)).getD k 0 = 0
    rw [List.getD_eq_getElem?_getD, List.getElem?_replicate]
    split <;> rfl
  rw [hz]; unfold Small; omega) fun l r _ ih he _ k => by
  have hn := recErr_num he
  have hs := (rec_small he).2.2.2.2.2.2.1
  rw [pagesR_snoc]
  split
  · rw [getD_set]
    split
    · unfold Small; omega
    · rw [getD_set]
      split
      · exact hs
      · exact ih k
  · exact ih k
/-- The numbers of a right world's pages are bytes. -/
theorem untold_small {l : List Rc} (hR : Right l) {safe : Int} {i : Nat} {d : Pg} (h : untoldB l safe i d = false) : Small d.c0 ∧ Small d.c1 ∧ Small d.c2 ∧ Small d.last := by
  obtain ⟨_, _, h3⟩ := untold_told h
  have hp := pages_small _ (right_pre hR d.last.toNat)
  rw [← h3]
  exact ⟨hp _, hp _, hp _, hp _⟩
/-- What is written is read as it was. -/
theorem wd_back {w : Wd} (h : w.err = 0) : rdWd (wdBytes w) = w ∧ wholeWd (wdBytes w) = true := by
  obtain ⟨p, q, r, l, safe⟩ := w
  unfold Wd.err at h
  dsimp only at h
  obtain ⟨hl, h2, h3⟩ := worldErr_zero h
  obtain ⟨h60, hR⟩ := logErr_zero hl
  have hs := out1_false h2
  simp only [untoldTo, Bool.or_eq_false_iff, Bool.false_or] at h3
  obtain ⟨a1, a2, a3, a4⟩ := untold_small (d := p) hR h3.1.1
  obtain ⟨b1, b2, b3, b4⟩ := untold_small (d := q) hR h3.1.2
  obtain ⟨c1, c2, c3, c4⟩ := untold_small (d := r) hR h3.2
  have ss : Small safe := by unfold Small; omega
  obtain ⟨e1, e2⟩ := log_back l (right_recs l hR)
  have hd : (wdBytes ⟨p, q, r, l, safe⟩).drop 13 = logBytes l := rfl
  constructor
  · unfold rdWd
    rw [hd, e1, at_byt (i := 0) a1 rfl, at_byt (i := 1) a2 rfl, at_byt (i := 2) a3 rfl, at_byt (i := 3) a4 rfl, at_byt (i := 4) b1 rfl, at_byt (i := 5) b2 rfl, at_byt (i := 6) b3 rfl, at_byt (i := 7) b4 rfl,
      at_byt (i := 8) c1 rfl, at_byt (i := 9) c2 rfl, at_byt (i := 10) c3 rfl, at_byt (i := 11) c4 rfl, at_byt (i := 12) ss rfl]
  · unfold wholeWd
    rw [hd, e2, Bool.and_true, decide_eq_true_eq]
    unfold wdBytes
    rw [List.length_append, head_len]
    omega
theorem from_back {w : Wd} (h : w.err = 0) : fromR (wdBytes w) = some w := by
  obtain ⟨h1, h2⟩ := wd_back h
  unfold fromR
  rw [h1, if_pos ⟨h2, h⟩]
theorem from_some {b : List UInt8} {w : Wd} (h : fromR b = some w) : w.err = 0 ∧ wdBytes w = b := by
  unfold fromR at h
  split at h
  · rename_i x
    cases h
    exact ⟨x.2, wd_whole x.1⟩
  · cases h
/-- A right world has at most 493 bytes. -/
theorem wd_len {w : Wd} (h : w.err = 0) : (wdBytes w).length ≤ 493 := by
  have h60 := (logErr_zero (worldErr_zero h).1).1
  have := logBytes_len w.l
  unfold wdBytes
  rw [List.length_append, head_len]
  omega
end Go.Proofs.YtbfefocehnafgaaDoor.B
