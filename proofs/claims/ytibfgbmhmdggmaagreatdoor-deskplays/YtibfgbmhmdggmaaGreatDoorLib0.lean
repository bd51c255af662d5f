/- The desk, as plain functions of texts: digits, numbers, words, lines; what a line does and gives; what a script gives. No Go in sight. · Texts as values; the reference's Digits. · The library's plain words for texts, and mine. -/
import Derived.Test.YtibfgbmhmdggmaaGreatDoorPlainB
import Derived.Laws.IdiomStrings
import Derived.Lib.Split
import Derived.Lib.IndexBytes
import Derived.Lib.Join
import Derived.Lib.Atoi
import Derived.Lib.ItoaNum
import Derived.Lib.SlTrimSet
import Derived.Lib.Strings
namespace Go.Proofs.YtibfgbmhmdggmaaGreatDoor.B
set_option maxHeartbeats 32000000
set_option maxRecDepth 100000
def dig (n : Nat) : UInt8 := UInt8.ofNat (48 + n % 10)
def digF : Nat → Nat → List UInt8
 | 0, _ => []
 | f + 1, n => if n < 10 then [dig n] else digF f (n / 10) ++ [dig n]
def digitsR (n : Nat) : List UInt8 := digF 20 n
theorem digF_more (f : Nat) : ∀ (g n : Nat), n < 10 ^ f → f ≤ g → 0 < f → digF f n = digF g n := by
 induction f with
 | zero => intro g n _ _ h; omega
 | succ f ih =>
  intro g n h1 h2 _
  obtain ⟨g', rfl⟩ : ∃ g', g = g' + 1 := ⟨g - 1, by omega⟩
  rw [digF, digF]
  by_cases hn : n < 10
  ·rw [if_pos hn, if_pos hn]
  ·rw [if_neg hn, if_neg hn, ih g' (n / 10) (by rw [Nat.pow_succ] at h1; omega) (by omega)]
   rcases Nat.eq_zero_or_pos f with h0 | h0
   ·subst h0; simp at h1; omega
   ·exact h0
theorem digits_small {n : Nat} (h : n < 10) : digitsR n = [dig n] := by unfold digitsR; rw [digF, if_pos h]
theorem digits_step {n : Nat} (h : ¬ n < 10) (hn : n < 10 ^ 19) : digitsR n = digitsR (n / 10) ++ [dig n] := by
 unfold digitsR
 rw [show digF 20 n = digF (19 + 1) n from rfl, digF, if_neg h, digF_more 19 20 (n / 10) (by omega) (by omega) (by omega)]
def isDig (u : UInt8) : Bool := decide (48 ≤ u.toNat) && decide (u.toNat ≤ 57)
def valOf (s : List UInt8) : Nat := s.foldl (fun n u => 10 * n + (u.toNat - 48)) 0
theorem valOf_snoc (s : List UInt8) (u : UInt8) : valOf (s ++ [u]) = 10 * valOf s + (u.toNat - 48) := by unfold valOf; rw [List.foldl_append]; rfl
theorem valOf_take (s : List UInt8) (k : Nat) (h : k < s.length) : valOf (s.take (k + 1)) = 10 * valOf (s.take k) + (s[k].toNat - 48) := by rw [List.take_succ_eq_append_getElem h, valOf_snoc]
def numR (s : List UInt8) : Int :=
 if 1 ≤ s.length ∧ s.length ≤ 6 ∧ s.all isDig = true ∧ digitsR (valOf s) = s then ((valOf s : Nat) : Int) else -1
theorem valOf_lt : ∀ s : List UInt8, s.all isDig = true → valOf s < 10 ^ s.length := list_snoc _ (fun _ => by decide) fun s u ih h => by
 rw [List.all_append, Bool.and_eq_true] at h
 have h1 := ih h.1
 have h2 : isDig u = true := by simpa using h.2
 unfold isDig at h2
 rw [Bool.and_eq_true, decide_eq_true_eq, decide_eq_true_eq] at h2
 rw [valOf_snoc, List.length_append, List.length_singleton, Nat.pow_succ]
 omega
theorem dig_back {u : UInt8} (h : isDig u = true) (n : Nat) : dig (10 * n + (u.toNat - 48)) = u := by
 unfold isDig at h
 rw [Bool.and_eq_true, decide_eq_true_eq, decide_eq_true_eq] at h
 unfold dig
 rw [show 48 + (10 * n + (u.toNat - 48)) % 10 = u.toNat from by omega]
 exact UInt8.ofNat_toNat
theorem dig_nat (n : Nat) : (dig n).toNat = 48 + n % 10 := by unfold dig; rw [UInt8.toNat_ofNat']; omega
def noZero (s : List UInt8) : Bool := decide (s.length = 1) || !(s.head? == some 48)
theorem digits_head (n : Nat) : n < 10 ^ 19 → 0 < n → (digitsR n).head? ≠ some 48 ∧ digitsR n ≠ [] := by
 induction n using Nat.strongRecOn with
 | ind n ih =>
  intro h1 h2
  by_cases h : n < 10
  ·rw [digits_small h]
   refine ⟨fun e => ?_, by simp⟩
   have : dig n = 48 := by simpa using e
   have h3 := dig_nat n
   rw [this] at h3
   have h4 : (48 : UInt8).toNat = 48 := rfl
   omega
  ·obtain ⟨h3, h4⟩ := ih (n / 10) (by omega) (by omega) (by omega)
   rw [digits_step h h1]
   refine ⟨?_, by simp⟩
   cases hd : digitsR (n / 10) with
   | nil => exact absurd hd h4
   | cons x xs => rw [hd] at h3; simpa using h3
theorem digits_back : ∀ s : List UInt8, s ≠ [] → s.length ≤ 18 → s.all isDig = true → noZero s = true → digitsR (valOf s) = s := list_snoc _ (fun h => absurd rfl h) fun s u ih _ hl ha hz => by
 rw [List.all_append, Bool.and_eq_true] at ha
 have hu : isDig u = true := by simpa using ha.2
 rw [List.length_append, List.length_singleton] at hl
 rw [valOf_snoc]
 have hd : ∀ n, dig (10 * n + (u.toNat - 48)) = u := dig_back hu
 have hu2 := hu
 unfold isDig at hu2
 rw [Bool.and_eq_true, decide_eq_true_eq, decide_eq_true_eq] at hu2
 cases s with
 | nil =>
  rw [show valOf [] = 0 from rfl, digits_small (by omega), hd]
  rfl
 | cons x xs =>
  have hx48 : x ≠ 48 := fun e => by
   unfold noZero at hz
   rw [e] at hz
   simp at hz
  have hpos : 0 < valOf (x :: xs) := by
   have hx : isDig x = true := by have := ha.1; rw [List.all_cons, Bool.and_eq_true] at this; exact this.1
   have hge : ∀ (ys : List UInt8) (a : Nat), a ≤ ys.foldl (fun n u => 10 * n + (u.toNat - 48)) a := by
    intro ys
    induction ys with
    | nil => intro a; exact Nat.le_refl _
    | cons y ys ih => intro a; rw [List.foldl_cons]; have := ih (10 * a + (y.toNat - 48)); omega
   unfold valOf
   rw [List.foldl_cons]
   have := hge xs (10 * 0 + (x.toNat - 48))
   unfold isDig at hx
   rw [Bool.and_eq_true, decide_eq_true_eq, decide_eq_true_eq] at hx
   have hne : x.toNat ≠ 48 := fun e => hx48 (UInt8.toNat_inj.1 e)
   omega
  have hlt := valOf_lt (x :: xs) ha.1
  have hpow : 10 ^ (x :: xs).length ≤ 10 ^ 17 := Nat.pow_le_pow_right (by omega) (by omega)
  have hz' : noZero (x :: xs) = true := by
   unfold noZero
   simp [hx48]
  rw [digits_step (by omega) (by omega), hd, show (10 * valOf (x :: xs) + (u.toNat - 48)) / 10 = valOf (x :: xs) from by omega, ih (by simp) (by omega) ha.1 hz']
theorem numR_eq (s : List UInt8) : numR s = if 1 ≤ s.length ∧ s.length ≤ 6 ∧ s.all isDig = true ∧ noZero s = true then ((valOf s : Nat) : Int) else -1 := by
 unfold numR
 by_cases h : 1 ≤ s.length ∧ s.length ≤ 6 ∧ s.all isDig = true
 ·obtain ⟨h1, h2, h3⟩ := h
  have hne : s ≠ [] := fun e => by rw [e] at h1; simp at h1
  cases hz : noZero s
  ·have hnd : digitsR (valOf s) ≠ s := fun e => by
    unfold noZero at hz
    rw [Bool.or_eq_false_iff, Bool.not_eq_false', decide_eq_false_iff_not] at hz
    have hh : s.head? = some 48 := by simpa using hz.2
    have hlt := valOf_lt s h3
    have hpow : 10 ^ s.length ≤ 10 ^ 6 := Nat.pow_le_pow_right (by omega) h2
    rcases Nat.eq_zero_or_pos (valOf s) with h0 | h0
    ·rw [h0] at e
     rw [← e] at hz
     exact hz.1 rfl
    ·have := (digits_head (valOf s) (by omega) h0).1
     rw [e] at this
     exact this hh
   rw [if_neg (fun x => hnd x.2.2.2), if_neg (fun x => by cases x.2.2.2)]
  ·rw [if_pos ⟨h1, h2, h3, digits_back s hne (by omega) h3 hz⟩, if_pos ⟨h1, h2, h3, rfl⟩]
 ·rw [if_neg (fun x => h ⟨x.1, x.2.1, x.2.2.1⟩), if_neg (fun x => h ⟨x.1, x.2.1, x.2.2.1⟩)]
def splitAt' (c : UInt8) : List UInt8 → List (List UInt8)
 | [] => [[]]
 | x :: xs => if x = c then [] :: splitAt' c xs else match splitAt' c xs with
  | [] => [[x]]
  | w :: ws => (x :: w) :: ws
theorem splitAt_ne (c : UInt8) (s : List UInt8) : splitAt' c s ≠ [] := by
 cases s with
 | nil => simp [splitAt']
 | cons x xs =>
  rw [splitAt']
  split
  ·simp
  ·split <;> simp
def joinHead (p : List UInt8) : List (List UInt8) → List (List UInt8)
 | [] => [p]
 | w :: ws => (p ++ w) :: ws
theorem joinHead_nil {l : List (List UInt8)} (h : l ≠ []) : joinHead [] l = l := by cases l with
 | nil => exact absurd rfl h
 | cons w ws => rfl
theorem split_end (c : UInt8) (p : List UInt8) : joinHead p (splitAt' c []) = [p] := by simp [splitAt', joinHead]
theorem split_at (c : UInt8) (p : List UInt8) {x : UInt8} {xs : List UInt8} (h : x = c) : joinHead p (splitAt' c (x :: xs)) = p :: splitAt' c xs := by simp [splitAt', joinHead, h]
theorem split_on (c : UInt8) (p : List UInt8) {x : UInt8} {xs : List UInt8} (h : x ≠ c) : joinHead p (splitAt' c (x :: xs)) = joinHead (p ++ [x]) (splitAt' c xs) := by
 rw [splitAt', if_neg h]
 cases hs : splitAt' c xs with
 | nil => exact absurd hs (splitAt_ne c xs)
 | cons w ws => simp [joinHead]
theorem splitAt_len (c : UInt8) (s : List UInt8) : (splitAt' c s).length = 1 + s.count c := by
 induction s with
 | nil => rfl
 | cons x xs ih =>
  by_cases h : x = c
  ·rw [splitAt', if_pos h, List.length_cons, ih, h, List.count_cons_self]
   omega
  ·rw [splitAt', if_neg h, List.count_cons_of_ne h]
   cases hs : splitAt' c xs with
   | nil => exact absurd hs (splitAt_ne c xs)
   | cons w ws => rw [hs] at ih; simpa using ih
def wordsR (s : List UInt8) : List (List UInt8) := splitAt' 32 s
def linesR (t : List UInt8) : List (List UInt8) := (splitAt' 10 t).dropLast
def listedR : List Int → List UInt8
 | [] => []
 | [n] => digitsR n.toNat
 | n :: m :: ns => digitsR n.toNat ++ (32 :: listedR (m :: ns))
def cellsOfPgs (p q r : Pg) : List Int := [p.c0, p.c1, p.c2, q.c0, q.c1, q.c2, r.c0, r.c1, r.c2]
def sOk : List UInt8 := [111, 107]
def sError : List UInt8 := [101, 114, 114, 111, 114, 32]
def sWrite : List UInt8 := [119, 114, 105, 116, 101]
def sCommit : List UInt8 := [99, 111, 109, 109, 105, 116]
def sAbort : List UInt8 := [97, 98, 111, 114, 116]
def sSync : List UInt8 := [115, 121, 110, 99]
def sFlush : List UInt8 := [102, 108, 117, 115, 104]
def sCrash : List UInt8 := [99, 114, 97, 115, 104]
def sNow : List UInt8 := [110, 111, 119]
def sDisk : List UInt8 := [100, 105, 115, 107]
def sMust : List UInt8 := [109, 117, 115, 116]
def sLog : List UInt8 := [108, 111, 103]
def sState : List UInt8 := [115, 116, 97, 116, 101]
structure Told where
 err : Int
 wd : Wd
 text : List UInt8
def formT (w : Wd) : Told := ⟨1, w, []⟩
def actT (w : Wd) (x : Ac) : Told := ⟨doErr w x, doTo w x, sOk⟩
def cmdR (w : Wd) (x : List UInt8) (l : List Int) : Told :=
 match l with
 | [a, b, c, d] => if x = sWrite then actT w ⟨1, a, b, c, d⟩ else formT w
 | [a] => if x = sCommit then actT w ⟨2, a, 0, 0, 0⟩ else if x = sAbort then actT w ⟨3, a, 0, 0, 0⟩ else if x = sSync then actT w ⟨4, 0, 0, 0, a⟩ else if x = sFlush then actT w ⟨5, 0, a, 0, 0⟩
  else if x = sState then ⟨(if out 1 9 [a] then 3 else 0), w, digitsR (stateR w.l a).toNat⟩ else formT w
 | _ => formT w
def toldR (w : Wd) (s : List UInt8) : Told :=
 if s = sCrash then ⟨doErr w ⟨6, 0, 0, 0, 0⟩, mendWd w, digitsR (needR w.cut)⟩
 else if s = sNow then ⟨0, w, listedR (cellsOfPgs (pgAt (pagesR w.l) 0) (pgAt (pagesR w.l) 1) (pgAt (pagesR w.l) 2))⟩
 else if s = sDisk then ⟨0, w, listedR (cellsOfPgs w.p w.q w.r)⟩
 else if s = sMust then ⟨0, w, listedR (cellsR w.cut)⟩
 else if s = sLog then ⟨0, w, digitsR w.l.length ++ (32 :: digitsR w.safe.toNat)⟩
 else match wordsR s with
  | [] => formT w
  | x :: ws => if (ws.all fun v => decide (0 ≤ numR v)) then cmdR w x (ws.map numR) else formT w
def lineW (w : Wd) (s : List UInt8) : Wd := if (toldR w s).err = 0 then (toldR w s).wd else w
def lineT (w : Wd) (s : List UInt8) : List UInt8 := (if (toldR w s).err = 0 then (toldR w s).text else sError ++ digitsR (toldR w s).err.toNat) ++ [10]
def playL : Wd → List (List UInt8) → List UInt8
 | _, [] => []
 | w, s :: ss => lineT w s ++ playL (lineW w s) ss
def playW (w : Wd) (ss : List (List UInt8)) : Wd := ss.foldl lineW w
theorem playL_snoc (s : List UInt8) : ∀ (ss : List (List UInt8)) (w : Wd), playL w (ss ++ [s]) = playL w ss ++ lineT (playW w ss) s := by
 intro ss
 induction ss with
 | nil => intro w; show lineT w s ++ [] = [] ++ lineT w s; rw [List.append_nil, List.nil_append]
 | cons x xs ih => intro w; show lineT w x ++ playL (lineW w x) (xs ++ [s]) = lineT w x ++ playL (lineW w x) xs ++ _; rw [ih, List.append_assoc]; rfl
theorem playW_snoc (w : Wd) (ss : List (List UInt8)) (s : List UInt8) : playW w (ss ++ [s]) = lineW (playW w ss) s := by unfold playW; rw [List.foldl_append]; rfl
def playErr (t : List UInt8) : Int := if 4096 < t.length ∨ 60 < t.count 10 then 2 else if t ≠ [] ∧ t.getLast? ≠ some 10 then 1 else 0
def playR (t : List UInt8) : List UInt8 := if playErr t = 0 then playL noWd (linesR t) else []
theorem lines_len (t : List UInt8) : (linesR t).length = t.count 10 := by unfold linesR; rw [List.length_dropLast, splitAt_len]; omega
theorem cmd_right {w : Wd} (h : w.err = 0) (x : List UInt8) (l : List Int) : (cmdR w x l).err = 0 → (cmdR w x l).wd.err = 0 := by
 have act : ∀ a : Ac, (actT w a).err = 0 → (actT w a).wd.err = 0 := fun a he => (do_right he).2.1
 have form : (formT w).err = 0 → (formT w).wd.err = 0 := fun _ => h
 unfold cmdR
 split
 ·split
  ·exact act _
  ·exact form
 ·split
  ·exact act _
  ·split
   ·exact act _
   ·split
    ·exact act _
    ·split
     ·exact act _
     ·split
      ·exact fun _ => h
      ·exact form
 ·exact form
theorem told_right {w : Wd} (h : w.err = 0) (s : List UInt8) : (toldR w s).err = 0 → (toldR w s).wd.err = 0 := by
 unfold toldR
 split
 ·exact fun he => (do_right (x := ⟨6, 0, 0, 0, 0⟩) he).2.1
 ·split
  ·exact fun _ => h
  ·split
   ·exact fun _ => h
   ·split
    ·exact fun _ => h
    ·split
     ·exact fun _ => h
     ·split
      ·exact fun _ => h
      ·split
       ·exact cmd_right h _ _
       ·exact fun _ => h
theorem line_right {w : Wd} (h : w.err = 0) (s : List UInt8) : (lineW w s).err = 0 := by
 unfold lineW
 split
 ·rename_i he; exact told_right h s he
 ·exact h
theorem play_right : ∀ ss : List (List UInt8), (playW noWd ss).err = 0 := list_snoc _ noWd_err fun ss s ih => by rw [playW_snoc]; exact line_right ih s
def deskT : List UInt8 := [119, 114, 105, 116, 101, 32, 49, 32, 48, 32, 48, 32, 53, 10, 102, 108, 117, 115, 104, 32, 48, 10, 119, 114, 105, 116, 101, 32, 50, 32, 48, 32, 48, 32, 54, 10, 119, 114, 105, 116, 101, 32, 50, 32, 49, 32, 50, 32, 55, 10, 99, 111, 109, 109, 105, 116, 32, 50, 10, 99, 111, 109, 109, 105, 116, 32, 50, 10, 119, 114, 105, 116, 101, 32, 51, 32, 50, 32, 49, 32, 57, 10, 110, 111, 119, 10, 100, 105, 115, 107, 10, 109, 117, 115, 116, 10, 108, 111, 103, 10, 115, 116, 97, 116, 101, 32, 49, 10, 99, 114, 97, 115, 104, 10, 110, 111, 119, 10, 115, 116, 97, 116, 101, 32, 49, 10, 115, 116, 97, 116, 101, 32, 51, 10, 108, 111, 103, 10, 97, 98, 111, 114, 116, 32, 51, 10, 115, 121, 110, 99, 32, 57, 10, 120, 10]
def deskA : List UInt8 := [111, 107, 10, 111, 107, 10, 101, 114, 114, 111, 114, 32, 53, 10, 111, 107, 10, 111, 107, 10, 101, 114, 114, 111, 114, 32, 54, 10, 111, 107, 10, 53, 32, 48, 32, 48, 32, 48, 32, 48, 32, 55, 32, 48, 32, 57, 32, 48, 10, 53, 32, 48, 32, 48, 32, 48, 32, 48, 32, 48, 32, 48, 32, 48, 32, 48, 10, 48, 32, 48, 32, 48, 32, 48, 32, 48, 32, 55, 32, 48, 32, 48, 32, 48, 10, 53, 32, 51, 10, 49, 10, 51, 10, 48, 32, 48, 32, 48, 32, 48, 32, 48, 32, 55, 32, 48, 32, 48, 32, 48, 10, 52, 10, 48, 10, 54, 32, 54, 10, 101, 114, 114, 111, 114, 32, 55, 10, 101, 114, 114, 111, 114, 32, 51, 10, 101, 114, 114, 111, 114, 32, 49, 10]
theorem desk_played : playErr deskT = 0 ∧ playR deskT = deskA := by decide +kernel
end Go.Proofs.YtibfgbmhmdggmaaGreatDoor.B
namespace Go.Proofs.YtibfgbmhmdggmaaGreatDoor.B
set_option maxHeartbeats 32000000
set_option maxRecDepth 100000
open Go.ChangeShapes Go.WideShapes Go.ChangeAt Go.RowKit
abbrev tx (bs : List UInt8) : Value := .string ⟨bs.toArray⟩
theorem str_add (a b : List UInt8) : (⟨a.toArray⟩ : ByteArray) ++ ⟨b.toArray⟩ = ⟨(a ++ b).toArray⟩ := by
 apply ByteArray.ext
 simp [ByteArray.data_append]
theorem digF_len (f : Nat) : ∀ n, (digF f n).length ≤ f := by
 induction f with
 | zero => intro n; exact Nat.le_refl _
 | succ f ih =>
  intro n
  rw [digF]
  split
  ·simp
  ·rw [List.length_append, List.length_singleton]; have := ih (n / 10); omega
theorem digits_len (n : Nat) : (digitsR n).length ≤ 20 := digF_len 20 n
theorem conv_one (n : Nat) (w : World) : (convert 67 9 (.slice (some ⟨w.heap.size, 0, none⟩) 1 1)).run Tryz.prog (w.alloc (.cells #[.int .u8 (48 + (n : Int) % 10)] 5)) = .ok (tx [dig n]) (w.alloc (.cells #[.int .u8 (48 + (n : Int) % 10)] 5)) := by
 refine run_convert_bytes_back (P := Tryz.prog) _ 67 9 5 ⟨w.heap.size, 0, none⟩ 1 [dig n] Tryz.underlying67 Tryz.underlying5 Tryz.underlying9 fun j hj => ?_
 obtain rfl : j = 0 := by simpa using hj
 have B := Blk.new w w.heap.size #[.int .u8 (48 + (n : Int) % 10)] 5 rfl
 have := B.cell 0
 rw [show (⟨w.heap.size, 0, none⟩ : Addr).add 0 = ⟨w.heap.size, 0, none⟩ from rfl, this]
 simp [dig_nat]
theorem digits_any (n : Nat) (hn : n < 10 ^ 18) (w : World) :
  Calls Tryz.prog 13 #[.int .i64 (n : Nat)] w fun e w' => e = .returned (tx (digitsR n)) ∧ Ext w w' := by
 induction n using Nat.strongRecOn generalizing w with
 | ind n ih =>
  have hc := conv_one n w
  have E0 := (Ext.refl w).alloc (.cells #[.int .u8 (48 + (n : Int) % 10)] 5)
  by_cases h : n < 10
  ·have hi : (n : Int) < 10 := by omega
   have HD : Hid (digitsR n = [dig n]) := digits_small h
   go_enter Tryz.func13, Tryz.ntmps13
   go_wp2_with fail
   go_ret
   exact ⟨by rw [HD.out]; rfl, E0⟩
  ·have hi : ¬ (n : Int) < 10 := by omega
   have IH := ih (n / 10) (by omega) (by omega) (w.alloc (.cells #[.int .u8 (48 + (n : Int) % 10)] 5))
   have hl := digits_len (n / 10)
   have HD : Hid (digitsR n = digitsR (n / 10) ++ [dig n]) := digits_step h (by omega)
   have HA := (show Hid ((⟨(digitsR (n / 10)).toArray⟩ : ByteArray) ++ ⟨[dig n].toArray⟩ = ⟨(digitsR (n / 10) ++ [dig n]).toArray⟩) from str_add _ _)
   go_enter Tryz.func13, Tryz.ntmps13
   go_wp2_with fail
   refine IH.mono ?_
   rintro e w1 ⟨rfl, hw⟩
   go_wp2_with fail
   go_ret
   exact ⟨by rw [HD.out]; exact congrArg (fun z => Ending.returned (Value.string z)) HA.out, E0.trans hw⟩
end Go.Proofs.YtibfgbmhmdggmaaGreatDoor.B
namespace Go.Proofs.YtibfgbmhmdggmaaGreatDoor.B
set_option maxHeartbeats 32000000
set_option maxRecDepth 100000
open Go.Lib
theorem dec_digits (n : Nat) : n < 10 ^ 19 → decDigits n = digitsR n := by
 induction n using Nat.strongRecOn with
 | ind n ih =>
  intro hn
  rw [decDigits]
  by_cases h : n < 10
  ·rw [dif_pos h, digits_small h]
   unfold dig
   rw [Nat.mod_eq_of_lt h]
  ·rw [dif_neg h, ih (n / 10) (by omega) (by omega), digits_step h hn]
   rfl
theorem listed_join : ∀ ns : List Int, listedR ns = join (ns.map fun n => digitsR n.toNat) [32]
 | [] => rfl
 | [n] => by simp [listedR, join, List.intercalate]
 | n :: m :: ns => by
  have := listed_join (m :: ns)
  rw [listedR, this]
  simp [join, List.intercalate]
theorem byte_parts (c : UInt8) : ∀ s : List UInt8, (indexByte s c = -1 ∧ c ∉ s) ∨ ∃ pre post, s = pre ++ c :: post ∧ c ∉ pre ∧ indexByte s c = (pre.length : Nat)
 | [] => Or.inl ⟨rfl, by simp⟩
 | b :: l => by
  unfold indexByte
  by_cases h : b = c
  ·exact Or.inr ⟨[], l, by rw [h]; rfl, by simp, by simp [h]⟩
  ·rcases byte_parts c l with ⟨h1, h2⟩ | ⟨pre, post, h1, h2, h3⟩
   ·exact Or.inl ⟨by simp [h, h1], by simp [h2]; exact fun e => h e.symm⟩
   ·refine Or.inr ⟨b :: pre, post, by rw [h1]; rfl, by simp [h2]; exact fun e => h e.symm, ?_⟩
    simp [h, h3]
theorem split_no (c : UInt8) : ∀ s : List UInt8, c ∉ s → splitAt' c s = [s]
 | [], _ => rfl
 | b :: l, h => by
  rw [splitAt', if_neg (fun e => h (by simp [e])), split_no c l (fun e => h (by simp [e]))]
theorem split_pre (c : UInt8) (post : List UInt8) : ∀ pre : List UInt8, c ∉ pre → splitAt' c (pre ++ c :: post) = pre :: splitAt' c post
 | [], _ => by rw [List.nil_append, splitAt', if_pos rfl]
 | b :: l, h => by
  rw [List.cons_append, splitAt', if_neg (fun e => h (by simp [e])), split_pre c post l (fun e => h (by simp [e]))]
theorem split_lib (c : UInt8) (n : Nat) : ∀ s : List UInt8, s.length ≤ n → splitK [c] 0 (count s [c]) s = splitAt' c s := by
 induction n with
 | zero =>
  intro s hs
  have : s = [] := List.length_eq_zero_iff.1 (by omega)
  subst this
  rfl
 | succ n ih =>
  intro s hs
  have hx := index_one s c
  rcases byte_parts c s with ⟨h1, h2⟩ | ⟨pre, post, h1, h2, h3⟩
  ·rw [h1] at hx
   rw [count_miss hx, split_no c s h2]
   rfl
  ·rw [h3] at hx
   rw [count_hit (by simp) hx, Nat.add_comm 1, splitK, hx]
   have hd : s.drop (pre.length + [c].length) = post := by rw [h1, List.length_singleton, show pre ++ c :: post = (pre ++ [c]) ++ post from by simp, show pre.length + 1 = (pre ++ [c]).length from by simp, List.drop_left]
   have ht : s.take pre.length = pre := by rw [h1, List.take_left]
   rw [if_neg (by simp), Int.toNat_natCast, hd, Nat.add_zero, ht, ih post (by rw [h1] at hs; simp at hs; omega), h1, split_pre c post pre h2]
def digS : List UInt8 := [48, 49, 50, 51, 52, 53, 54, 55, 56, 57]
theorem digS_is (u : UInt8) : digS.contains u = isDig u := by
 have h : ∀ n, n < 256 → digS.contains (UInt8.ofNat n) = isDig (UInt8.ofNat n) := by decide +kernel
 have := h u.toNat u.toNat_lt
 rw [UInt8.ofNat_toNat] at this
 exact this
theorem dropW_nil (p : UInt8 → Bool) : ∀ l : List UInt8, l.dropWhile p = [] ↔ l.all p = true
 | [] => by simp
 | b :: l => by
  rw [List.dropWhile_cons, List.all_cons]
  by_cases h : p b = true
  ·rw [if_pos h, h, Bool.true_and]; exact dropW_nil p l
  ·rw [if_neg h, Bool.eq_false_iff.2 h]; simp
theorem dropW_head (p : UInt8 → Bool) : ∀ (l : List UInt8) {x : UInt8} {xs : List UInt8}, l.dropWhile p = x :: xs → p x = false
 | [], x, xs, h => by simp at h
 | b :: l, x, xs, h => by
  rw [List.dropWhile_cons] at h
  by_cases hb : p b = true
  ·rw [if_pos hb] at h; exact dropW_head p l h
  ·rw [if_neg hb] at h
   injection h with h1 _
   rw [← h1]
   exact Bool.eq_false_iff.2 hb
theorem trim_nil (s : List UInt8) : (trimS s digS = []) ↔ s.all isDig = true := by
 have hp : (fun u => digS.contains u) = isDig := funext digS_is
 unfold trimS trimLeftS trimRightS
 rw [hp, dropW_nil, List.all_reverse]
 constructor
 ·intro h
  cases hx : s.reverse.dropWhile isDig with
  | nil => rw [dropW_nil, List.all_reverse] at hx; exact hx
  | cons x xs =>
   rw [hx, List.all_cons, dropW_head isDig _ hx] at h
   cases h
 ·intro h
  have : s.reverse.dropWhile isDig = [] := (dropW_nil isDig _).2 (by rw [List.all_reverse]; exact h)
  rw [this]
  rfl
theorem dec_val : ∀ (s : List UInt8) (acc : Nat), s.all isDig = true → decFrom acc s = some (s.foldl (fun n u => 10 * n + (u.toNat - 48)) acc)
 | [], acc, _ => rfl
 | b :: l, acc, h => by
  rw [List.all_cons, Bool.and_eq_true] at h
  have hb := h.1
  unfold isDig at hb
  rw [Bool.and_eq_true, decide_eq_true_eq, decide_eq_true_eq] at hb
  rw [decFrom, digitVal, if_pos hb]
  show decFrom (acc * 10 + (b.toNat - 48)) l = _
  rw [dec_val l _ h.2, List.foldl_cons, Nat.mul_comm acc 10]
theorem atoi_val {s : List UInt8} (h : s.all isDig = true) (hne : s ≠ []) : atoi s = some ((valOf s : Nat) : Int) := by
 cases s with
 | nil => exact absurd rfl hne
 | cons b l =>
  have hb : isDig b = true := by rw [List.all_cons, Bool.and_eq_true] at h; exact h.1
  have h45 : (b == 45) = false := by rw [beq_eq_false_iff_ne]; intro e; rw [e] at hb; exact absurd hb (by decide)
  have h43 : (b == 43) = false := by rw [beq_eq_false_iff_ne]; intro e; rw [e] at hb; exact absurd hb (by decide)
  show (if (b == 45) = true then _ else if (b == 43) = true then _ else (decNat (b :: l)).map fun (m : Nat) => (m : Int)) = _
  rw [h45, h43, if_neg (by simp), if_neg (by simp)]
  unfold decNat
  rw [if_neg (by simp), dec_val (b :: l) 0 h]
  rfl
theorem suffix_last (t : List UInt8) : hasSuffix t [10] = (t.getLast? == some 10) := by
  unfold hasSuffix
  cases h : t.reverse with
  | nil => have : t = [] := by simpa using h
           subst this; rfl
  | cons x xs =>
    have : t = xs.reverse ++ [x] := by rw [← List.reverse_reverse t, h]; simp
    subst this
    rw [List.getLast?_concat]
    by_cases hx : x = 10
    · subst hx
      simp [List.isSuffixOf]
    · have e1 : ((some x : Option UInt8) == some 10) = false := by simp [hx]
      rw [e1]
      simp [List.isSuffixOf, List.isPrefixOf]
      exact fun e => hx e.symm
end Go.Proofs.YtibfgbmhmdggmaaGreatDoor.B
