/- The document's answers about logs, as plain functions of a list of records: no Go in sight. Logs as slices of records in memory, and the contracts of the reference's last and count. The contracts of the reference's state and pages. The contract of the reference's stands: the numbers of the Writes of a Txn that were not taken back. Right logs, record by record: what holds of each, by induction from the front. No Go in sight. The contract of the reference's taken: has another Txn a Write of that cell that stands? -/
import Derived.Test.YtibfgbmhmdggmaaGreatDoorRecB
namespace Go.Proofs.YtibfgbmhmdggmaaGreatDoor.B
set_option maxHeartbeats 32000000
set_option maxRecDepth 100000
def foldI {α : Type} (f : α → Nat → Rc → α) : α → Nat → List Rc → α
 | a, _, [] => a
 | a, i, r :: l => foldI f (f a i r) (i + 1) l
theorem foldI_append {α : Type} (f : α → Nat → Rc → α) (l m : List Rc) : ∀ (a : α) (i : Nat), foldI f a i (l ++ m) = foldI f (foldI f a i l) (i + l.length) m := by
 induction l with
 | nil => intro a i; simp [foldI]
 | cons x l ih => intro a i; simp only [List.cons_append, foldI, ih, List.length_cons]; rw [show i + (l.length + 1) = i + 1 + l.length from by omega]
theorem foldI_snoc {α : Type} (f : α → Nat → Rc → α) (a : α) (l : List Rc) (r : Rc) : foldI f a 0 (l ++ [r]) = f (foldI f a 0 l) l.length r := by
 rw [foldI_append]; simp [foldI]
theorem take_snoc (l : List Rc) (k : Nat) (h : k < l.length) : l.take (k + 1) = l.take k ++ [l[k]] := List.take_succ_eq_append_getElem h
theorem foldI_take {α : Type} (f : α → Nat → Rc → α) (a : α) (l : List Rc) (k : Nat) (h : k < l.length) : foldI f a 0 (l.take (k + 1)) = f (foldI f a 0 (l.take k)) k l[k] := by
 rw [take_snoc l k h, foldI_snoc, List.length_take_of_le (by omega)]
def lastR (l : List Rc) (t : Int) : Nat := foldI (fun n i r => if r.txn == t then i + 1 else n) 0 0 l
def countR (l : List Rc) (t k : Int) : Nat := foldI (fun n _ r => if r.txn == t && r.kind == k then n + 1 else n) 0 0 l
def stateR (l : List Rc) (t : Int) : Int := if lastR l t = 0 then 0 else if countR l t 4 > 0 then 4 else if countR l t 2 > 0 then 2 else if countR l t 3 > 0 then 3 else 1
def writesR (l : List Rc) (t : Int) : List Nat := foldI (fun ns i r => if r.txn == t && r.kind == 1 then ns ++ [i + 1] else ns) [] 0 l
def standsR (l : List Rc) (t : Int) : List Nat := (writesR l t).take ((writesR l t).length - countR l t 3)
def pagesR (l : List Rc) : List Int := foldI (fun ps i r => if turns r then (ps.set (r.page.toNat * 4 + r.cell.toNat) r.new).set (r.page.toNat * 4 + 3) (i + 1) else ps) (List.replicate 12 0) 0 l
theorem lastR_snoc (l : List Rc) (r : Rc) (t : Int) : lastR (l ++ [r]) t = if r.txn == t then l.length + 1 else lastR l t := foldI_snoc _ _ _ _
theorem countR_snoc (l : List Rc) (r : Rc) (t k : Int) : countR (l ++ [r]) t k = if r.txn == t && r.kind == k then countR l t k + 1 else countR l t k := foldI_snoc _ _ _ _
theorem writesR_snoc (l : List Rc) (r : Rc) (t : Int) : writesR (l ++ [r]) t = if r.txn == t && r.kind == 1 then writesR l t ++ [l.length + 1] else writesR l t := foldI_snoc _ _ _ _
theorem pagesR_snoc (l : List Rc) (r : Rc) : pagesR (l ++ [r]) = if turns r then ((pagesR l).set (r.page.toNat * 4 + r.cell.toNat) r.new).set (r.page.toNat * 4 + 3) (l.length + 1) else pagesR l := foldI_snoc _ _ _ _
theorem lastR_take (l : List Rc) (t : Int) (k : Nat) (h : k < l.length) : lastR (l.take (k + 1)) t = if l[k].txn == t then k + 1 else lastR (l.take k) t := foldI_take _ _ _ _ h
theorem countR_take (l : List Rc) (t c : Int) (k : Nat) (h : k < l.length) : countR (l.take (k + 1)) t c = if l[k].txn == t && l[k].kind == c then countR (l.take k) t c + 1 else countR (l.take k) t c := foldI_take _ _ _ _ h
theorem writesR_take (l : List Rc) (t : Int) (k : Nat) (h : k < l.length) : writesR (l.take (k + 1)) t = if l[k].txn == t && l[k].kind == 1 then writesR (l.take k) t ++ [k + 1] else writesR (l.take k) t := foldI_take _ _ _ _ h
theorem pagesR_take (l : List Rc) (k : Nat) (h : k < l.length) : pagesR (l.take (k + 1)) = if turns l[k] then ((pagesR (l.take k)).set (l[k].page.toNat * 4 + l[k].cell.toNat) l[k].new).set (l[k].page.toNat * 4 + 3) (k + 1) else pagesR (l.take k) := foldI_take _ _ _ _ h
theorem list_snoc {α : Type} (P : List α → Prop) (h0 : P []) (h1 : ∀ l r, P l → P (l ++ [r])) : ∀ l, P l := by
 intro l
 have : ∀ n, ∀ l : List α, l.length = n → P l := by
  intro n
  induction n with
  | zero => intro l h; rw [List.length_eq_zero_iff.1 h]; exact h0
  | succ n ih =>
   intro l h
   have hne : l ≠ [] := by intro e; rw [e] at h; simp at h
   rw [← List.dropLast_concat_getLast hne]
   exact h1 _ _ (ih _ (by simp; omega))
 exact this _ l rfl
theorem lastR_le (t : Int) : ∀ l : List Rc, lastR l t ≤ l.length := list_snoc _ (Nat.le_refl _) fun l r ih => by
 rw [lastR_snoc]; simp only [List.length_append, List.length_singleton]; split <;> omega
theorem countR_le (t c : Int) : ∀ l : List Rc, countR l t c ≤ l.length := list_snoc _ (Nat.le_refl _) fun l r ih => by
 rw [countR_snoc]; simp only [List.length_append, List.length_singleton]; split <;> omega
theorem writesR_le (t : Int) : ∀ l : List Rc, (writesR l t).length ≤ l.length := list_snoc _ (Nat.le_refl _) fun l r ih => by
 rw [writesR_snoc]; simp only [List.length_append, List.length_singleton]; split
 ·simp only [List.length_append, List.length_singleton]; omega
 ·omega
theorem pagesR_len : ∀ l : List Rc, (pagesR l).length = 12 := list_snoc _ rfl fun l r ih => by
 rw [pagesR_snoc]; split
 ·simpa using ih
 ·exact ih
theorem writesR_mem (t : Int) : ∀ l : List Rc, ∀ n ∈ writesR l t, 1 ≤ n ∧ n ≤ l.length := list_snoc _ (by intro n h; simp [writesR, foldI] at h) fun l r ih n hn => by
 rw [writesR_snoc] at hn
 simp only [List.length_append, List.length_singleton]
 split at hn
 ·rw [List.mem_append] at hn
  rcases hn with hn | hn
  ·have := ih n hn; omega
  ·simp at hn; omega
 ·have := ih n hn; omega
def takenAt (l : List Rc) (t u p c : Int) : Bool := u != t && (stateR l u != 4 && (standsR l u).any fun n => match l[n - 1]? with | some r => r.page == p && r.cell == c | none => false)
def takenR (l : List Rc) (t p c : Int) : Bool := (List.range 9).any fun u => takenAt l t (u + 1 : Nat) p c
def followsR (l : List Rc) (r : Rc) : Bool :=
 if r.prev != (lastR l r.txn : Nat) || (stateR l r.txn == 4 || ((stateR l r.txn == 2 && r.kind != 4) || (stateR l r.txn == 3 && (r.kind != 3 && r.kind != 4)))) then false
 else if r.kind == 1 then r.old == (pagesR l).getD (r.page.toNat * 4 + r.cell.toNat) 0 && !takenR l r.txn r.page r.cell
 else if r.kind == 2 then true
 else if r.kind == 3 then match (standsR l r.txn).getLast? with
  | none => false
  | some n => match l[n - 1]? with
   | none => false
   | some w => r.page == w.page && (r.cell == w.cell && (r.old == w.new && (r.new == w.old && r.next == w.prev)))
 else stateR l r.txn == 2 || (stateR l r.txn == 3 && (standsR l r.txn).isEmpty)
def stepErr (l : List Rc) (r : Rc) : Int := if recErr (l.length + 1 : Nat) r != 0 then recErr (l.length + 1 : Nat) r else if followsR l r then 0 else 1
def errTo (l : List Rc) : Nat → Int
 | 0 => 0
 | k + 1 => if errTo l k != 0 then errTo l k else match l[k]? with
  | none => 0
  | some r => stepErr (l.take k) r
def logErr (l : List Rc) : Int := if 60 < l.length then 2 else errTo l l.length
end Go.Proofs.YtibfgbmhmdggmaaGreatDoor.B
namespace Go.Proofs.YtibfgbmhmdggmaaGreatDoor.B
set_option maxHeartbeats 32000000
set_option maxRecDepth 100000
open Go.ChangeShapes Go.WideShapes Go.ChangeAt Go.RowKit
def RecAt (w : World) (b o : Nat) (r : Rc) : Prop :=
 w.cell? ⟨b, o, none⟩ = some (.int .i64 r.kind) ∧ w.cell? ⟨b, o + 1, none⟩ = some (.int .i64 r.txn) ∧ w.cell? ⟨b, o + 2, none⟩ = some (.int .i64 r.prev) ∧ w.cell? ⟨b, o + 3, none⟩ = some (.int .i64 r.page) ∧
 w.cell? ⟨b, o + 4, none⟩ = some (.int .i64 r.cell) ∧ w.cell? ⟨b, o + 5, none⟩ = some (.int .i64 r.old) ∧ w.cell? ⟨b, o + 6, none⟩ = some (.int .i64 r.new) ∧ w.cell? ⟨b, o + 7, none⟩ = some (.int .i64 r.next)
theorem RecAt.ext {w w' : World} {b o : Nat} {r : Rc} (h : RecAt w b o r) (e : Ext w w') : RecAt w' b o r := by
 obtain ⟨h0, h1, h2, h3, h4, h5, h6, h7⟩ := h
 exact ⟨e.cell h0, e.cell h1, e.cell h2, e.cell h3, e.cell h4, e.cell h5, e.cell h6, e.cell h7⟩
def Recs (w : World) (a : Option Addr) (len : Nat) (l : List Rc) : Prop :=
 l.length = len ∧ ((a = none ∧ len = 0) ∨ ∃ b off, a = some ⟨b, off, none⟩ ∧ ∀ i, (h : i < l.length) → RecAt w b (off + i * 8) l[i])
theorem Recs.ext {w w' : World} {a : Option Addr} {len : Nat} {l : List Rc} (h : Recs w a len l) (e : Ext w w') : Recs w' a len l := by
 obtain ⟨hl, h⟩ := h
 refine ⟨hl, ?_⟩
 rcases h with h | ⟨b, off, ha, hc⟩
 ·exact Or.inl h
 ·exact Or.inr ⟨b, off, ha, fun i hi => (hc i hi).ext e⟩
theorem Recs.at {w : World} {a : Option Addr} {len : Nat} {l : List Rc} (h : Recs w a len l) {k : Nat} (hk : k < len) : ∃ b off, a = some ⟨b, off, none⟩ ∧ ∃ hl : k < l.length, RecAt w b (off + k * 8) l[k] := by
 obtain ⟨hl, h⟩ := h
 rcases h with ⟨_, h⟩ | ⟨b, off, ha, hc⟩
 ·omega
 ·exact ⟨b, off, ha, by omega, hc k (by omega)⟩
theorem Recs.len {w : World} {a : Option Addr} {len : Nat} {l : List Rc} (h : Recs w a len l) : l.length = len := h.1
theorem last_any (a : Option Addr) (len cap : Nat) (l : List Rc) (t : Int) (w : World) (h : Recs w a len l) (hl : len ≤ 1000) :
  Calls Tryz.prog 54 #[.slice a len cap, .int .i64 t] w fun e w' => e = .returned (.int .i64 (lastR l t : Nat)) ∧ w' = w := by
 go_enter Tryz.func54, Tryz.ntmps54
 go_wp2_with fail
 go_loop [5, 6] (fun n i => ∃ k : Nat, k ≤ len ∧ i = .int .i64 k ∧ n = .int .i64 (lastR (l.take k) t : Nat)) (fun _ i => len - (intOf i).toNat)
 case atStart => exact ⟨0, Nat.zero_le _, rfl, rfl⟩
 case round =>
  obtain ⟨k, hk, rfl, rfl⟩ := hrel
  by_cases hlt : k < len
  ·obtain ⟨b, off, rfl, hkl, h0, h1, h2, h3, h4, h5, h6, h7⟩ := h.at hlt
   have HS := (show Hid _ from lastR_take l t k hkl)
   generalize l[k] = r at *
   generalize lastR (l.take k) t = m at *
   cases hb : (r.txn == t)
   ·have HB := (show Hid _ from hb)
    go_wp2_with fail
    go_round
    case rel => exact ⟨k + 1, by omega, by go_num, by rw [HS.out, HB.out]; rfl⟩
    case measure => simp [intOf]; omega
   ·have HB := (show Hid _ from hb)
    go_wp2_with fail
    go_round
    case rel => exact ⟨k + 1, by omega, by go_num, by rw [HS.out, HB.out]; go_num⟩
    case measure => simp [intOf]; omega
  ·have HF : Hid (l.take k = l) := List.take_of_length_le (by rw [h.len]; omega)
   go_wp2_with fail
   go_ret
   refine ⟨?_, rfl⟩
   rw [HF.out]
   rfl
theorem count_any (a : Option Addr) (len cap : Nat) (l : List Rc) (t c : Int) (w : World) (h : Recs w a len l) (hl : len ≤ 1000) :
  Calls Tryz.prog 45 #[.slice a len cap, .int .i64 t, .int .i64 c] w fun e w' => e = .returned (.int .i64 (countR l t c : Nat)) ∧ w' = w := by
 go_enter Tryz.func45, Tryz.ntmps45
 go_wp2_with fail
 go_loop [7, 8] (fun n i => ∃ k : Nat, k ≤ len ∧ i = .int .i64 k ∧ n = .int .i64 (countR (l.take k) t c : Nat)) (fun _ i => len - (intOf i).toNat)
 case atStart => exact ⟨0, Nat.zero_le _, rfl, rfl⟩
 case round =>
  obtain ⟨k, hk, rfl, rfl⟩ := hrel
  by_cases hlt : k < len
  ·obtain ⟨b, off, rfl, hkl, h0, h1, h2, h3, h4, h5, h6, h7⟩ := h.at hlt
   have HS := (show Hid _ from countR_take l t c k hkl)
   have hm : countR (l.take k) t c ≤ 1000 := Nat.le_trans (countR_le t c (l.take k)) (by rw [List.length_take]; omega)
   generalize l[k] = r at *
   generalize countR (l.take k) t c = m at *
   cases hb : (r.txn == t)
   ·have HB := (show Hid _ from hb)
    go_wp2_with fail
    go_round
    case rel => exact ⟨k + 1, by omega, by go_num, by rw [HS.out, HB.out]; rfl⟩
    case measure => simp [intOf]; omega
   ·have HB := (show Hid _ from hb)
    cases hc : (r.kind == c)
    ·have HC := (show Hid _ from hc)
     go_wp2_with fail
     go_round
     case rel => exact ⟨k + 1, by omega, by go_num, by rw [HS.out, HB.out, HC.out]; rfl⟩
     case measure => simp [intOf]; omega
    ·have HC := (show Hid _ from hc)
     go_wp2_with fail
     go_round
     case rel => exact ⟨k + 1, by omega, by go_num, by rw [HS.out, HB.out, HC.out]; go_num⟩
     case measure => simp [intOf]; omega
  ·have HF : Hid (l.take k = l) := List.take_of_length_le (by rw [h.len]; omega)
   go_wp2_with fail
   go_ret
   refine ⟨?_, rfl⟩
   rw [HF.out]
   rfl
theorem stateR_0 {l : List Rc} {t : Int} (h : lastR l t = 0) : stateR l t = 0 := by simp [stateR, h]
theorem stateR_4 {l : List Rc} {t : Int} (h : ¬ lastR l t = 0) (h4 : 0 < countR l t 4) : stateR l t = 4 := by simp [stateR, h, h4]
theorem stateR_2 {l : List Rc} {t : Int} (h : ¬ lastR l t = 0) (h4 : ¬ 0 < countR l t 4) (h2 : 0 < countR l t 2) : stateR l t = 2 := by simp [stateR, h, h4, h2]
theorem stateR_3 {l : List Rc} {t : Int} (h : ¬ lastR l t = 0) (h4 : ¬ 0 < countR l t 4) (h2 : ¬ 0 < countR l t 2) (h3 : 0 < countR l t 3) : stateR l t = 3 := by simp [stateR, h, h4, h2, h3]
theorem stateR_1 {l : List Rc} {t : Int} (h : ¬ lastR l t = 0) (h4 : ¬ 0 < countR l t 4) (h2 : ¬ 0 < countR l t 2) (h3 : ¬ 0 < countR l t 3) : stateR l t = 1 := by simp [stateR, h, h4, h2, h3]
theorem state_any (a : Option Addr) (len cap : Nat) (l : List Rc) (t : Int) (w : World) (h : Recs w a len l) (hl : len ≤ 1000) :
  Calls Tryz.prog 48 #[.slice a len cap, .int .i64 t] w fun e w' => e = .returned (.int .i64 (stateR l t)) ∧ w' = w := by
 go_enter Tryz.func48, Tryz.ntmps48
 go_wp2_with fail
 refine (last_any a len cap l t _ h hl).mono ?_
 rintro e w' ⟨rfl, rfl⟩
 by_cases k0 : lastR l t = 0
 ·have HR := (show Hid _ from stateR_0 k0)
  have hb : (((lastR l t : Nat) : Int) == 0) = true := by simp [k0]
  clear k0
  go_wp2_with fail
  go_ret
  exact ⟨by rw [HR.out]; rfl, rfl⟩
 ·have hb : (((lastR l t : Nat) : Int) == 0) = false := by simp [k0]
  have K0 := (show Hid _ from k0)
  clear k0
  go_wp2_with fail
  refine (count_any a len cap l t 4 _ h hl).mono ?_
  rintro e w' ⟨rfl, rfl⟩
  clear hb
  by_cases k4 : 0 < countR l t 4
  ·have HR := (show Hid _ from stateR_4 K0.out k4)
   go_wp2_with fail
   go_ret
   exact ⟨by rw [HR.out]; rfl, rfl⟩
  ·have K4 := (show Hid _ from k4)
   go_wp2_with fail
   refine (count_any a len cap l t 2 _ h hl).mono ?_
   rintro e w' ⟨rfl, rfl⟩
   clear k4
   by_cases k2 : 0 < countR l t 2
   ·have HR := (show Hid _ from stateR_2 K0.out K4.out k2)
    go_wp2_with fail
    go_ret
    exact ⟨by rw [HR.out]; rfl, rfl⟩
   ·have K2 := (show Hid _ from k2)
    go_wp2_with fail
    refine (count_any a len cap l t 3 _ h hl).mono ?_
    rintro e w' ⟨rfl, rfl⟩
    clear k2
    by_cases k3 : 0 < countR l t 3
    ·have HR := (show Hid _ from stateR_3 K0.out K4.out K2.out k3)
     go_wp2_with fail
     go_ret
     exact ⟨by rw [HR.out]; rfl, rfl⟩
    ·have HR := (show Hid _ from stateR_1 K0.out K4.out K2.out k3)
     go_wp2_with fail
     go_ret
     exact ⟨by rw [HR.out]; rfl, rfl⟩
def ints (ps : List Int) : Array Value := (ps.map fun n => Value.int .i64 n).toArray
theorem ints_get (ps : List Int) (o : Nat) : (ints ps)[o]? = (ps[o]?).map fun n => Value.int .i64 n := by simp [ints]
theorem ints_set (ps : List Int) (o : Nat) (n : Int) : (ints ps).setIfInBounds o (.int .i64 n) = ints (ps.set o n) := by
 simp [ints]
theorem len12 {ps : List Int} (h : ps.length = 12) : ∃ x0 x1 x2 x3 x4 x5 x6 x7 x8 x9 x10 x11, ps = [x0, x1, x2, x3, x4, x5, x6, x7, x8, x9, x10, x11] := by
 match ps, h with
 | [x0, x1, x2, x3, x4, x5, x6, x7, x8, x9, x10, x11], _ => exact ⟨x0, x1, x2, x3, x4, x5, x6, x7, x8, x9, x10, x11, rfl⟩
def Fits (l : List Rc) : Prop := ∀ r ∈ l, turns r = true → 0 ≤ r.page ∧ r.page ≤ 2 ∧ 0 ≤ r.cell ∧ r.cell ≤ 2
theorem pages_any (a : Option Addr) (len cap : Nat) (l : List Rc) (w : World) (h : Recs w a len l) (hl : len ≤ 1000) (hf : Fits l) :
  Calls Tryz.prog 25 #[.slice a len cap] w fun e w' => e = .returned (.agg (ints (pagesR l))) ∧ Ext w w' := by
 go_enter Tryz.func25, Tryz.ntmps25
 go_wp2_with fail
 go_loopw [4] (fun i wr => ∃ k : Nat, k ≤ len ∧ i = .int .i64 k ∧ Ext w wr ∧ Blk wr w.heap.size (ints (List.replicate 12 0)) 35 ∧ Blk wr (w.heap.size + 1) (ints (pagesR (l.take k))) 35) (fun i _ => len - (intOf i).toNat)
 case atStart => exact ⟨0, Nat.zero_le _, rfl, ((Ext.refl w).alloc _).alloc _, (Blk.new _ _ _ _ rfl).alloc _, Blk.new _ _ _ _ (by simp)⟩
 case round =>
  obtain ⟨k, hk, rfl, hE, B0, B1⟩ := hrel
  by_cases hlt : k < len
  ·obtain ⟨b, off, rfl, hkl, hrec⟩ := (h.ext hE).at hlt
   have HS := (show Hid _ from pagesR_take l k hkl)
   have hfit := hf l[k] (List.getElem_mem hkl)
   have hrecw : RecAt w b (off + k * 8) l[k] := by
    obtain ⟨b', off', e, _, hr⟩ := h.at hlt
    simp only [Option.some.injEq, Addr.mk.injEq, and_true] at e
    obtain ⟨rfl, rfl⟩ := e
    exact hr
   obtain ⟨h0, h1, h2, h3, h4, h5, h6, h7⟩ := hrec
   have hplen := pagesR_len (l.take k)
   generalize l[k] = r at *
   generalize pagesR (l.take k) = ps at *
   go_wp2_with fail
   refine (refTurns_any r _).mono ?_
   rintro e w1 ⟨rfl, hw1⟩
   have hE1 := hE.trans hw1
   have C0 := B0.ext hw1
   have C1 := B1.ext hw1
   clear h0 h1 h2 h3 h4 h5 h6 h7 hw1 B0 B1 hE
   cases ht : turns r
   ·have HT := (show Hid _ from ht)
    clear ht
    go_wp2_with fail
    go_roundw
    case rel => exact ⟨k + 1, by omega, by go_num, hE1, C0, by rw [HS.out, HT.out]; exact C1⟩
    case measure => simp [intOf]; omega
   ·obtain ⟨p0, p2, q0, q2⟩ := hfit ht
    have HT := (show Hid _ from ht)
    clear ht hfit
    obtain ⟨h0, h1, h2, h3, h4, h5, h6, h7⟩ := hrecw.ext hE1
    have p3 : r.page < 3 := by omega
    have q3 : r.cell < 3 := by omega
    have f1 := C1.fr
    obtain ⟨x, hx⟩ : ∃ x, w1.cell? ⟨w.heap.size + 1, r.page.toNat * 4 + r.cell.toNat, none⟩ = some (.int .i64 x) := by
     have hlt : r.page.toNat * 4 + r.cell.toNat < ps.length := by omega
     exact ⟨ps[r.page.toNat * 4 + r.cell.toNat], by rw [C1.cell, ints_get, List.getElem?_eq_getElem hlt]; rfl⟩
    go_wp2_with fail
    go_region
    have D0 := (C0.other ⟨w.heap.size + 1, r.page.toNat * 4 + r.cell.toNat, none⟩ (.int .i64 r.new) (by simp)).drew
    have D1 := (C1.set (r.page.toNat * 4 + r.cell.toNat) (.int .i64 r.new)).drew
    rw [ints_set] at D1
    have hE2 := (hE1.setCell (p := ⟨w.heap.size + 1, r.page.toNat * 4 + r.cell.toNat, none⟩) (by simp) (.int .i64 r.new)).drew
    generalize (w1.setCell ⟨w.heap.size + 1, r.page.toNat * 4 + r.cell.toNat, none⟩ (.int .i64 r.new)).drew = W2 at *
    clear C0 C1 hE1 h0 h1 h2 h3 h4 h5 h6 h7 f1 hx x
    obtain ⟨h0, h1, h2, h3, h4, h5, h6, h7⟩ := hrecw.ext hE2
    have f1 := D1.fr
    obtain ⟨x, hx⟩ : ∃ x, W2.cell? ⟨w.heap.size + 1, r.page.toNat * 4 + 3, none⟩ = some (.int .i64 x) := by
     have hlt : r.page.toNat * 4 + 3 < (ps.set (r.page.toNat * 4 + r.cell.toNat) r.new).length := by rw [List.length_set]; omega
     exact ⟨_, by rw [D1.cell, ints_get, List.getElem?_eq_getElem hlt]; rfl⟩
    go_wp2_with fail
    go_roundw
    case rel =>
     refine ⟨k + 1, by omega, by go_num, hE2.setCell (by simp) _, D0.other _ _ (by simp), ?_⟩
     have D2 := D1.set (r.page.toNat * 4 + 3) (.int .i64 ((k : Int) + 1))
     rw [ints_set] at D2
     rw [HS.out, HT.out]
     exact D2
    case measure => simp [intOf]; omega
  ·have HF : Hid (l.take k = l) := List.take_of_length_le (by rw [h.len]; omega)
   rw [HF.out] at B1
   obtain ⟨x0, x1, x2, x3, x4, x5, x6, x7, x8, x9, x10, x11, hps⟩ := len12 (pagesR_len l)
   have HPS := (show Hid _ from hps)
   have D1 : Blk wr (w.heap.size + 1) #[.int .i64 x0, .int .i64 x1, .int .i64 x2, .int .i64 x3, .int .i64 x4, .int .i64 x5, .int .i64 x6, .int .i64 x7, .int .i64 x8, .int .i64 x9, .int .i64 x10, .int .i64 x11] 35 := by rw [hps] at B1; exact B1
   have D0 : Blk wr w.heap.size #[.int .i64 0, .int .i64 0, .int .i64 0, .int .i64 0, .int .i64 0, .int .i64 0, .int .i64 0, .int .i64 0, .int .i64 0, .int .i64 0, .int .i64 0, .int .i64 0] 35 := B0
   clear hps B0 B1
   have c1 := D1.cell
   have c0 := D0.cell
   have f0 := D0.fr
   go_wp2_with fail
   refine bodyPost_ret (v := .agg #[.int .i64 x0, .int .i64 x1, .int .i64 x2, .int .i64 x3, .int .i64 x4, .int .i64 x5, .int .i64 x6, .int .i64 x7, .int .i64 x8, .int .i64 x9, .int .i64 x10, .int .i64 x11]) (by simp [results, Tryz.results25, go_sem, c0]) rfl ⟨by rw [HPS.out]; rfl, ?_⟩
   exact ((((((((((((hE.setCell (Nat.le_refl _) _).setCell (Nat.le_refl _) _).setCell (Nat.le_refl _) _).setCell (Nat.le_refl _) _).setCell (Nat.le_refl _) _).setCell (Nat.le_refl _) _).setCell (Nat.le_refl _) _).setCell (Nat.le_refl _) _).setCell (Nat.le_refl _) _).setCell (Nat.le_refl _) _).setCell (Nat.le_refl _) _).setCell (Nat.le_refl _) _)
theorem infoInt : (Tryz.prog.info? 3).map (fun i => (i.zero, i.size, i.bytes)) = some (some (.int .i64 0), 1, 8) := by kernel_rfl
theorem cells_new (w : World) (c : List Value) (t : TypeId) (k : Nat) (hk : k = w.heap.size) : ∀ (j : Nat) (u : Value), c[j]? = some u → (w.alloc (.cells c.toArray t)).cell? ((⟨k, 0, none⟩ : Addr).add j) = some u := by
 intro j u h
 subst hk
 have e : ((⟨w.heap.size, 0, none⟩ : Addr).add j) = ⟨w.heap.size, j, none⟩ := by
  unfold Addr.add; split
  ·rename_i h0; rw [h0]
  ·simp
 rw [e, World.cell?_alloc_new]
 simpa using h
def nums (ns : List Nat) : List Value := ns.map fun (n : Nat) => Value.int .i64 (n : Int)
theorem own_ge {w : World} {base : Nat} {e : TypeId} {size : Nat} {v : Value} {n : Nat} {xs : List Value} (h : w.ownsRow base e size v n xs) : ∀ k, v.ownBlock = some k → base ≤ k := by
 intro k hk
 rcases h.2 with ⟨rfl, _⟩ | ⟨g, cap, cur, rfl, hg, _⟩
 ·simp [Value.ownBlock] at hk
 ·simp [Value.ownBlock] at hk; omega
theorem Ext.grown {a w w' : World} {e : TypeId} {size : Nat} {v : Value} {n : Nat} {xs : List Value} (h : Ext a w) (ho : w.ownsRow a.heap.size e size v n xs) (hg : w.grownBy w' v.ownBlock) : Ext a w' :=
 Below.grown h hg h.size (own_ge ho)
theorem nums_snoc (ns : List Nat) (k : Nat) : nums (ns ++ [k]) = nums ns ++ [.int .i64 (k : Int)] := by simp [nums]
def Nums (w : World) (a : Option Addr) (ns : List Nat) : Prop :=
 ns = [] ∨ ∃ b, a = some ⟨b, 0, none⟩ ∧ ∀ i, (h : i < ns.length) → w.cell? ⟨b, i, none⟩ = some (.int .i64 (ns[i] : Int))
theorem Nums.ext {w w' : World} {a : Option Addr} {ns : List Nat} (h : Nums w a ns) (e : Ext w w') : Nums w' a ns := by
 rcases h with h | ⟨b, ha, hc⟩
 ·exact Or.inl h
 ·exact Or.inr ⟨b, ha, fun i hi => e.cell (hc i hi)⟩
theorem Nums.of_own {w : World} {g : Nat} {cur : Array Value} {ns : List Nat} (hg : w.heap[g]? = some (.cells cur 3 (0, 0))) (hc : cur.toList.take ns.length = nums ns) (k : Nat) : Nums w (some ⟨g, 0, none⟩) (ns.take k) := by
 refine Or.inr ⟨g, rfl, fun i hi => ?_⟩
 have hi' : i < ns.length := by rw [List.length_take] at hi; omega
 have e : cur[i]? = some (.int .i64 (ns[i] : Int)) := by
  have e1 : (cur.toList.take ns.length)[i]? = some (.int .i64 (ns[i] : Int)) := by rw [hc]; simp [nums, hi']
  rw [List.getElem?_take_of_lt hi'] at e1
  simpa using e1
 simp [World.cell?, hg, e]
theorem stands_any (a : Option Addr) (len cap : Nat) (l : List Rc) (t : Int) (w : World) (h : Recs w a len l) (hl : len ≤ 1000) (hle : countR l t 3 ≤ (writesR l t).length) :
  Calls Tryz.prog 89 #[.slice a len cap, .int .i64 t] w fun e w' => (∃ a' cap', e = .returned (.slice a' (standsR l t).length cap') ∧ Nums w' a' (standsR l t)) ∧ Ext w w' := by
 obtain ⟨i0, hi, hz0, hz1, hz2⟩ := info_parts infoInt
 have HI := (show Hid _ from hi)
 have Z0 := (show Hid _ from hz0)
 have Z1 := (show Hid _ from hz1)
 have Z2 := (show Hid _ from hz2)
 clear hi hz0 hz1 hz2
 go_enter Tryz.func89, Tryz.ntmps89
 go_wp2_with fail
 go_loopw [5, 6] (fun o i wr => ∃ k : Nat, k ≤ len ∧ i = .int .i64 k ∧ Ext w wr ∧ wr.ownsRow w.heap.size 3 1 o (writesR (l.take k) t).length (nums (writesR (l.take k) t))) (fun _ i _ => len - (intOf i).toNat)
 case atStart => exact ⟨0, Nat.zero_le _, rfl, Ext.refl _, rfl, Or.inl ⟨rfl, rfl⟩⟩
 case round =>
  obtain ⟨k, hk, rfl, hE, hown⟩ := hrel
  by_cases hlt : k < len
  ·obtain ⟨b, off, rfl, hkl, h0, h1, h2, h3, h4, h5, h6, h7⟩ := (h.ext hE).at hlt
   have HS := (show Hid _ from writesR_take l t k hkl)
   have hm : (writesR (l.take k) t).length ≤ 1000 := Nat.le_trans (writesR_le t (l.take k)) (by rw [List.length_take]; omega)
   generalize l[k] = r at *
   generalize writesR (l.take k) t = ns at *
   cases hb : (r.txn == t)
   ·have HB := (show Hid _ from hb)
    go_wp2_with fail
    go_roundw
    case rel => exact ⟨k + 1, by omega, by go_num, hE, by rw [HS.out, HB.out]; exact hown⟩
    case measure => simp [intOf]; omega
   ·have HB := (show Hid _ from hb)
    cases hc : (r.kind == 1)
    ·have HC := (show Hid _ from hc)
     go_wp2_with fail
     go_roundw
     case rel => exact ⟨k + 1, by omega, by go_num, hE, by rw [HS.out, HB.out, HC.out]; exact hown⟩
     case measure => simp [intOf]; omega
    ·have HC := (show Hid _ from hc)
     go_wp2_with (at_builtin; refine wpList_append_own _ rfl _ _ 61 rfl w.heap.size 3 i0 (.int .i64 0) 1 8 Tryz.underlying61 HI.out Z0.out Z1.out Z2.out rfl (by decide) u5 ns.length (nums ns) rfl (hown.alloc _) ⟨wr.heap.size, 0, none⟩ 1 1 [.int .i64 ((k : Int) + 1)] rfl rfl (cells_new _ [.int .i64 ((k : Int) + 1)] _ _ rfl) (fun x hx => by simp at hx; subst hx; rfl) (by unfold maxLen; omega) (by omega) (by have := hE.size; simp; omega) ?_; intro v' w3 hown' hgrow3 hnil3)
     have hE3 : Ext w w3 := (hE.alloc _).grown (hown.alloc _) hgrow3
     refine ⟨⟨k + 1, by omega, by go_num, hE3, ?_⟩, by simp [intOf]; omega⟩
     rw [HS.out, HB.out, HC.out]
     simp only [Bool.and_self, if_true, List.length_append, List.length_singleton, nums_snoc]
     exact hown'
  ·have HF : Hid (l.take k = l) := List.take_of_length_le (by rw [h.len]; omega)
   rw [HF.out] at hown
   have hm : (writesR l t).length ≤ 1000 := Nat.le_trans (writesR_le t l) (by rw [h.len]; omega)
   have HSt : Hid (standsR l t = (writesR l t).take ((writesR l t).length - countR l t 3)) := rfl
   have HW : Hid (writesR l t = writesR l t) := rfl
   generalize hns : writesR l t = ns at *
   generalize hcs : countR l t 3 = c at *
   have HC := (show Hid _ from hcs)
   clear hns hcs HW
   rcases hown with ⟨hlen, ⟨rfl, hn⟩ | ⟨g, cap', cur, rfl, hg, hblk, hn, hcap, hsz, htk⟩⟩
   ·have hns : ns = [] := List.length_eq_zero_iff.1 hn
    subst hns
    have hc0 : c = 0 := by simpa using hle
    subst hc0
    go_wp2_with fail
    refine (count_any a len cap l t 3 _ (h.ext hE) hl).mono ?_
    rintro e w' ⟨rfl, rfl⟩
    rw [HC.out]
    go_wp2_with fail
    go_ret
    refine ⟨⟨none, 0, ?_, ?_⟩, hE⟩
    ·rw [HSt.out]; rfl
    ·rw [HSt.out]; exact Or.inl rfl
   ·go_wp2_with fail
    refine (count_any a len cap l t 3 _ (h.ext hE) hl).mono ?_
    rintro e w' ⟨rfl, rfl⟩
    rw [HC.out]
    have hsub : (0 : Int) ≤ (ns.length : Int) - (c : Int) := by omega
    have hsub2 : (ns.length : Int) - (c : Int) ≤ (cap' : Int) := by omega
    go_wp2_with fail
    go_ret
    have hlt2 : (ns.take (ns.length - c)).length = ns.length - c := by rw [List.length_take]; omega
    refine ⟨⟨some ⟨g, 0, none⟩, cap', ?_, ?_⟩, hE⟩
    ·rw [HSt.out, hlt2]; rfl
    ·rw [HSt.out]; exact Nums.of_own hblk (by simpa using htk) _
theorem standsR_mem {l : List Rc} {t : Int} {n : Nat} (h : n ∈ standsR l t) : 1 ≤ n ∧ n ≤ l.length := writesR_mem t l n (List.mem_of_mem_take h)
theorem standsR_le (l : List Rc) (t : Int) : (standsR l t).length ≤ l.length := Nat.le_trans (by unfold standsR; rw [List.length_take]; omega) (writesR_le t l)
def Backs (l : List Rc) : Prop := ∀ t, countR l t 3 ≤ (writesR l t).length
def hitAt (l : List Rc) (p c : Int) (n : Nat) : Bool := match l[n - 1]? with | some r => r.page == p && r.cell == c | none => false
end Go.Proofs.YtibfgbmhmdggmaaGreatDoor.B
namespace Go.Proofs.YtibfgbmhmdggmaaGreatDoor.B
set_option maxHeartbeats 32000000
set_option maxRecDepth 100000
def Right (l : List Rc) : Prop := errTo l l.length = 0
theorem errTo_append (l m : List Rc) : ∀ k, k ≤ l.length → errTo (l ++ m) k = errTo l k := by
 intro k
 induction k with
 | zero => intro _; rfl
 | succ k ih =>
  intro h
  have ih := ih (by omega)
  simp only [errTo, ih]
  rw [List.getElem?_append_left (by omega), List.take_append_of_le_length (by omega)]
theorem errTo_take (l : List Rc) (k : Nat) (h : k ≤ l.length) : errTo l k = errTo (l.take k) (l.take k).length := by
 have e : l.take k ++ l.drop k = l := List.take_append_drop k l
 have hk : (l.take k).length = k := List.length_take_of_le h
 rw [hk, ← errTo_append (l.take k) (l.drop k) k (by omega), e]
theorem right_take {l : List Rc} {k : Nat} (h : k ≤ l.length) : errTo l k = 0 ↔ Right (l.take k) := by
 unfold Right; rw [← errTo_take l k h]
theorem stepErr_zero (l : List Rc) (r : Rc) : stepErr l r = 0 ↔ recErr (l.length + 1 : Nat) r = 0 ∧ followsR l r = true := by
 unfold stepErr
 generalize ((l.length + 1 : Nat) : Int) = n
 by_cases h : recErr n r = 0
 ·rw [h]
  cases followsR l r <;> simp
 ·have hb : (recErr n r != 0) = true := by simpa using h
  rw [hb]
  simp [h]
theorem errTo_succ (l : List Rc) (k : Nat) (h : k < l.length) : errTo l (k + 1) = if errTo l k != 0 then errTo l k else stepErr (l.take k) l[k] := by
 simp only [errTo, List.getElem?_eq_getElem h]
theorem errTo_keep (l : List Rc) (j : Nat) (h : errTo l j ≠ 0) : ∀ i, errTo l (j + i) = errTo l j := by
 intro i
 induction i with
 | zero => rfl
 | succ i ih =>
  have hb : (errTo l (j + i) != 0) = true := by rw [ih]; simpa using h
  show errTo l (j + i + 1) = _
  simp only [errTo, hb, if_true]
  exact ih
theorem right_snoc (l : List Rc) (r : Rc) : Right (l ++ [r]) ↔ Right l ∧ recErr (l.length + 1 : Nat) r = 0 ∧ followsR l r = true := by
 unfold Right
 rw [List.length_append, List.length_singleton, errTo_succ _ _ (by simp), errTo_append l [r] _ (Nat.le_refl _), ← stepErr_zero]
 simp only [List.take_left', List.getElem_concat_length]
 by_cases h : errTo l l.length = 0
 ·rw [h]; simp
 ·have hb : (errTo l l.length != 0) = true := by simpa using h
  rw [hb]; simp [h]
theorem right_nil : Right [] := rfl
theorem right_ind (P : List Rc → Prop) (h0 : P []) (hs : ∀ l r, Right l → P l → recErr (l.length + 1 : Nat) r = 0 → followsR l r = true → P (l ++ [r])) : ∀ l, Right l → P l := by
 refine list_snoc _ (fun _ => h0) ?_
 intro l r ih h
 rw [right_snoc] at h
 exact hs l r h.1 (ih h.1) h.2.1 h.2.2
theorem recErr_zero' (n : Int) (r : Rc) : recErr n r = 0 ↔ (out 1 60 [n] = false ∧ out 1 4 [r.kind] = false ∧ outOf n r = false ∧ tooMuch r = false) := by
 unfold recErr
 cases out 1 60 [n] <;> cases out 1 4 [r.kind] <;> cases outOf n r <;> cases tooMuch r <;> simp
theorem recErr_kind {n : Int} {r : Rc} (h : recErr n r = 0) : r.kind = 1 ∨ r.kind = 2 ∨ r.kind = 3 ∨ r.kind = 4 := by
 have h2 := ((recErr_zero' n r).1 h).2.1
 have := out1_false h2
 omega
theorem recErr_txn {n : Int} {r : Rc} (h : recErr n r = 0) : 1 ≤ r.txn ∧ r.txn ≤ 9 := by
 have h3 := ((recErr_zero' n r).1 h).2.2.1
 unfold outOf at h3
 simp only [Bool.or_eq_false_iff] at h3
 exact out1_false h3.1
theorem recErr_fits {n : Int} {r : Rc} (h : recErr n r = 0) (ht : turns r = true) : 0 ≤ r.page ∧ r.page ≤ 2 ∧ 0 ≤ r.cell ∧ r.cell ≤ 2 := by
 have h3 := ((recErr_zero' n r).1 h).2.2.1
 unfold outOf at h3
 simp only [Bool.or_eq_false_iff] at h3
 have hc := h3.2.2.1
 rw [ht, Bool.true_and] at hc
 unfold cellOut at hc
 simp only [Bool.or_eq_false_iff] at hc
 have a := out1_false hc.1
 have b := out1_false hc.2.1
 omega
theorem recErr_vals {n : Int} {r : Rc} (h : recErr n r = 0) (ht : turns r = true) : 0 ≤ r.old ∧ r.old ≤ 99 ∧ 0 ≤ r.new ∧ r.new ≤ 99 := by
 have h3 := ((recErr_zero' n r).1 h).2.2.1
 unfold outOf at h3
 simp only [Bool.or_eq_false_iff] at h3
 have hc := h3.2.2.1
 rw [ht, Bool.true_and] at hc
 unfold cellOut at hc
 simp only [Bool.or_eq_false_iff] at hc
 have a := hc.2.2
 simp [out] at a
 omega
theorem recErr_num {n : Int} {r : Rc} (h : recErr n r = 0) : 1 ≤ n ∧ n ≤ 60 := out1_false ((recErr_zero' n r).1 h).1
theorem turns_of {r : Rc} : turns r = true ↔ r.kind = 1 ∨ r.kind = 3 := by simp [turns]
theorem right_fits : ∀ l, Right l → Fits l := right_ind _ (fun r hr => by cases hr) fun l r _ ih he _ x hx ht => by
 rcases List.mem_append.1 hx with hx | hx
 ·exact ih x hx ht
 ·simp at hx; subst hx; exact recErr_fits he ht
theorem right_len : ∀ l, Right l → l.length ≤ 60 := right_ind _ (by simp) fun l r _ _ he _ => by
 have := (recErr_num he).2
 simp only [List.length_append, List.length_singleton]; omega
theorem follows_back {l : List Rc} {r : Rc} (hk : r.kind = 3) (h : followsR l r = true) : ∃ n w, (standsR l r.txn).getLast? = some n ∧ l[n - 1]? = some w ∧ r.page = w.page ∧ r.cell = w.cell ∧ r.old = w.new ∧ r.new = w.old ∧ r.next = w.prev := by
 unfold followsR at h
 split at h
 ·cases h
 ·rw [hk] at h
  simp only [show ((3 : Int) == 1) = false from rfl, show ((3 : Int) == 2) = false from rfl, show ((3 : Int) == 3) = true from rfl, Bool.false_eq_true, if_false, if_true] at h
  cases hs : (standsR l r.txn).getLast? with
  | none => rw [hs] at h; cases h
  | some n =>
   rw [hs] at h
   dsimp only at h
   cases hw : l[n - 1]? with
   | none => rw [hw] at h; cases h
   | some w =>
    rw [hw] at h
    simp only [Bool.and_eq_true, beq_iff_eq] at h
    exact ⟨n, w, rfl, hw, h⟩
theorem right_backs : ∀ l, Right l → Backs l := right_ind _ (fun t => Nat.le_refl _) fun l r _ ih he hf t => by
 rw [countR_snoc, writesR_snoc]
 have iht := ih t
 by_cases ht : r.txn = t
 ·subst ht
  rcases recErr_kind he with hk | hk | hk | hk
  ·simp [hk]; omega
  ·simp [hk]; omega
  ·obtain ⟨n, w, hs, _⟩ := follows_back hk hf
   have hne : standsR l r.txn ≠ [] := by intro e; rw [e] at hs; cases hs
   have hlen : 0 < (standsR l r.txn).length := List.length_pos_iff.2 hne
   unfold standsR at hlen
   rw [List.length_take] at hlen
   simp [hk]; omega
  ·simp [hk]; omega
 ·have hb : (r.txn == t) = false := by simpa using ht
  simp [hb]; omega
end Go.Proofs.YtibfgbmhmdggmaaGreatDoor.B
namespace Go.Proofs.YtibfgbmhmdggmaaGreatDoor.B
set_option maxHeartbeats 32000000
set_option maxRecDepth 100000
open Go.ChangeShapes Go.WideShapes Go.ChangeAt Go.RowKit
theorem takenAt_eq (l : List Rc) (t u p c : Int) : takenAt l t u p c = (u != t && (stateR l u != 4 && (standsR l u).any (hitAt l p c))) := rfl
theorem taken_drop (l : List Rc) (t p c : Int) (j : Nat) (h : j < 9) : ((List.range 9).drop j).any (fun u => takenAt l t (u + 1 : Nat) p c) = (takenAt l t ((j : Int) + 1) p c || ((List.range 9).drop (j + 1)).any (fun u => takenAt l t (u + 1 : Nat) p c)) := by
 have h' : j < (List.range 9).length := by simpa using h
 rw [List.drop_eq_getElem_cons h', List.any_cons, List.getElem_range]
 rfl
theorem hit_drop (f : Nat → Bool) (ns : List Nat) (m : Nat) (h : m < ns.length) : (ns.drop m).any f = (f ns[m] || (ns.drop (m + 1)).any f) := by
 rw [List.drop_eq_getElem_cons h, List.any_cons]
theorem taken_any (a : Option Addr) (len cap : Nat) (l : List Rc) (t p c : Int) (w : World) (h : Recs w a len l) (hl : len ≤ 1000) (hb : Backs l) :
  Calls Tryz.prog 49 #[.slice a len cap, .int .i64 t, .int .i64 p, .int .i64 c] w fun e w' => e = .returned (.bool (takenR l t p c)) ∧ Ext w w' := by
 go_enter Tryz.func49, Tryz.ntmps49
 go_wp2_with fail
 go_loopw [9] (fun i wr => ∃ j : Nat, j ≤ 9 ∧ i = .int .i64 ((j : Int) + 1) ∧ Ext w wr ∧ takenR l t p c = ((List.range 9).drop j).any (fun u => takenAt l t (u + 1 : Nat) p c)) (fun i _ => 10 - (intOf i).toNat)
 case atStart => exact ⟨0, Nat.zero_le _, rfl, Ext.refl _, rfl⟩
 case round =>
  obtain ⟨j, hj, rfl, hE, ho⟩ := hrel
  have HO := (show Hid _ from ho)
  clear ho
  by_cases hlt : j < 9
  ·have HD := (show Hid _ from taken_drop l t p c j hlt)
   have HA := (show Hid _ from takenAt_eq l t ((j : Int) + 1) p c)
   generalize hT : ((List.range 9).drop (j + 1)).any (fun u => takenAt l t (u + 1 : Nat) p c) = T at HD
   have HT := (show Hid _ from hT)
   clear hT
   cases hu : (((j : Int) + 1) == t)
   ·have HU : Hid ((((j : Int) + 1) != t) = true) := by rw [Hid, bne, hu]; rfl
    go_wp2_with fail
    refine (state_any a len cap l ((j : Int) + 1) _ (h.ext hE) hl).mono ?_
    rintro e w' ⟨rfl, rfl⟩
    cases hs : (stateR l ((j : Int) + 1) == 4)
    ·have HS : Hid ((stateR l ((j : Int) + 1) != 4) = true) := by rw [Hid, bne, hs]; rfl
     go_wp2_with fail
     refine (stands_any a len cap l ((j : Int) + 1) _ (h.ext hE) hl (hb _)).mono ?_
     rintro e w1 ⟨⟨a', cap', rfl, hn⟩, hw1⟩
     have hE1 := hE.trans hw1
     have hmem : ∀ n ∈ standsR l ((j : Int) + 1), 1 ≤ n ∧ n ≤ l.length := fun n hn => standsR_mem hn
     have hnl : (standsR l ((j : Int) + 1)).length ≤ 1000 := Nat.le_trans (standsR_le _ _) (by rw [h.len]; exact hl)
     have HN : Hid (takenAt l t ((j : Int) + 1) p c = (standsR l ((j : Int) + 1)).any (hitAt l p c)) := by rw [Hid, HA.out, HU.out, HS.out]; rfl
     clear hs hu HU HS HA
     generalize standsR l ((j : Int) + 1) = ns at *
     go_wp2_with fail
     go_loop [29] (fun i => ∃ m : Nat, m ≤ ns.length ∧ i = .int .i64 m ∧ ns.any (hitAt l p c) = (ns.drop m).any (hitAt l p c)) (fun i => ns.length - (intOf i).toNat)
     case atStart => exact ⟨0, Nat.zero_le _, rfl, rfl⟩
     case round =>
      obtain ⟨m, hm, rfl, hi⟩ := hrel
      have HI := (show Hid _ from hi)
      clear hi
      by_cases hmt : m < ns.length
      ·have HH := (show Hid _ from hit_drop (hitAt l p c) ns m hmt)
       rcases hn with hn | ⟨b, rfl, hc⟩
       ·rw [hn] at hmt; simp at hmt
       ·have hcm := hc m hmt
        obtain ⟨n1, n2⟩ := hmem ns[m] (List.getElem_mem hmt)
        clear hc hmem
        generalize ns[m] = n at *
        obtain ⟨q, rfl⟩ : ∃ q, n = q + 1 := ⟨n - 1, by omega⟩
        have hq : q < len := by rw [h.len] at n2; omega
        obtain ⟨b2, off, rfl, hql, h0, h1, h2, h3, h4, h5, h6, h7⟩ := (h.ext hE1).at hq
        have HR : Hid (hitAt l p c (q + 1) = (l[q].page == p && l[q].cell == c)) := by
         rw [Hid, hitAt, Nat.add_sub_cancel, List.getElem?_eq_getElem hql]
        generalize l[q] = r at *
        cases k1 : (r.page == p)
        ·have HR' : Hid (hitAt l p c (q + 1) = false) := by rw [Hid, HR.out, k1]; rfl
         go_wp2_with fail
         exact ⟨⟨m + 1, by omega, by go_num, by rw [HI.out, HH.out, HR'.out]; rfl⟩, by simp [intOf]; omega⟩
        ·cases k2 : (r.cell == c)
         ·have HR' : Hid (hitAt l p c (q + 1) = false) := by rw [Hid, HR.out, k1, k2]; rfl
          go_wp2_with fail
          exact ⟨⟨m + 1, by omega, by go_num, by rw [HI.out, HH.out, HR'.out]; rfl⟩, by simp [intOf]; omega⟩
         ·have HR' : Hid (hitAt l p c (q + 1) = true) := by rw [Hid, HR.out, k1, k2]; rfl
          go_wp2_with fail
          go_ret
          refine ⟨?_, hE1⟩
          rw [HO.out, HD.out, HN.out, HI.out, HH.out, HR'.out]
          rfl
      ·have HF : Hid (ns.any (hitAt l p c) = false) := by
        rw [Hid, HI.out, List.drop_of_length_le (by omega)]; rfl
       go_wp2_with fail
       go_roundw
       case rel => exact ⟨j + 1, by omega, by go_num, hE1, by rw [HO.out, HD.out, HN.out, HF.out, HT.out]; rfl⟩
       case measure => simp [intOf]; omega
    ·have HN : Hid (takenAt l t ((j : Int) + 1) p c = false) := by
      rw [Hid, HA.out, HU.out, show (stateR l ((j : Int) + 1) != 4) = false from by rw [bne, hs]; rfl]; rfl
     go_wp2_with fail
     go_roundw
     case rel => exact ⟨j + 1, by omega, by go_num, hE, by rw [HO.out, HD.out, HN.out, HT.out]; rfl⟩
     case measure => simp [intOf]; omega
   ·have HN : Hid (takenAt l t ((j : Int) + 1) p c = false) := by
     rw [Hid, HA.out, show (((j : Int) + 1) != t) = false from by rw [bne, hu]; rfl]; rfl
    go_wp2_with fail
    go_roundw
    case rel => exact ⟨j + 1, by omega, by go_num, hE, by rw [HO.out, HD.out, HN.out, HT.out]; rfl⟩
    case measure => simp [intOf]; omega
  ·have HF : Hid (takenR l t p c = false) := by
    rw [Hid, HO.out, List.drop_of_length_le (by simp; omega)]; rfl
   go_wp2_with fail
   go_ret
   exact ⟨by rw [HF.out]; rfl, hE⟩
end Go.Proofs.YtibfgbmhmdggmaaGreatDoor.B
