/- What a line asks for, by its words: the order that its first word names, and its numbers. No Go in sight. · What a call answers that makes a world; the acts' errors and worlds; the reference's MendAll. · The desk's clerk: his world, and what turns it. · What is told of a right world is small: cells from 0 to 99. No Go in sight. -/
import Derived.Test.YtibfgbmhmdggmaaGreatDoorWork8
import Derived.Test.YtibfgbmhmdggmaaGreatDoorFlush4
import Derived.Test.YtibfgbmhmdggmaaGreatDoorMendedA
import Derived.Test.YtibfgbmhmdggmaaGreatDoorDk3
namespace Go.Proofs.YtibfgbmhmdggmaaGreatDoor.B
set_option maxHeartbeats 32000000
set_option maxRecDepth 100000
def ordNo (x : List UInt8) : Option Nat :=
 if x = sWrite then some 0 else if x = sCommit then some 1 else if x = sAbort then some 2 else if x = sSync then some 3 else if x = sFlush then some 4 else if x = sCrash then some 5 else if x = sNow then some 6
 else if x = sDisk then some 7 else if x = sMust then some 8 else if x = sLog then some 9 else if x = sState then some 10 else none
def ordN (i : Nat) : Nat := if i = 0 then 4 else if i ≤ 4 ∨ i = 10 then 1 else 0
def ordT (w : Wd) (i : Nat) (l : List Int) : Told :=
 match i, l with
 | 0, [a, b, c, d] => actT w ⟨1, a, b, c, d⟩
 | 1, [a] => actT w ⟨2, a, 0, 0, 0⟩
 | 2, [a] => actT w ⟨3, a, 0, 0, 0⟩
 | 3, [a] => actT w ⟨4, 0, 0, 0, a⟩
 | 4, [a] => actT w ⟨5, 0, a, 0, 0⟩
 | 5, [] => ⟨doErr w ⟨6, 0, 0, 0, 0⟩, mendWd w, digitsR (needR w.cut)⟩
 | 6, [] => ⟨0, w, listedR (cellsOfPgs (pgAt (pagesR w.l) 0) (pgAt (pagesR w.l) 1) (pgAt (pagesR w.l) 2))⟩
 | 7, [] => ⟨0, w, listedR (cellsOfPgs w.p w.q w.r)⟩
 | 8, [] => ⟨0, w, listedR (cellsR w.cut)⟩
 | 9, [] => ⟨0, w, digitsR w.l.length ++ (32 :: digitsR w.safe.toNat)⟩
 | 10, [a] => ⟨(if out 1 9 [a] then 3 else 0), w, digitsR (stateR w.l a).toNat⟩
 | _, _ => formT w
def wordsT (w : Wd) (x : List UInt8) (ws : List (List UInt8)) : Told :=
 match ordNo x with
 | none => formT w
 | some i => if ws.length = ordN i then (if (ws.all fun v => decide (0 ≤ numR v)) then ordT w i (ws.map numR) else formT w) else formT w
theorem words_one {c : UInt8} : ∀ {s x : List UInt8}, splitAt' c s = [x] → s = x
 | [], x, h => by simpa [splitAt'] using h.symm
 | b :: l, x, h => by
  rw [splitAt'] at h
  split at h
  ·have := splitAt_ne c l
   cases hs : splitAt' c l with
   | nil => exact absurd hs this
   | cons y ys => rw [hs] at h; simp at h
  ·cases hs : splitAt' c l with
   | nil => exact absurd hs (splitAt_ne c l)
   | cons y ys =>
    rw [hs] at h
    simp at h
    obtain ⟨h1, h2⟩ := h
    rw [h2] at hs
    rw [words_one hs]
    exact h1
theorem ord_cases (x : List UInt8) : (x = sWrite ∧ ordNo x = some 0) ∨ (x = sCommit ∧ ordNo x = some 1) ∨ (x = sAbort ∧ ordNo x = some 2) ∨ (x = sSync ∧ ordNo x = some 3) ∨ (x = sFlush ∧ ordNo x = some 4) ∨ (x = sCrash ∧ ordNo x = some 5) ∨ (x = sNow ∧ ordNo x = some 6) ∨ (x = sDisk ∧ ordNo x = some 7) ∨ (x = sMust ∧ ordNo x = some 8) ∨ (x = sLog ∧ ordNo x = some 9) ∨ (x = sState ∧ ordNo x = some 10) ∨
  (x ≠ sWrite ∧ x ≠ sCommit ∧ x ≠ sAbort ∧ x ≠ sSync ∧ x ≠ sFlush ∧ x ≠ sCrash ∧ x ≠ sNow ∧ x ≠ sDisk ∧ x ≠ sMust ∧ x ≠ sLog ∧ x ≠ sState ∧ ordNo x = none) := by
 by_cases h0 : x = sWrite
 ·subst h0; exact Or.inl ⟨rfl, by decide⟩
 by_cases h1 : x = sCommit
 ·subst h1; exact Or.inr (Or.inl ⟨rfl, by decide⟩)
 by_cases h2 : x = sAbort
 ·subst h2; exact Or.inr (Or.inr (Or.inl ⟨rfl, by decide⟩))
 by_cases h3 : x = sSync
 ·subst h3; exact Or.inr (Or.inr (Or.inr (Or.inl ⟨rfl, by decide⟩)))
 by_cases h4 : x = sFlush
 ·subst h4; exact Or.inr (Or.inr (Or.inr (Or.inr (Or.inl ⟨rfl, by decide⟩))))
 by_cases h5 : x = sCrash
 ·subst h5; exact Or.inr (Or.inr (Or.inr (Or.inr (Or.inr (Or.inl ⟨rfl, by decide⟩)))))
 by_cases h6 : x = sNow
 ·subst h6; exact Or.inr (Or.inr (Or.inr (Or.inr (Or.inr (Or.inr (Or.inl ⟨rfl, by decide⟩))))))
 by_cases h7 : x = sDisk
 ·subst h7; exact Or.inr (Or.inr (Or.inr (Or.inr (Or.inr (Or.inr (Or.inr (Or.inl ⟨rfl, by decide⟩)))))))
 by_cases h8 : x = sMust
 ·subst h8; exact Or.inr (Or.inr (Or.inr (Or.inr (Or.inr (Or.inr (Or.inr (Or.inr (Or.inl ⟨rfl, by decide⟩))))))))
 by_cases h9 : x = sLog
 ·subst h9; exact Or.inr (Or.inr (Or.inr (Or.inr (Or.inr (Or.inr (Or.inr (Or.inr (Or.inr (Or.inl ⟨rfl, by decide⟩)))))))))
 by_cases h10 : x = sState
 ·subst h10; exact Or.inr (Or.inr (Or.inr (Or.inr (Or.inr (Or.inr (Or.inr (Or.inr (Or.inr (Or.inr (Or.inl ⟨rfl, by decide⟩))))))))))
 refine Or.inr (Or.inr (Or.inr (Or.inr (Or.inr (Or.inr (Or.inr (Or.inr (Or.inr (Or.inr (Or.inr ⟨h0, h1, h2, h3, h4, h5, h6, h7, h8, h9, h10, ?_⟩))))))))))
 unfold ordNo
 rw [if_neg h0, if_neg h1, if_neg h2, if_neg h3, if_neg h4, if_neg h5, if_neg h6, if_neg h7, if_neg h8, if_neg h9, if_neg h10]
theorem cmd_ord (w : Wd) (x : List UInt8) (l : List Int) (hl : l ≠ []) : cmdR w x l = match ordNo x with | none => formT w | some i => if l.length = ordN i then ordT w i l else formT w := by
 rcases ord_cases x with ⟨rfl, h⟩ | ⟨rfl, h⟩ | ⟨rfl, h⟩ | ⟨rfl, h⟩ | ⟨rfl, h⟩ | ⟨rfl, h⟩ | ⟨rfl, h⟩ | ⟨rfl, h⟩ | ⟨rfl, h⟩ | ⟨rfl, h⟩ | ⟨rfl, h⟩ | ⟨n0, n1, n2, n3, n4, n5, n6, n7, n8, n9, n10, h⟩
 ·rw [h]; rcases l with _ | ⟨a, _ | ⟨b, _ | ⟨c, _ | ⟨d, _ | ⟨e, l⟩⟩⟩⟩⟩ <;> first | exact absurd rfl hl | rfl
 ·rw [h]; rcases l with _ | ⟨a, _ | ⟨b, _ | ⟨c, _ | ⟨d, _ | ⟨e, l⟩⟩⟩⟩⟩ <;> first | exact absurd rfl hl | rfl
 ·rw [h]; rcases l with _ | ⟨a, _ | ⟨b, _ | ⟨c, _ | ⟨d, _ | ⟨e, l⟩⟩⟩⟩⟩ <;> first | exact absurd rfl hl | rfl
 ·rw [h]; rcases l with _ | ⟨a, _ | ⟨b, _ | ⟨c, _ | ⟨d, _ | ⟨e, l⟩⟩⟩⟩⟩ <;> first | exact absurd rfl hl | rfl
 ·rw [h]; rcases l with _ | ⟨a, _ | ⟨b, _ | ⟨c, _ | ⟨d, _ | ⟨e, l⟩⟩⟩⟩⟩ <;> first | exact absurd rfl hl | rfl
 ·rw [h]; rcases l with _ | ⟨a, _ | ⟨b, _ | ⟨c, _ | ⟨d, _ | ⟨e, l⟩⟩⟩⟩⟩ <;> first | exact absurd rfl hl | rfl
 ·rw [h]; rcases l with _ | ⟨a, _ | ⟨b, _ | ⟨c, _ | ⟨d, _ | ⟨e, l⟩⟩⟩⟩⟩ <;> first | exact absurd rfl hl | rfl
 ·rw [h]; rcases l with _ | ⟨a, _ | ⟨b, _ | ⟨c, _ | ⟨d, _ | ⟨e, l⟩⟩⟩⟩⟩ <;> first | exact absurd rfl hl | rfl
 ·rw [h]; rcases l with _ | ⟨a, _ | ⟨b, _ | ⟨c, _ | ⟨d, _ | ⟨e, l⟩⟩⟩⟩⟩ <;> first | exact absurd rfl hl | rfl
 ·rw [h]; rcases l with _ | ⟨a, _ | ⟨b, _ | ⟨c, _ | ⟨d, _ | ⟨e, l⟩⟩⟩⟩⟩ <;> first | exact absurd rfl hl | rfl
 ·rw [h]; rcases l with _ | ⟨a, _ | ⟨b, _ | ⟨c, _ | ⟨d, _ | ⟨e, l⟩⟩⟩⟩⟩ <;> first | exact absurd rfl hl | rfl
 ·rw [h]; rcases l with _ | ⟨a, _ | ⟨b, _ | ⟨c, _ | ⟨d, _ | ⟨e, l⟩⟩⟩⟩⟩ <;> simp [cmdR, n0, n1, n2, n3, n4, n10]
theorem told_eq (w : Wd) (s x : List UInt8) (ws : List (List UInt8)) (h : wordsR s = x :: ws) : toldR w s = wordsT w x ws := by
 cases ws with
 | nil =>
  obtain rfl := words_one h
  unfold toldR wordsT
  rw [h]
  rcases ord_cases s with ⟨rfl, ho⟩ | ⟨rfl, ho⟩ | ⟨rfl, ho⟩ | ⟨rfl, ho⟩ | ⟨rfl, ho⟩ | ⟨rfl, ho⟩ | ⟨rfl, ho⟩ | ⟨rfl, ho⟩ | ⟨rfl, ho⟩ | ⟨rfl, ho⟩ | ⟨rfl, ho⟩ | ⟨n0, n1, n2, n3, n4, n5, n6, n7, n8, n9, n10, ho⟩
  ·rw [ho]; rfl
  ·rw [ho]; rfl
  ·rw [ho]; rfl
  ·rw [ho]; rfl
  ·rw [ho]; rfl
  ·rw [ho]; rfl
  ·rw [ho]; rfl
  ·rw [ho]; rfl
  ·rw [ho]; rfl
  ·rw [ho]; rfl
  ·rw [ho]; rfl
  ·rw [ho, if_neg n5, if_neg n6, if_neg n7, if_neg n8, if_neg n9]; rfl
 | cons y ys =>
  have hne : ∀ n, wordsR n = [n] → s ≠ n := fun n hn e => by rw [e, hn] at h; simp at h
  unfold toldR wordsT
  rw [if_neg (hne sCrash (by decide)), if_neg (hne sNow (by decide)), if_neg (hne sDisk (by decide)), if_neg (hne sMust (by decide)), if_neg (hne sLog (by decide)), h]
  simp only []
  rw [cmd_ord w x ((y :: ys).map numR) (by simp), List.length_map]
  cases ordNo x with
  | none => simp only []; split <;> rfl
  | some i => simp only []; split <;> split <;> rfl
theorem words_ne (s : List UInt8) : ∃ x ws, wordsR s = x :: ws := by
 cases h : wordsR s with
 | nil => exact absurd h (splitAt_ne 32 s)
 | cons x ws => exact ⟨x, ws, rfl⟩
end Go.Proofs.YtibfgbmhmdggmaaGreatDoor.B
namespace Go.Proofs.YtibfgbmhmdggmaaGreatDoor.B
set_option maxHeartbeats 32000000
set_option maxRecDepth 100000
open Go.ChangeShapes Go.WideShapes Go.ChangeAt Go.RowKit
def DoW (base : Nat) (w' : World) (e : Ending) (v : Wd) (x : Int) : Prop :=
 ∃ a cap, e = .returned (.tuple #[wdVal v.p v.q v.r (.slice a v.l.length cap) v.safe, .int .i64 x]) ∧ LogIn w' a v.l.length cap v.l ∧ ∀ ad, a = some ad → base ≤ ad.block
theorem logIn_none (w : World) : LogIn w none 0 0 [] := ⟨recs_none _, Nat.le_refl _, Nat.zero_le _, fun _ => rfl, fun ad e => by cases e⟩
theorem WorkAns.dw {base : Nat} {w' : World} {e : Ending} {p q r : Pg} {x : Int} {l' : List Rc} {s : Int} (h : WorkAns base w' e p q r x l' s) : DoW base w' e (if x = 0 then ⟨p, q, r, l', s⟩ else noWd) x := by
 rcases h with ⟨rfl, a, cap, rfl, hin, hf⟩ | ⟨hx, rfl⟩
 ·exact ⟨a, cap, rfl, hin, hf⟩
 ·rw [if_neg hx]
  exact ⟨none, 0, rfl, logIn_none _, fun _ e => by cases e⟩
theorem refMended_any (p q r : Pg) (a : Option Addr) (len cap : Nat) (l : List Rc) (safe : Int) (w : World) (h : LogIn w a len cap l) :
  Calls Tryz.prog 42 #[wdVal p q r (.slice a len cap) safe, .int .i64 (-1), .agg #[.bool true, .bool true, .bool true]] w fun e w' => Ext w w' ∧
   AllAns w.heap.size w' e (pgAt (pagesR (mendR (l.take safe.toNat))) 0) (pgAt (pagesR (mendR (l.take safe.toNat))) 1) (pgAt (pagesR (mendR (l.take safe.toNat))) 2) (errOf (worldErr p q r l safe) (mendErr (l.take safe.toNat))) (needR (l.take safe.toNat)) (mendR (l.take safe.toNat)) ((mendR (l.take safe.toNat)).length : Nat) := by
 by_cases hz : worldErr p q r l safe = 0
 ·have := refMended_ok p q r a len cap l safe w h hz
  unfold errOf
  rw [if_pos hz]
  exact this
 ·have := refMended_no p q r a len cap l safe w h hz
  unfold errOf
  rw [if_neg hz]
  exact this.mono fun e w' ⟨h1, h2⟩ => ⟨h1, Or.inr ⟨hz, h2⟩⟩
theorem refMendAll_new (p q r : Pg) (a : Option Addr) (len cap : Nat) (safe : Int) (w : World) (P Q R : Pg) (x : Int) (n : Int) (m : List Rc) (s : Int)
  (H : ∀ W, Ext w W → Calls Tryz.prog 42 #[wdVal p q r (.slice a len cap) safe, .int .i64 (-1), .agg #[.bool true, .bool true, .bool true]] W fun e w' => Ext W w' ∧ ∃ a' cap', e = .returned (.tuple #[wdVal P Q R (.slice a' m.length cap') s, .int .i64 n, .int .i64 x]) ∧ LogIn w' a' m.length cap' m ∧ ∀ ad, a' = some ad → W.heap.size ≤ ad.block) :
  Calls Tryz.prog 22 #[wdVal p q r (.slice a len cap) safe] w fun e w' => Ext w w' ∧ ∃ a' cap', e = .returned (.tuple #[wdVal P Q R (.slice a' m.length cap') s, .int .i64 n, .int .i64 x]) ∧ LogIn w' a' m.length cap' m ∧ ∀ ad, a' = some ad → w.heap.size ≤ ad.block := by
 have E0 := ((Ext.refl w).alloc (.cells (wdCells p q r (.slice a len cap) safe) 38)).alloc (.cells (wdCells noPg noPg noPg (.slice none 0 0) 0) 38)
 have B0 := (Blk.new w w.heap.size (wdCells p q r (.slice a len cap) safe) 38 rfl).alloc (.cells (wdCells noPg noPg noPg (.slice none 0 0) 0) 38)
 have N0 := Blk.new (w.alloc (.cells (wdCells p q r (.slice a len cap) safe) 38)) (w.heap.size + 1) (wdCells noPg noPg noPg (.slice none 0 0) 0) 38 (by simp)
 go_enter Tryz.func22, Tryz.ntmps22
 have b0 := B0.cell
 have hb := N0.lt
 go_wp2_with fail
 refine (H _ E0).mono ?_
 rintro e w2 ⟨hw, a2, cap2, rfl, L2, hF⟩
 have E2 := E0.trans hw
 have N2 := N0.ext hw
 have n_ := N2.cell
 have f_ := N2.fr
 have E9 := put14_ext E2 (w.heap.size + 1) (by omega) (.int .i64 P.c0) (.int .i64 P.c1) (.int .i64 P.c2) (.int .i64 P.last) (.int .i64 Q.c0) (.int .i64 Q.c1) (.int .i64 Q.c2) (.int .i64 Q.last) (.int .i64 R.c0) (.int .i64 R.c1) (.int .i64 R.c2) (.int .i64 R.last) (.slice a2 m.length cap2) (.int .i64 s)
 have G9 := put14_gr w2 (w.heap.size + 1) (.int .i64 P.c0) (.int .i64 P.c1) (.int .i64 P.c2) (.int .i64 P.last) (.int .i64 Q.c0) (.int .i64 Q.c1) (.int .i64 Q.c2) (.int .i64 Q.last) (.int .i64 R.c0) (.int .i64 R.c1) (.int .i64 R.c2) (.int .i64 R.last) (.slice a2 m.length cap2) (.int .i64 s)
 have HL9 := (show Hid _ from L2.gr G9 (fun ad e e2 => by injection e2 with e2; have := hF ad e; omega))
 have HF : Hid (∀ ad, a2 = some ad → w.heap.size ≤ ad.block) := fun ad e => by have := hF ad e; simp at this; omega
 clear G9 b0 B0 N0 E0 H hw hF L2
 go_wp2_with fail
 refine bodyPost_ret (v := .tuple #[.agg (wdCells P Q R (.slice a2 m.length cap2) s), .int .i64 n, .int .i64 x]) (by simp [results, Tryz.results22, go_sem, n_]) rfl ⟨E9, a2, cap2, rfl, HL9.out, HF.out⟩
theorem do_k1 {W : Wd} {x : Ac} (h : x.kind = 1) : doErr W x = errOf W.err (writeErr W.l x.txn x.page x.cell x.val) ∧ doTo W x = ⟨W.p, W.q, W.r, W.l ++ [writeRec W.l x.txn x.page x.cell x.val], W.safe⟩ := by
 unfold doErr doTo; simp [h]
theorem do_k2 {W : Wd} {x : Ac} (h : x.kind = 2) : doErr W x = errOf W.err (commitErr W.l x.txn) ∧ doTo W x = ⟨W.p, W.q, W.r, (W.l ++ [commitRec W.l x.txn]) ++ [endRec W.l x.txn], ((W.l.length + 1 : Nat) : Int)⟩ := by
 unfold doErr doTo; simp [h]
theorem do_k3 {W : Wd} {x : Ac} (h : x.kind = 3) : doErr W x = errOf W.err (abortErr W.l x.txn) ∧ doTo W x = ⟨W.p, W.q, W.r, abortR W.l x.txn, W.safe⟩ := by
 unfold doErr doTo; simp [h]
theorem do_k4 {W : Wd} {x : Ac} (h : x.kind = 4) : doErr W x = errOf W.err (syncErr W.l x.val) ∧ doTo W x = ⟨W.p, W.q, W.r, W.l, maxI W.safe x.val⟩ := by
 unfold doErr doTo; simp [h]
theorem do_k5 {W : Wd} {x : Ac} (h : x.kind = 5) : doErr W x = errOf W.err (pageErr x.page) ∧ doTo W x = ⟨layPg W.l x.page 0 W.p, layPg W.l x.page 1 W.q, layPg W.l x.page 2 W.r, W.l, laySafe W.l W.safe x.page⟩ := by
 unfold doErr doTo; simp [h]
theorem do_k6 {W : Wd} {x : Ac} (h : x.kind = 6) : doErr W x = errOf W.err (mendErr W.cut) ∧ doTo W x = mendWd W := by
 unfold doErr doTo; simp [h]
theorem AllAns.dw3 {base : Nat} {w' : World} {e : Ending} {p q r : Pg} {x : Int} {n : Nat} {l' : List Rc} {s : Int} (h : AllAns base w' e p q r x n l' s) :
  ∃ a cap, e = .returned (.tuple #[wdVal (if x = 0 then (⟨p, q, r, l', s⟩ : Wd) else noWd).p (if x = 0 then (⟨p, q, r, l', s⟩ : Wd) else noWd).q (if x = 0 then (⟨p, q, r, l', s⟩ : Wd) else noWd).r (.slice a (if x = 0 then (⟨p, q, r, l', s⟩ : Wd) else noWd).l.length cap) (if x = 0 then (⟨p, q, r, l', s⟩ : Wd) else noWd).safe, .int .i64 (ansS x (n : Nat)), .int .i64 x]) ∧
   LogIn w' a (if x = 0 then (⟨p, q, r, l', s⟩ : Wd) else noWd).l.length cap (if x = 0 then (⟨p, q, r, l', s⟩ : Wd) else noWd).l ∧ ∀ ad, a = some ad → base ≤ ad.block := by
 unfold ansS
 rcases h with ⟨rfl, a, cap, rfl, hin, hf⟩ | ⟨hx, rfl⟩
 ·exact ⟨a, cap, rfl, hin, hf⟩
 ·simp only [if_neg hx]
  exact ⟨none, 0, rfl, logIn_none _, fun _ e => by cases e⟩
def Ck (w : World) (cb : Nat) (W : Wd) : Prop :=
 ∃ a cap, Blk w cb (wdCells W.p W.q W.r (.slice a W.l.length cap) W.safe) 41 ∧ LogIn w a W.l.length cap W.l ∧ ∀ ad, a = some ad → ad.block ≠ cb
theorem Ck.gr {row : Option Nat} {w w' : World} {cb : Nat} {W : Wd} (h : Ck w cb W) (g : Gr row w w') (hn : some cb ≠ row) (hl : ∀ k, row = some k → w.heap.size ≤ k) : Ck w' cb W := by
 obtain ⟨a, cap, hB, hL, hne⟩ := h
 refine ⟨a, cap, hB.gr g hn, ?_, hne⟩
 by_cases h0 : W.l.length = 0
 ·refine ⟨⟨rfl, ?_⟩, hL.le, hL.max, hL.nil, fun ad e i hi => by omega⟩
  rcases hL.recs.2 with h1 | ⟨b, off, rfl, _⟩
  ·exact Or.inl h1
  ·exact Or.inr ⟨b, off, rfl, fun i hi => by omega⟩
 ·exact hL.gr g (fun ad e e2 => by have h1 := hL.recs.lt (by omega) ad e; have h2 := hl ad.block e2.symm; omega)
theorem Ck.ext {w w' : World} {cb : Nat} {W : Wd} (h : Ck w cb W) (e : Ext w w') : Ck w' cb W := h.gr (Gr.of_ext (row := none) e) (by simp) (fun k e => by cases e)
theorem Ck.lt {w : World} {cb : Nat} {W : Wd} (h : Ck w cb W) : cb < w.heap.size := by
 obtain ⟨_, _, hB, _⟩ := h
 exact hB.lt
def Tells (w : World) (v : Value) (t : List UInt8) : Prop := ∀ W', Ext w W' → Calls Tryz.prog 20 #[v] W' fun e w' => e = .returned (tx t) ∧ Ext W' w'
abbrev putWd (w : World) (b : Nat) (P Q R : Pg) (lv : Value) (s : Int) : World := put14 w b (.int .i64 P.c0) (.int .i64 P.c1) (.int .i64 P.c2) (.int .i64 P.last) (.int .i64 Q.c0) (.int .i64 Q.c1) (.int .i64 Q.c2) (.int .i64 Q.last) (.int .i64 R.c0) (.int .i64 R.c1) (.int .i64 R.c2) (.int .i64 R.last) lv (.int .i64 s)
theorem putWd_gr (w : World) (b : Nat) (P Q R : Pg) (lv : Value) (s : Int) : Gr (some b) w (putWd w b P Q R lv s) := put14_gr w b (.int .i64 P.c0) (.int .i64 P.c1) (.int .i64 P.c2) (.int .i64 P.last) (.int .i64 Q.c0) (.int .i64 Q.c1) (.int .i64 Q.c2) (.int .i64 Q.last) (.int .i64 R.c0) (.int .i64 R.c1) (.int .i64 R.c2) (.int .i64 R.last) lv (.int .i64 s)
theorem putWd_ext {a w : World} (h : Ext a w) (b : Nat) (hb : a.heap.size ≤ b) (P Q R : Pg) (lv : Value) (s : Int) : Ext a (putWd w b P Q R lv s) := put14_ext h b hb (.int .i64 P.c0) (.int .i64 P.c1) (.int .i64 P.c2) (.int .i64 P.last) (.int .i64 Q.c0) (.int .i64 Q.c1) (.int .i64 Q.c2) (.int .i64 Q.last) (.int .i64 R.c0) (.int .i64 R.c1) (.int .i64 R.c2) (.int .i64 R.last) lv (.int .i64 s)
theorem putWd_blk {w : World} {b : Nat} {y0 y1 y2 y3 y4 y5 y6 y7 y8 y9 y10 y11 y12 y13 : Value} {t : TypeId} (h : Blk w b #[y0, y1, y2, y3, y4, y5, y6, y7, y8, y9, y10, y11, y12, y13] t) (P Q R : Pg) (lv : Value) (s : Int) : Blk (putWd w b P Q R lv s) b (wdCells P Q R lv s) t := put14_blk h (.int .i64 P.c0) (.int .i64 P.c1) (.int .i64 P.c2) (.int .i64 P.last) (.int .i64 Q.c0) (.int .i64 Q.c1) (.int .i64 Q.c2) (.int .i64 Q.last) (.int .i64 R.c0) (.int .i64 R.c1) (.int .i64 R.c2) (.int .i64 R.last) lv (.int .i64 s)
theorem clerk_ok (cb : Nat) (c : Array Value) (hc : c.size = 14) (P Q R : Pg) (a : Option Addr) (n cap : Nat) (s : Int) (w : World) (B : Blk w cb c 41) :
  Calls Tryz.prog 63 #[.pointer (some ⟨cb, 0, none⟩), wdVal P Q R (.slice a n cap) s, .int .i64 0] w fun e w' => e = .returned (.iface 9 (tx sOk)) ∧ Gr (some cb) w w' ∧ Blk w' cb (wdCells P Q R (.slice a n cap) s) 41 := by
 obtain ⟨y0, y1, y2, y3, y4, y5, y6, y7, y8, y9, y10, y11, y12, y13, rfl⟩ := size14 hc
 have E0 := (Ext.refl w).alloc (.cells (wdCells P Q R (.slice a n cap) s) 38)
 have A0 := Blk.new w w.heap.size (wdCells P Q R (.slice a n cap) s) 38 rfl
 have a0 := A0.cell
 have B0 := B.alloc (.cells (wdCells P Q R (.slice a n cap) s) 38)
 have b_ := B.cell
 have f_ := B.fr
 have hlt := B.lt
 go_enter Tryz.func63, Tryz.ntmps63
 go_wp2_with fail
 refine (leave_ok _).mono ?_
 rintro e w1 ⟨rfl, rfl⟩
 go_wp2_with fail
 go_ret
 exact ⟨rfl, (putWd_gr w cb P Q R (.slice a n cap) s).alloc _, (putWd_blk B P Q R (.slice a n cap) s).alloc _⟩
theorem clerk_no (cb : Nat) (v : Value) (x : Int) (hx : x ≠ 0) (w : World) (hv : ∃ P Q R a n cap s, v = wdVal P Q R (.slice a n cap) s) :
  Calls Tryz.prog 63 #[.pointer (some ⟨cb, 0, none⟩), v, .int .i64 x] w fun e w' => e = left x ∧ Ext w w' := by
 obtain ⟨P, Q, R, a, n, cap, s, rfl⟩ := hv
 have E0 := (Ext.refl w).alloc (.cells (wdCells P Q R (.slice a n cap) s) 38)
 go_enter Tryz.func63, Tryz.ntmps63
 go_wp2_with fail
 refine (leave_no x hx _).mono ?_
 rintro e w1 ⟨rfl, rfl⟩
 go_wp2_with fail
 exact ⟨rfl, rfl, E0⟩
end Go.Proofs.YtibfgbmhmdggmaaGreatDoor.B
namespace Go.Proofs.YtibfgbmhmdggmaaGreatDoor.B
set_option maxHeartbeats 32000000
set_option maxRecDepth 100000
def Small (xs : List Int) : Prop := ∀ n ∈ xs, 0 ≤ n ∧ n < 100
theorem right_l {w : Wd} (h : w.err = 0) : Right w.l := (logErr_zero (worldErr_zero h).1).2
theorem pgAt_small {l : List Rc} (h : Right l) : Small (cellsOfPgs (pgAt (pagesR l) 0) (pgAt (pagesR l) 1) (pgAt (pagesR l) 2)) := by
 have hp := right_pages l h
 have h0 := (hp 0).1 (by decide)
 have h1 := (hp 1).1 (by decide)
 have h2 := (hp 2).1 (by decide)
 have h4 := (hp 4).1 (by decide)
 have h5 := (hp 5).1 (by decide)
 have h6 := (hp 6).1 (by decide)
 have h8 := (hp 8).1 (by decide)
 have h9 := (hp 9).1 (by decide)
 have h10 := (hp 10).1 (by decide)
 intro n hn
 unfold cellsOfPgs pgAt at hn
 simp only [Nat.zero_mul, Nat.zero_add, Nat.one_mul, Nat.reduceMul, Nat.reduceAdd, List.mem_cons, List.not_mem_nil, or_false] at hn
 rcases hn with rfl | rfl | rfl | rfl | rfl | rfl | rfl | rfl | rfl <;> omega
theorem disk_page {w : Wd} (h : w.err = 0) (i : Nat) (hi : i < 3) : ∃ k, k ≤ w.l.length ∧ selPg w.p w.q w.r i = pgAt (pagesR (w.l.take k)) i := by
 have hu := (worldErr_zero h).2.2
 have ho := (worldErr_zero h).2.1
 have hb : untoldB w.l w.safe i (selPg w.p w.q w.r i) = false := by
  have h3 : untoldTo w.l w.safe w.p w.q w.r 3 = (((false || untoldB w.l w.safe 0 (selPg w.p w.q w.r 0)) || untoldB w.l w.safe 1 (selPg w.p w.q w.r 1)) || untoldB w.l w.safe 2 (selPg w.p w.q w.r 2)) := rfl
  rw [h3] at hu
  simp only [Bool.or_eq_false_iff] at hu
  obtain rfl | rfl | rfl : i = 0 ∨ i = 1 ∨ i = 2 := by omega
  ·exact hu.1.1.2
  ·exact hu.1.2
  ·exact hu.2
 unfold untoldB at hb
 rw [Bool.or_eq_false_iff] at hb
 have he : eqPg (selPg w.p w.q w.r i) (pgAt (pagesR (w.l.take (selPg w.p w.q w.r i).last.toNat)) i) = true := by simpa using hb.2
 refine ⟨_, ?_, (eqPg_iff _ _).1 he⟩
 have h1 := hb.1
 unfold out at h1 ho
 simp at h1 ho
 omega
theorem disk_small {w : Wd} (h : w.err = 0) : Small (cellsOfPgs w.p w.q w.r) := by
 have hR := right_l h
 have each : ∀ i, i < 3 → ∃ l, Right l ∧ selPg w.p w.q w.r i = pgAt (pagesR l) i := fun i hi => by
  obtain ⟨k, hk, e⟩ := disk_page h i hi
  exact ⟨_, right_pre hR k, e⟩
 obtain ⟨l0, r0, e0⟩ := each 0 (by decide)
 obtain ⟨l1, r1, e1⟩ := each 1 (by decide)
 obtain ⟨l2, r2, e2⟩ := each 2 (by decide)
 have e0 : w.p = pgAt (pagesR l0) 0 := e0
 have e1 : w.q = pgAt (pagesR l1) 1 := e1
 have e2 : w.r = pgAt (pagesR l2) 2 := e2
 intro n hn
 rw [e0, e1, e2] at hn
 unfold cellsOfPgs at hn
 simp only [List.mem_cons, List.not_mem_nil, or_false] at hn
 rcases hn with hn | hn | hn | hn | hn | hn | hn | hn | hn
 ·exact pgAt_small r0 n (by simp [cellsOfPgs, hn])
 ·exact pgAt_small r0 n (by simp [cellsOfPgs, hn])
 ·exact pgAt_small r0 n (by simp [cellsOfPgs, hn])
 ·exact pgAt_small r1 n (by simp [cellsOfPgs, hn])
 ·exact pgAt_small r1 n (by simp [cellsOfPgs, hn])
 ·exact pgAt_small r1 n (by simp [cellsOfPgs, hn])
 ·exact pgAt_small r2 n (by simp [cellsOfPgs, hn])
 ·exact pgAt_small r2 n (by simp [cellsOfPgs, hn])
 ·exact pgAt_small r2 n (by simp [cellsOfPgs, hn])
theorem cells_small (win : Int → Bool) : ∀ l, Right l → Small (cellsBy win l) := right_ind _ (fun n hn => by
  have : n = 0 := by simpa [cellsBy, foldI] using hn
  omega) fun l r _ ih he _ n hn => by
 rw [cellsBy_snoc] at hn
 split at hn
 ·rename_i hk
  rw [Bool.and_eq_true] at hk
  have hv := recErr_vals he (by unfold turns; simp [hk.1])
  rcases List.mem_or_eq_of_mem_set hn with h1 | h1
  ·exact ih n h1
  ·omega
 ·exact ih n hn
theorem must_small {w : Wd} (h : w.err = 0) : Small (cellsR w.cut) := cells_small _ _ (right_pre (right_l h) _)
theorem state_small (l : List Rc) (t : Int) : 0 ≤ stateR l t ∧ stateR l t < 100 := by rcases stateR_range l t with h | h | h | h | h <;> omega
theorem need_small {w : Wd} (h : mendErr w.cut = 0) : needR w.cut < 100 := by have := mendErr_zero.1 h; omega
end Go.Proofs.YtibfgbmhmdggmaaGreatDoor.B
