/- What work does to a log, as plain functions; the records that it puts may follow. No Go in sight. The contracts of the work's noneOfSuch, and of the desk's Room and Add. The contracts of the work's write and commit at a desk. The contract of the work's commit at a desk. The contracts of the office's Do, and of the work's Write and Commit. The contracts of the work's Write and Commit. -/
import Derived.Test.YtibfgbmhmdggmaaGreatDoorDeskB
namespace Go.Proofs.YtibfgbmhmdggmaaGreatDoor.B
set_option maxHeartbeats 32000000
set_option maxRecDepth 100000
def noneB (t p c v : Int) : Bool := out 1 9 [t] || (out 0 2 [p] || (out 0 2 [c] || out 0 99 [v]))
def writeRec (l : List Rc) (t p c v : Int) : Rc := ⟨1, t, (lastR l t : Nat), p, c, (pagesR l).getD (p.toNat * 4 + c.toNat) 0, v, 0⟩
def writeErr (l : List Rc) (t p c v : Int) : Int := if noneB t p c v then 3 else if 1 < stateR l t then 6 else if takenR l t p c then 5 else if 60 ≤ l.length then 2 else 0
def commitRec (l : List Rc) (t : Int) : Rc := ⟨2, t, (lastR l t : Nat), 0, 0, 0, 0, 0⟩
def endRec (l : List Rc) (t : Int) : Rc := ⟨4, t, (l.length + 1 : Nat), 0, 0, 0, 0, 0⟩
def commitErr (l : List Rc) (t : Int) : Int := if out 1 9 [t] then 3 else if stateR l t = 0 then 7 else if 1 < stateR l t then 6 else if 59 ≤ l.length then 2 else 0
theorem writeErr_3 {l : List Rc} {t p c v : Int} (h : noneB t p c v = true) : writeErr l t p c v = 3 := by unfold writeErr; rw [h]; rfl
theorem writeErr_6 {l : List Rc} {t p c v : Int} (h : noneB t p c v = false) (h1 : 1 < stateR l t) : writeErr l t p c v = 6 := by unfold writeErr; rw [h, if_neg Bool.false_ne_true, if_pos h1]
theorem writeErr_5 {l : List Rc} {t p c v : Int} (h : noneB t p c v = false) (h1 : ¬ 1 < stateR l t) (h2 : takenR l t p c = true) : writeErr l t p c v = 5 := by unfold writeErr; rw [h, if_neg Bool.false_ne_true, if_neg h1, h2]; rfl
theorem writeErr_2 {l : List Rc} {t p c v : Int} (h : noneB t p c v = false) (h1 : ¬ 1 < stateR l t) (h2 : takenR l t p c = false) (h3 : 60 ≤ l.length) : writeErr l t p c v = 2 := by unfold writeErr; rw [h, if_neg Bool.false_ne_true, if_neg h1, h2, if_neg Bool.false_ne_true, if_pos h3]
theorem writeErr_0 {l : List Rc} {t p c v : Int} (h : noneB t p c v = false) (h1 : ¬ 1 < stateR l t) (h2 : takenR l t p c = false) (h3 : ¬ 60 ≤ l.length) : writeErr l t p c v = 0 := by unfold writeErr; rw [h, if_neg Bool.false_ne_true, if_neg h1, h2, if_neg Bool.false_ne_true, if_neg h3]
theorem writeErr_zero {l : List Rc} {t p c v : Int} (h : writeErr l t p c v = 0) : noneB t p c v = false ∧ ¬ 1 < stateR l t ∧ takenR l t p c = false ∧ l.length < 60 := by
 cases h0 : noneB t p c v
 ·by_cases h1 : 1 < stateR l t
  ·rw [writeErr_6 h0 h1] at h; cases h
  ·cases h2 : takenR l t p c
   ·by_cases h3 : 60 ≤ l.length
    ·rw [writeErr_2 h0 h1 h2 h3] at h; cases h
    ·exact ⟨rfl, h1, rfl, by omega⟩
   ·rw [writeErr_5 h0 h1 h2] at h; cases h
 ·rw [writeErr_3 h0] at h; cases h
theorem noneB_false {t p c v : Int} (h : noneB t p c v = false) : (1 ≤ t ∧ t ≤ 9) ∧ (0 ≤ p ∧ p ≤ 2) ∧ (0 ≤ c ∧ c ≤ 2) ∧ (0 ≤ v ∧ v ≤ 99) := by
 unfold noneB at h
 simp only [Bool.or_eq_false_iff] at h
 exact ⟨out1_false h.1, out1_false h.2.1, out1_false h.2.2.1, out1_false h.2.2.2⟩
theorem out1_ok {lo hi n : Int} (h1 : lo ≤ n) (h2 : n ≤ hi) : out lo hi [n] = false := by simp [out]; omega
theorem write_step {l : List Rc} (hR : Right l) {t p c v : Int} (h : writeErr l t p c v = 0) : recErr (l.length + 1 : Nat) (writeRec l t p c v) = 0 ∧ followsR l (writeRec l t p c v) = true := by
 obtain ⟨hn, hs, ht, hl⟩ := writeErr_zero h
 obtain ⟨h1, h2, h3, h4⟩ := noneB_false hn
 have hla := lastR_le t l
 have hold := (right_pages l hR (p.toNat * 4 + c.toNat)).1 (by omega)
 constructor
 ·rw [recErr_zero']
  refine ⟨out1_ok (by omega) (by omega), rfl, ?_, rfl⟩
  unfold outOf cellOut writeRec
  dsimp only
  rw [out1_ok h1.1 h1.2, out1_ok (by omega) (by omega), out1_ok h2.1 h2.2, out1_ok h3.1 h3.2]
  have : out 0 99 [(pagesR l).getD (p.toNat * 4 + c.toNat) 0, v] = false := by simp [out] at hold ⊢; omega
  rw [this]; rfl
 ·have hr := stateR_range l t
  unfold followsR writeRec
  dsimp only
  have e4 : (stateR l t == 4) = false := by simp; omega
  have e2 : (stateR l t == 2) = false := by simp; omega
  have e3 : (stateR l t == 3) = false := by simp; omega
  have ep : (((lastR l t : Nat) : Int) != ((lastR l t : Nat) : Int)) = false := by simp
  rw [ep, e4, e2, e3, ht]
  simp
theorem write_ok {l : List Rc} (hR : Right l) {t p c v : Int} (h : writeErr l t p c v = 0) : stepErr l (writeRec l t p c v) = 0 := (stepErr_zero _ _).2 (write_step hR h)
theorem commitErr_3 {l : List Rc} {t : Int} (h : out 1 9 [t] = true) : commitErr l t = 3 := by unfold commitErr; rw [h]; rfl
theorem commitErr_7 {l : List Rc} {t : Int} (h : out 1 9 [t] = false) (h0 : stateR l t = 0) : commitErr l t = 7 := by unfold commitErr; rw [h, if_neg Bool.false_ne_true, if_pos h0]
theorem commitErr_6 {l : List Rc} {t : Int} (h : out 1 9 [t] = false) (h0 : ¬ stateR l t = 0) (h1 : 1 < stateR l t) : commitErr l t = 6 := by unfold commitErr; rw [h, if_neg Bool.false_ne_true, if_neg h0, if_pos h1]
theorem commitErr_2 {l : List Rc} {t : Int} (h : out 1 9 [t] = false) (h0 : ¬ stateR l t = 0) (h1 : ¬ 1 < stateR l t) (h2 : 59 ≤ l.length) : commitErr l t = 2 := by unfold commitErr; rw [h, if_neg Bool.false_ne_true, if_neg h0, if_neg h1, if_pos h2]
theorem commitErr_0 {l : List Rc} {t : Int} (h : out 1 9 [t] = false) (h0 : ¬ stateR l t = 0) (h1 : ¬ 1 < stateR l t) (h2 : ¬ 59 ≤ l.length) : commitErr l t = 0 := by unfold commitErr; rw [h, if_neg Bool.false_ne_true, if_neg h0, if_neg h1, if_neg h2]
theorem commitErr_zero {l : List Rc} {t : Int} (h : commitErr l t = 0) : (1 ≤ t ∧ t ≤ 9) ∧ stateR l t = 1 ∧ l.length < 59 := by
 cases h0 : out 1 9 [t]
 ·by_cases h1 : stateR l t = 0
  ·rw [commitErr_7 h0 h1] at h; cases h
  ·by_cases h2 : 1 < stateR l t
   ·rw [commitErr_6 h0 h1 h2] at h; cases h
   ·by_cases h3 : 59 ≤ l.length
    ·rw [commitErr_2 h0 h1 h2 h3] at h; cases h
    ·have := stateR_range l t
     exact ⟨out1_false h0, by omega, by omega⟩
 ·rw [commitErr_3 h0] at h; cases h
theorem commit_step {l : List Rc} {t : Int} (h : commitErr l t = 0) : recErr (l.length + 1 : Nat) (commitRec l t) = 0 ∧ followsR l (commitRec l t) = true := by
 obtain ⟨h1, hs, hl⟩ := commitErr_zero h
 have hla := lastR_le t l
 constructor
 ·rw [recErr_zero']
  refine ⟨out1_ok (by omega) (by omega), rfl, ?_, rfl⟩
  unfold outOf commitRec
  dsimp only
  rw [out1_ok h1.1 h1.2, out1_ok (by omega) (by omega)]
  rfl
 ·unfold followsR commitRec
  dsimp only
  rw [hs]
  simp
theorem commit_ok {l : List Rc} {t : Int} (h : commitErr l t = 0) : stepErr l (commitRec l t) = 0 := (stepErr_zero _ _).2 (commit_step h)
theorem end_step {l : List Rc} {t : Int} (h : commitErr l t = 0) : recErr ((l ++ [commitRec l t]).length + 1 : Nat) (endRec l t) = 0 ∧ followsR (l ++ [commitRec l t]) (endRec l t) = true := by
 obtain ⟨h1, hs, hl⟩ := commitErr_zero h
 obtain ⟨he, hf⟩ := commit_step h
 constructor
 ·rw [recErr_zero', List.length_append, List.length_singleton]
  refine ⟨out1_ok (by omega) (by omega), rfl, ?_, rfl⟩
  unfold outOf endRec
  dsimp only
  rw [out1_ok h1.1 h1.2, out1_ok (by omega) (by omega)]
  rfl
 ·have e1 : stateR (l ++ [commitRec l t]) t = 2 := by rw [stateR_snoc he hf]; simp [commitRec]
  have e2 : lastR (l ++ [commitRec l t]) t = l.length + 1 := by rw [lastR_snoc]; simp [commitRec]
  unfold followsR endRec
  dsimp only
  rw [e1, e2]
  simp
theorem end_ok {l : List Rc} {t : Int} (h : commitErr l t = 0) : stepErr (l ++ [commitRec l t]) (endRec l t) = 0 := (stepErr_zero _ _).2 (end_step h)
end Go.Proofs.YtibfgbmhmdggmaaGreatDoor.B
namespace Go.Proofs.YtibfgbmhmdggmaaGreatDoor.B
set_option maxHeartbeats 32000000
set_option maxRecDepth 100000
open Go.ChangeShapes Go.WideShapes Go.ChangeAt Go.RowKit
theorem none1 (t : Int) (b : Nat) (w : World) (B : Blk w b #[.int .i64 t] 3) : Calls Tryz.prog 161 #[.pointer (some ⟨b, 0, none⟩)] w fun e w' => e = .returned (.bool (out 1 9 [t])) ∧ Ext w w' := by
 have c := B.cell
 have E1 := (Ext.refl w).alloc (.cells #[.int .i64 t] 3)
 go_enter Tryz.func161, Tryz.ntmps161
 go_wp2_with fail
 refine (outside_n 1 1 9 _ 0 1 [t] _ rfl (by decide) (cells1 (by simp [go_sem]))).mono ?_
 rintro e w2 ⟨rfl, rfl⟩
 go_wp2_with fail
 go_ret
 exact ⟨rfl, E1⟩
theorem none2 (p c : Int) (b : Nat) (w : World) (B : Blk w b #[.int .i64 p, .int .i64 c] 124) : Calls Tryz.prog 162 #[.pointer (some ⟨b, 0, none⟩)] w fun e w' => e = .returned (.bool (out 0 2 [p])) ∧ Ext w w' := by
 have c := B.cell
 have E1 := (Ext.refl w).alloc (.cells #[.int .i64 p] 3)
 go_enter Tryz.func162, Tryz.ntmps162
 go_wp2_with fail
 refine (outside_n 1 0 2 _ 0 1 [p] _ rfl (by decide) (cells1 (by simp [go_sem]))).mono ?_
 rintro e w2 ⟨rfl, rfl⟩
 go_wp2_with fail
 go_ret
 exact ⟨rfl, E1⟩
theorem none3 (p c : Int) (b : Nat) (w : World) (B : Blk w b #[.int .i64 p, .int .i64 c] 124) : Calls Tryz.prog 163 #[.pointer (some ⟨b, 0, none⟩)] w fun e w' => e = .returned (.bool (out 0 2 [c])) ∧ Ext w w' := by
 have cc := B.cell
 have E1 := (Ext.refl w).alloc (.cells #[.int .i64 c] 3)
 go_enter Tryz.func163, Tryz.ntmps163
 go_wp2_with fail
 refine (outside_n 1 0 2 _ 0 1 [c] _ rfl (by decide) (cells1 (by simp [go_sem]))).mono ?_
 rintro e w2 ⟨rfl, rfl⟩
 go_wp2_with fail
 go_ret
 exact ⟨rfl, E1⟩
theorem none4 (v : Int) (b : Nat) (w : World) (B : Blk w b #[.int .i64 v] 3) : Calls Tryz.prog 164 #[.pointer (some ⟨b, 0, none⟩)] w fun e w' => e = .returned (.bool (out 0 99 [v])) ∧ Ext w w' := by
 have c := B.cell
 have E1 := (Ext.refl w).alloc (.cells #[.int .i64 v] 3)
 go_enter Tryz.func164, Tryz.ntmps164
 go_wp2_with fail
 refine (outside_n 1 0 99 _ 0 1 [v] _ rfl (by decide) (cells1 (by simp [go_sem]))).mono ?_
 rintro e w2 ⟨rfl, rfl⟩
 go_wp2_with fail
 go_ret
 exact ⟨rfl, E1⟩
theorem noneOfSuch_any (t p c v : Int) (w : World) : Calls Tryz.prog 129 #[.int .i64 t, keyP (p, c), .int .i64 v] w fun e w' => e = .returned (.bool (noneB t p c v)) ∧ Ext w w' := by
 have B0 := ((Blk.new w w.heap.size #[.int .i64 t] 3 rfl).alloc (.cells #[.int .i64 p, .int .i64 c] 124)).alloc (.cells #[.int .i64 v] 3)
 have B1 := (Blk.new (w.alloc (.cells #[.int .i64 t] 3)) (w.heap.size + 1) #[.int .i64 p, .int .i64 c] 124 (by simp)).alloc (.cells #[.int .i64 v] 3)
 have B2 := Blk.new ((w.alloc (.cells #[.int .i64 t] 3)).alloc (.cells #[.int .i64 p, .int .i64 c] 124)) (w.heap.size + 1 + 1) #[.int .i64 v] 3 (by simp)
 have E := (((Ext.refl w).alloc (.cells #[.int .i64 t] 3)).alloc (.cells #[.int .i64 p, .int .i64 c] 124)).alloc (.cells #[.int .i64 v] 3)
 go_enter Tryz.func129, Tryz.ntmps129
 go_wp2_with fail
 refine (any4 161 162 163 164 #[.pointer (some ⟨w.heap.size, 0, none⟩)] #[.pointer (some ⟨w.heap.size + 1, 0, none⟩)] #[.pointer (some ⟨w.heap.size + 1, 0, none⟩)] #[.pointer (some ⟨w.heap.size + 1 + 1, 0, none⟩)]
  (out 1 9 [t]) (out 0 2 [p]) (out 0 2 [c]) (out 0 99 [v]) (by simp [go_sem]) (by simp [go_sem]) (by simp [go_sem]) (by simp [go_sem])
  ⟨fun w => callFunc_enter _ w Tryz.func161 (by kernel_rfl) (by kernel_rfl), fun w' e => none1 t _ w' ((B0.alloc _).ext e)⟩
  (fun _ => ⟨fun w => callFunc_enter _ w Tryz.func162 (by kernel_rfl) (by kernel_rfl), fun w' e => none2 p c _ w' ((B1.alloc _).ext e)⟩)
  (fun _ _ => ⟨fun w => callFunc_enter _ w Tryz.func163 (by kernel_rfl) (by kernel_rfl), fun w' e => none3 p c _ w' ((B1.alloc _).ext e)⟩)
  (fun _ _ _ => ⟨fun w => callFunc_enter _ w Tryz.func164 (by kernel_rfl) (by kernel_rfl), fun w' e => none4 v _ w' ((B2.alloc _).ext e)⟩)).mono ?_
 rintro e w2 ⟨rfl, hw2⟩
 go_wp2_with fail
 go_ret
 exact ⟨rfl, (E.alloc _).trans hw2⟩
theorem room_any {base db pb mt mh : Nat} {l : List Rc} {tx : List TxE} {ho : List HE} {p q r : Pg} {lv : Value} {safe : Int} (m : Nat) (w : World) (h : DeskOk w base db pb mt mh l tx ho p q r lv safe) (hm : m ≤ 2) :
  Calls Tryz.prog 131 #[.pointer (some ⟨db, 0, none⟩), .int .i64 m] w fun e w' => e = .returned (.bool (decide (l.length + m ≤ 60))) ∧ w' = w := by
 have c0 : w.cell? ⟨db, 0, none⟩ = some (.pointer (some ⟨pb, 0, none⟩)) := by rw [h.blk.cell]; rfl
 have c14 : w.cell? ⟨pb, 14, none⟩ = some (.int .i64 (l.length : Nat)) := by rw [h.book.blk.cell]; exact (bookCells_12 _ mt mh _ (pagesR_len l)).2.2
 have h60 := right_len l h.book.right
 clear h
 by_cases hb : l.length + m ≤ 60
 ·have HD : Hid (decide (l.length + m ≤ 60) = true) := by simp [Hid, hb]
  have hi : ((l.length : Int) + (m : Int)) ≤ 60 := by omega
  go_enter Tryz.func131, Tryz.ntmps131
  go_wp2_with fail
  go_ret
  exact ⟨by first | rfl | (rw [HD.out]; rfl), rfl⟩
 ·have HD : Hid (decide (l.length + m ≤ 60) = false) := by simp [Hid]; omega
  have hi : ¬ ((l.length : Int) + (m : Int)) ≤ 60 := by omega
  go_enter Tryz.func131, Tryz.ntmps131
  go_wp2_with fail
  go_ret
  exact ⟨by first | rfl | (rw [HD.out]; rfl), rfl⟩
theorem BookOk.gr {row : Option Nat} {w w' : World} {base pb mt mh : Nat} {l : List Rc} {tx : List TxE} {ho : List HE} (h : BookOk w base pb mt mh l tx ho) (g : Gr row w w') (h1 : some pb ≠ row) (h2 : some mt ≠ row) (h3 : some mh ≠ row) (h4 : ∀ t ∈ tx, ∀ k, t.sv.ownBlock = some k → some k ≠ row) : BookOk w' base pb mt mh l tx ho :=
 ⟨h.blk.gr g h1, h.txs.gr g h2, h.hos.gr g h3, fun t ht => own_gr (h.own t ht) g (h4 t ht), h.apart, h.ge, h.ne, h.right, h.tells, h.all, h.hold, h.held, h.once⟩
def Mine (db pb mt mh : Nat) (tx : List TxE) (lv : Value) (k : Nat) : Prop := k = db ∨ k = pb ∨ k = mt ∨ k = mh ∨ (∃ t ∈ tx, t.sv.ownBlock = some k) ∨ lv.ownBlock = some k
theorem DeskOk.mine {w : World} {base db pb mt mh : Nat} {l : List Rc} {tx : List TxE} {ho : List HE} {p q r : Pg} {lv : Value} {safe : Int} (h : DeskOk w base db pb mt mh l tx ho p q r lv safe) {k : Nat} (hk : Mine db pb mt mh tx lv k) : k < w.heap.size := by
 rcases hk with rfl | rfl | rfl | rfl | ⟨t, ht, hk⟩ | hk
 ·exact h.blk.lt
 ·exact h.book.blk.lt
 ·exact h.book.txs.lt
 ·exact h.book.hos.lt
 ·exact own_lt (h.book.own t ht) k hk
 ·exact own_lt h.own k hk
theorem blk_eq {w : World} {k : Nat} {c d : Array Value} {t u : TypeId} (h1 : Blk w k c t) (h2 : Blk w k d u) : t = u := by
 unfold Blk at h1 h2
 rw [h1] at h2
 injection h2 with h2
 injection h2
theorem DeskOk.apart {w : World} {base db pb mt mh : Nat} {l : List Rc} {tx : List TxE} {ho : List HE} {p q r : Pg} {lv : Value} {safe : Int} (h : DeskOk w base db pb mt mh l tx ho p q r lv safe) :
  db ≠ pb ∧ db ≠ mt ∧ db ≠ mh ∧ (∀ t ∈ tx, t.sv.ownBlock ≠ some db) ∧ lv.ownBlock ≠ some db ∧ lv.ownBlock ≠ some pb ∧ lv.ownBlock ≠ some mt ∧ lv.ownBlock ≠ some mh := by
 refine ⟨?_, blk_notmap h.blk h.book.txs, blk_notmap h.blk h.book.hos, fun t ht e => own_notblk (h.book.own t ht) h.blk (by decide) db e rfl, fun e => own_notblk h.own h.blk (by decide) db e rfl, fun e => own_notblk h.own h.book.blk (by decide) pb e rfl, own_notmap h.own h.book.txs, own_notmap h.own h.book.hos⟩
 rintro rfl
 exact absurd (blk_eq h.blk h.book.blk) (by decide)
theorem add_fin {base db pb mt mh : Nat} {l : List Rc} {tx tx' : List TxE} {ho ho' : List HE} {p q s : Pg} {lv : Value} {safe : Int} {w : World} (h : DeskOk w base db pb mt mh l tx ho p q s lv safe) (r : Rc) {W w2 w3 : World} {g cap' : Nat} (E0 : Ext w W) (hWs : W.heap.size = w.heap.size + 1)
  (hbel : Below base W.drew w2) (hB2 : BookOk w2 base pb mt mh (l ++ [r]) tx' ho') (hEl : Else pb mt mh tx tx' W.drew w2) (D2 : Blk w2 db (dkCells pb p q s lv safe) 130) (own2 : w2.ownsRow base 81 8 lv l.length (flat l)) (G3 : Gr lv.ownBlock w2 w3)
  (hown' : w3.ownsRow base 81 8 (.slice (some ⟨g, 0, none⟩) (l.length + 1) cap') (l.length + 1) (flat l ++ r.cs.toList)) (hg : lv.ownBlock = some g ∨ w2.heap.size ≤ g) :
  Below base w (w3.setCell ⟨db, 13, none⟩ (.slice (some ⟨g, 0, none⟩) (l.length + 1) cap')) ∧ (∀ k, k < w.heap.size → ¬ Mine db pb mt mh tx lv k → (w3.setCell ⟨db, 13, none⟩ (.slice (some ⟨g, 0, none⟩) (l.length + 1) cap')).heap[k]? = w.heap[k]?) ∧
   DeskOk (w3.setCell ⟨db, 13, none⟩ (.slice (some ⟨g, 0, none⟩) (l.length + 1) cap')) base db pb mt mh (l ++ [r]) tx' ho' p q s (.slice (some ⟨g, 0, none⟩) (l.length + 1) cap') safe := by
 have hb0 : base ≤ w.heap.size := Nat.le_trans h.ge (Nat.le_of_lt h.blk.lt)
 have hlv : ∀ k, lv.ownBlock = some k → k < w.heap.size := fun k hk => own_lt h.own k hk
 have hdl := h.blk.lt
 have hW2 : W.heap.size ≤ w2.heap.size := hEl.size
 have hrow : ∀ t ∈ tx', ∀ k, t.sv.ownBlock = some k → lv.ownBlock ≠ some k := fun t ht k hk hl => by
  rcases hEl.rows t ht k hk with ⟨u, hu, hk2⟩ | hk2
  ·exact h.free k hl u hu hk2
  ·have : W.heap.size ≤ k := hk2
   have := hlv k hl; omega
 have D3 := D2.gr G3 (fun e => h.apart.2.2.2.2.1 e.symm)
 have B3 := hB2.gr G3 (fun e => own_notblk own2 hB2.blk (by decide) pb e.symm rfl) (fun e => own_notmap own2 hB2.txs e.symm) (fun e => own_notmap own2 hB2.hos e.symm) (fun t ht k hk e => hrow t ht k hk e.symm)
 have G4 : Gr (some db) w3 (w3.setCell ⟨db, 13, none⟩ (.slice (some ⟨g, 0, none⟩) (l.length + 1) cap')) := (Gr.refl (some db) w3).set (p := ⟨db, 13, none⟩) (Or.inr rfl) _
 have hgr : ∀ t ∈ tx', t.sv.ownBlock ≠ some g := fun t ht e => by
  rcases hg with hg | hg
  ·exact hrow t ht g e hg
  ·have := own_lt (hB2.own t ht) g e; omega
 refine ⟨?_, fun k hk hm => ?_, ?_, ?_, ?_, h.ge, fun k hk t ht e => ?_⟩
 ·have b1 : Below base w W.drew := Below.mono E0.drew hb0
  have b2 : Below base w w2 := Below.trans b1 hbel
  have b3 := below_gr b2 (by omega) G3 (fun k hk => own_from own2 k hk)
  exact Below.setCell b3 h.ge _
 ·have m1 : k ≠ db := fun e => hm (Or.inl e)
  have m2 : k ≠ pb := fun e => hm (Or.inr (Or.inl e))
  have m3 : k ≠ mt := fun e => hm (Or.inr (Or.inr (Or.inl e)))
  have m4 : k ≠ mh := fun e => hm (Or.inr (Or.inr (Or.inr (Or.inl e))))
  have m5 : ∀ t ∈ tx, t.sv.ownBlock ≠ some k := fun t ht e => hm (Or.inr (Or.inr (Or.inr (Or.inr (Or.inl ⟨t, ht, e⟩)))))
  have m6 : lv.ownBlock ≠ some k := fun e => hm (Or.inr (Or.inr (Or.inr (Or.inr (Or.inr e)))))
  have e2 : w2.heap[k]? = W.drew.heap[k]? := hEl.block k (show k < W.heap.size by omega) m2 m3 m4 m5
  rw [Below.heap_setCell _ _ _ _ m1, G3.block k (by omega) (fun e => m6 e.symm), e2]
  exact E0.block k hk
 ·exact D3.set 13 _
 ·refine B3.gr G4 (fun e => h.apart.1 (by injection e with e; exact e.symm)) (fun e => h.apart.2.1 (by injection e with e; exact e.symm)) (fun e => h.apart.2.2.1 (by injection e with e; exact e.symm)) (fun t ht k hk e => ?_)
  injection e with e
  subst e
  exact own_notblk (B3.own t ht) D3 (by decide) _ hk rfl
 ·have := own_gr hown' G4 (fun k hk e => by injection e with e; exact own_notblk hown' D3 (by decide) k hk e)
  rw [List.length_append, List.length_singleton, flat_snoc]
  exact this
 ·have hkg : k = g := by simpa [Value.ownBlock] using hk.symm
  rw [hkg] at e
  exact hgr t ht e
theorem add_ok {base db pb mt mh : Nat} {l : List Rc} {tx : List TxE} {ho : List HE} {p q s : Pg} {lv : Value} {safe : Int} (r : Rc) (w : World) (h : DeskOk w base db pb mt mh l tx ho p q s lv safe) (hs : stepErr l r = 0) :
  Calls Tryz.prog 132 #[.pointer (some ⟨db, 0, none⟩), r.val] w fun e w' => e = .returned (.int .i64 0) ∧ Below base w w' ∧ (∀ k, k < w.heap.size → ¬ Mine db pb mt mh tx lv k → w'.heap[k]? = w.heap[k]?) ∧
   ∃ tx' ho' lv', DeskOk w' base db pb mt mh (l ++ [r]) tx' ho' p q s lv' safe := by
 obtain ⟨i0, hi, hz0, hz1, hz2⟩ := info_parts infoRec
 have HI := (show Hid _ from hi)
 have Z0 := (show Hid _ from hz0)
 have Z1 := (show Hid _ from hz1)
 have Z2 := (show Hid _ from hz2)
 clear hi hz0 hz1 hz2
 have HS := (show Hid (stepErr l r = 0) from hs)
 have h60 := right_len l h.book.right
 obtain ⟨n1, n2, n3, n4, n5, n6, n7, n8⟩ := h.apart
 have HMine : Hid (∀ k, Mine db pb mt mh tx lv k → k < w.heap.size) := fun k hk => h.mine hk
 have hbase : base ≤ w.heap.size := Nat.le_trans h.ge (Nat.le_of_lt h.blk.lt)
 clear hs
 go_enter Tryz.func132, Tryz.ntmps132
 go_wp2_with fail
 have R0 := Blk.new w w.heap.size r.cs 81 rfl
 have E0 := (Ext.refl w).alloc (.cells r.cs 81)
 have h1 := h.ext E0
 have HR0 : Hid (∀ k, Mine db pb mt mh tx lv k → k ≠ w.heap.size) := fun k hk => by have := HMine.out k hk; omega
 generalize hW : w.alloc (.cells r.cs 81) = W at *
 have hWs : W.heap.size = w.heap.size + 1 := by rw [← hW]; simp
 clear hW
 have E0d := (Ext.refl W).drew
 have KC : Hid (∀ w', Blk w' w.heap.size r.cs 81 → Blk w' db (dkCells pb p q s lv safe) 130 → (∀ o, w'.cell? ⟨w.heap.size, o, none⟩ = r.cs[o]?) ∧ w'.cell? ⟨db, 0, none⟩ = some (.pointer (some ⟨pb, 0, none⟩))) := fun w' x y => ⟨x.cell, by rw [y.cell]; rfl⟩
 refine wp_region_held_drew (S := fun w' => (∀ o, w'.cell? ⟨w.heap.size, o, none⟩ = r.cs[o]?) ∧ w'.cell? ⟨db, 0, none⟩ = some (.pointer (some ⟨pb, 0, none⟩))) (by kernel_rfl) (KC.out _ (R0.ext E0d) (h1.blk.ext E0d)) (fun hHeld => ?_)
 refine tkn 0 rfl hHeld ?_
 simp only [Act.put]
 refine tkn 1 rfl hHeld ?_
 simp only [Act.put]
 refine tkn 2 rfl hHeld ?_
 simp only [Act.put]
 refine tkn 3 rfl hHeld ?_
 simp only [Act.put]
 refine tkn 4 rfl hHeld ?_
 simp only [Act.put]
 refine exn 5 rfl fun K hK => ?_
 go_simp
 have hp := put_more r W.drew (h1.book.ext E0d)
 rw [HS.out] at hp
 refine hp.mono ?_
 rintro e w2 ⟨rfl, hbel, hgo⟩
 obtain ⟨tx', ho', hB2, hEl⟩ := hgo rfl
 have HKeep : Hid (∀ k, k < W.heap.size → k ≠ pb → k ≠ mt → k ≠ mh → (∀ t ∈ tx, t.sv.ownBlock ≠ some k) → w2.heap[k]? = W.heap[k]?) := fun k a b c d e => hEl.block k a b c d e
 have R2 : Blk w2 w.heap.size r.cs 81 := by
  have := HKeep.out w.heap.size (by omega) (fun e => HR0.out pb (Or.inr (Or.inl rfl)) e.symm) (fun e => HR0.out mt (Or.inr (Or.inr (Or.inl rfl))) e.symm) (fun e => HR0.out mh (Or.inr (Or.inr (Or.inr (Or.inl rfl)))) e.symm) (fun t ht e => HR0.out _ (Or.inr (Or.inr (Or.inr (Or.inr (Or.inl ⟨t, ht, e⟩))))) rfl)
  unfold Blk; rw [this]; exact R0
 have D2 : Blk w2 db (dkCells pb p q s lv safe) 130 := by
  have := HKeep.out db h1.blk.lt n1 n2 n3 n4
  unfold Blk; rw [this]; exact h1.blk
 have own2 : w2.ownsRow base 81 8 lv l.length (flat l) := by
  obtain ⟨o1, o2⟩ := h1.own
  refine ⟨o1, ?_⟩
  rcases o2 with o2 | ⟨g, cap, cur, e, hg, hb, rest⟩
  ·exact Or.inl o2
  ·have hgk : lv.ownBlock = some g := by rw [e]; rfl
   refine Or.inr ⟨g, cap, cur, e, hg, ?_, rest⟩
   rw [HKeep.out g (own_lt h1.own g hgk) (fun x => n6 (by rw [hgk, x])) (fun x => n7 (by rw [hgk, x])) (fun x => n8 (by rw [hgk, x])) (fun t ht x => h.free g hgk t ht x)]
   exact hb
 go_wp2_with fail
 clear hHeld
 refine hK.out _ _ (KC.out _ R2 D2) (fun hHeld => ?_)
 clear hK K hp
 refine tkn 6 rfl hHeld ?_
 simp only [Act.put]
 refine wpAnyH_done (by kernel_rfl) ?_ _
 clear hHeld KC
 obtain ⟨la, sm, lcap, rfl⟩ := own_slice own2
 obtain rfl := own_len own2
 go_wp2_with fail
 have E2d := (Ext.refl w2).drew
 have c13 : ∀ w', Ext w2 w' → w'.cell? ⟨db, 13, none⟩ = some (.slice la l.length lcap) := fun w' e => by rw [(D2.ext e).cell]; rfl
 have C13 := (show Hid _ from c13)
 clear c13
 refine wp_region_held_drew (S := fun w' => ∀ o, w'.cell? ⟨w.heap.size, o, none⟩ = r.cs[o]?) (by kernel_rfl) (R2.ext E2d).cell (fun hHeld => ?_)
 refine tkn 0 rfl hHeld ?_
 simp only [Act.put]
 refine tkn 1 rfl hHeld ?_
 simp only [Act.put]
 refine tkn 2 rfl hHeld ?_
 simp only [Act.put]
 refine tkn 3 rfl hHeld ?_
 simp only [Act.put]
 refine tkn 5 rfl hHeld ?_
 simp only [Act.put]
 have V0 := (Ext.refl w2).drew.alloc (.cells r.cs 81)
 have hbw2 : base ≤ w2.heap.size := by have : W.heap.size ≤ w2.heap.size := hEl.size; omega
 refine wpAnyH_ready (rs := [4, 6]) (by kernel_rfl) (by simp) ?_
 refine AllReadyH.cons rfl (fun K hK => ?_) (AllReadyH.cons rfl (fun K hK => ?_) AllReadyH.nil)
 ·have c := C13.out w2.drew E2d
  go_simp
  refine hK.out _ _ (R2.ext E2d).cell (fun hHeld => ?_)
  clear hK K
  refine exn 6 rfl fun K hK => ?_
  go_simp
  refine hK.out _ _ (R2.ext V0).cell (fun hHeld => ?_)
  clear hK K c
  refine wpAnyH_ready (rs := [7]) (by kernel_rfl) (by simp) ?_
  refine AllReadyH.cons rfl (fun K hK => ?_) AllReadyH.nil
  refine step_append_lies _ rfl _ _ 36 rfl base 81 i0 (.agg #[.int .i64 0, .int .i64 0, .int .i64 0, .int .i64 0, .int .i64 0, .int .i64 0, .int .i64 0, .int .i64 0]) 8 64 Tryz.underlying36 HI.out Z0.out Z1.out Z2.out rfl (by decide) (.slice la l.length lcap) l.length (flat l) rfl (own_ext own2 V0) ⟨w2.heap.size, 0, none⟩ 1 1 r.cs.toList rfl rfl (cells_new _ r.cs.toList _ _ rfl) (cs_oneCell r) (by decide) (by unfold maxLen; omega) (by omega) (by simp; omega) _ rfl ?_
  intro g cap' w3 hown' hgrow hg hgl
  have G3 : Gr (Value.slice la l.length lcap).ownBlock w2 w3 := (Gr.of_ext V0).trans hgrow
  have R3 := R2.gr G3 (fun e => by have := HMine.out _ (Or.inr (Or.inr (Or.inr (Or.inr (Or.inr e.symm))))); omega)
  have D3 := D2.gr G3 (fun e => n5 e.symm)
  have hg2 : (Value.slice la l.length lcap).ownBlock = some g ∨ w2.heap.size ≤ g := by
   rcases hg with hg | hg
   ·exact Or.inl hg
   ·exact Or.inr (by simp at hg; omega)
  refine hK.out _ _ R3.cell (fun hHeld => ?_)
  clear hK K
  refine tkn 8 rfl hHeld ?_
  simp only [Act.put]
  refine tkn 9 rfl hHeld ?_
  simp only [Act.put]
  have c13 : w3.cell? ⟨db, 13, none⟩ = some (.slice la l.length lcap) := by rw [D3.cell]; rfl
  have f13 := D3.fr 13
  refine exn 10 rfl fun K hK => ?_
  go_simp
  have R4 := R3.other ⟨db, 13, none⟩ (.slice (some ⟨g, 0, none⟩) (l.length + 1) cap') (fun e => HR0.out db (Or.inl rfl) e.symm)
  refine hK.out _ _ R4.cell (fun hHeld => ?_)
  clear hK K
  refine wpAnyH_done (by kernel_rfl) ?_ _
  clear hHeld c13 f13
  have hfin := add_fin h r E0 hWs hbel hB2 hEl D2 own2 G3 hown' hg2
  go_wp2_with fail
  go_ret
  exact ⟨rfl, hfin.1, hfin.2.1, tx', ho', _, hfin.2.2⟩
 ·go_simp
  refine hK.out _ _ (R2.ext V0).cell (fun hHeld => ?_)
  clear hK K
  have c : (w2.alloc (.cells #[.int .i64 r.kind, .int .i64 r.txn, .int .i64 r.prev, .int .i64 r.page, .int .i64 r.cell, .int .i64 r.old, .int .i64 r.new, .int .i64 r.next] 81)).cell? ⟨db, 13, none⟩ = some (.slice la l.length lcap) := C13.out _ ((Ext.refl w2).alloc _)
  refine exn 4 rfl fun K hK => ?_
  go_simp
  refine hK.out _ _ (R2.ext V0).cell (fun hHeld => ?_)
  clear hK K c
  refine wpAnyH_ready (rs := [7]) (by kernel_rfl) (by simp) ?_
  refine AllReadyH.cons rfl (fun K hK => ?_) AllReadyH.nil
  refine step_append_lies _ rfl _ _ 36 rfl base 81 i0 (.agg #[.int .i64 0, .int .i64 0, .int .i64 0, .int .i64 0, .int .i64 0, .int .i64 0, .int .i64 0, .int .i64 0]) 8 64 Tryz.underlying36 HI.out Z0.out Z1.out Z2.out rfl (by decide) (.slice la l.length lcap) l.length (flat l) rfl (own_ext own2 V0) ⟨w2.heap.size, 0, none⟩ 1 1 r.cs.toList rfl rfl (cells_new _ r.cs.toList _ _ rfl) (cs_oneCell r) (by decide) (by unfold maxLen; omega) (by omega) (by simp; omega) _ rfl ?_
  intro g cap' w3 hown' hgrow hg hgl
  have G3 : Gr (Value.slice la l.length lcap).ownBlock w2 w3 := (Gr.of_ext V0).trans hgrow
  have R3 := R2.gr G3 (fun e => by have := HMine.out _ (Or.inr (Or.inr (Or.inr (Or.inr (Or.inr e.symm))))); omega)
  have D3 := D2.gr G3 (fun e => n5 e.symm)
  have hg2 : (Value.slice la l.length lcap).ownBlock = some g ∨ w2.heap.size ≤ g := by
   rcases hg with hg | hg
   ·exact Or.inl hg
   ·exact Or.inr (by simp at hg; omega)
  refine hK.out _ _ R3.cell (fun hHeld => ?_)
  clear hK K
  refine tkn 8 rfl hHeld ?_
  simp only [Act.put]
  refine tkn 9 rfl hHeld ?_
  simp only [Act.put]
  have c13 : w3.cell? ⟨db, 13, none⟩ = some (.slice la l.length lcap) := by rw [D3.cell]; rfl
  have f13 := D3.fr 13
  refine exn 10 rfl fun K hK => ?_
  go_simp
  have R4 := R3.other ⟨db, 13, none⟩ (.slice (some ⟨g, 0, none⟩) (l.length + 1) cap') (fun e => HR0.out db (Or.inl rfl) e.symm)
  refine hK.out _ _ R4.cell (fun hHeld => ?_)
  clear hK K
  refine wpAnyH_done (by kernel_rfl) ?_ _
  clear hHeld c13 f13
  have hfin := add_fin h r E0 hWs hbel hB2 hEl D2 own2 G3 hown' hg2
  go_wp2_with fail
  go_ret
  exact ⟨rfl, hfin.1, hfin.2.1, tx', ho', _, hfin.2.2⟩
theorem busy_taken {l : List Rc} (hR : Right l) {t p c : Int} {x : Int × Int} (h : HoldOk l (p, c) x) : (decide (0 < x.2) && x.1 != t) = takenR l t p c := by
 rw [Bool.eq_iff_iff, taken_iff hR]
 simp only [Bool.and_eq_true, decide_eq_true_eq, bne_iff_ne]
 constructor
 ·rintro ⟨h1, h2⟩
  exact ⟨x.1, h2, h.1 h1⟩
 ·rintro ⟨u, hu, h1⟩
  obtain ⟨h2, h3⟩ := h.2 u h1
  exact ⟨h2, by rw [h3]; exact hu⟩
theorem write_any {base db pb mt mh : Nat} {l : List Rc} {tx : List TxE} {ho : List HE} {p q s : Pg} {lv : Value} {safe : Int} (t at_ c v : Int) (w : World) (h : DeskOk w base db pb mt mh l tx ho p q s lv safe) :
  Calls Tryz.prog 99 #[.pointer (some ⟨db, 0, none⟩), .int .i64 t, keyP (at_, c), .int .i64 v] w fun e w' => e = .returned (.int .i64 (writeErr l t at_ c v)) ∧ Below base w w' ∧
   (writeErr l t at_ c v = 0 → ∃ tx' ho' lv', DeskOk w' base db pb mt mh (l ++ [writeRec l t at_ c v]) tx' ho' p q s lv' safe) := by
 have hbase : base ≤ w.heap.size := Nat.le_trans h.ge (Nat.le_of_lt h.blk.lt)
 have hR := h.book.right
 have h60 := right_len l hR
 obtain ⟨sv, hlk, hown, _⟩ := h.book.look t
 obtain ⟨sa, sm, scap, rfl⟩ := own_slice hown
 clear hown
 obtain ⟨x, hx, hok, _⟩ := h.book.lookHold (at_, c)
 have HT : Hid ((decide (0 < x.2) && x.1 != t) = takenR l t at_ c) := busy_taken hR hok
 have HX := (show Hid (lookP (ho.map hoEnt) (at_, c) (hoVal (0, 0)) = hoVal x) from hx)
 clear hx hok
 have HMine : Hid (∀ k, Mine db pb mt mh tx lv k → k < w.heap.size) := fun k hk => h.mine hk
 have W3 : Hid (noneB t at_ c v = true → writeErr l t at_ c v = 3) := writeErr_3
 have W6 : Hid (noneB t at_ c v = false → 1 < stateR l t → writeErr l t at_ c v = 6) := writeErr_6
 have W5 : Hid (noneB t at_ c v = false → ¬ 1 < stateR l t → takenR l t at_ c = true → writeErr l t at_ c v = 5) := writeErr_5
 have W2 : Hid (noneB t at_ c v = false → ¬ 1 < stateR l t → takenR l t at_ c = false → 60 ≤ l.length → writeErr l t at_ c v = 2) := writeErr_2
 have W0 : Hid (noneB t at_ c v = false → ¬ 1 < stateR l t → takenR l t at_ c = false → ¬ 60 ≤ l.length → writeErr l t at_ c v = 0 ∧ stepErr l (writeRec l t at_ c v) = 0) := fun a b c d => ⟨writeErr_0 a b c d, write_ok hR (writeErr_0 a b c d)⟩
 have HWR : Hid (writeRec l t at_ c v = ⟨1, t, (lastR l t : Nat), at_, c, (pagesR l).getD (at_.toNat * 4 + c.toNat) 0, v, 0⟩) := rfl
 obtain ⟨old, hold⟩ : ∃ o, (pagesR l).getD (at_.toNat * 4 + c.toNat) 0 = o := ⟨_, rfl⟩
 have HOld := (show Hid ((pagesR l).getD (at_.toNat * 4 + c.toNat) 0 = old) from hold)
 rw [hold] at HWR
 clear hold
 have HNB : Hid (noneB t at_ c v = false → (0 ≤ at_ ∧ at_ ≤ 2) ∧ (0 ≤ c ∧ c ≤ 2)) := fun hn => ⟨(noneB_false hn).2.1, (noneB_false hn).2.2.1⟩
 generalize writeErr l t at_ c v = we at *
 generalize writeRec l t at_ c v = wr at *
 generalize takenR l t at_ c = tk at *
 have E0 := (Ext.refl w).alloc (.cells #[.int .i64 at_, .int .i64 c] 124)
 have A0 := Blk.new w w.heap.size #[.int .i64 at_, .int .i64 c] 124 rfl
 have h0 := h.ext E0
 have c0 : (w.alloc (.cells #[.int .i64 at_, .int .i64 c] 124)).cell? ⟨db, 0, none⟩ = some (.pointer (some ⟨pb, 0, none⟩)) := by rw [h0.blk.cell]; rfl
 have c12 : (w.alloc (.cells #[.int .i64 at_, .int .i64 c] 124)).cell? ⟨pb, 12, none⟩ = some (.map (some mt)) := by rw [h0.book.blk.cell]; exact (bookCells_12 _ mt mh _ (pagesR_len l)).1
 have hrun : (Instr.lookup 131 (.map (some mt)) (.int .i64 t) false).run Tryz.prog (w.alloc (.cells #[.int .i64 at_, .int .i64 c] 124)) = .ok (txVal (stateR l t) (lastR l t : Nat) (.slice sa sm scap)) (w.alloc (.cells #[.int .i64 at_, .int .i64 c] 124)) := by rw [run_lookI h0.book.txs t]; exact congrArg (fun v => Result.ok v _) hlk
 have T0 := Blk.new (w.alloc (.cells #[.int .i64 at_, .int .i64 c] 124)) (w.heap.size + 1) #[.int .i64 (stateR l t), .int .i64 (lastR l t : Nat), .slice sa sm scap] 150 (by simp)
 have E1 := E0.alloc (.cells #[.int .i64 (stateR l t), .int .i64 (lastR l t : Nat), .slice sa sm scap] 150)
 have A1 := A0.alloc (.cells #[.int .i64 (stateR l t), .int .i64 (lastR l t : Nat), .slice sa sm scap] 150)
 clear hlk h0 A0 E0
 have a1 := A1.cell
 go_enter Tryz.func99, Tryz.ntmps99
 go_wp2_with fail
 refine (noneOfSuch_any t at_ c v _).mono ?_
 rintro e w1 ⟨rfl, hw1⟩
 replace A1 := A1.ext hw1
 replace T0 := T0.ext hw1
 replace E1 := E1.trans hw1
 clear hw1 c0 c12 hrun a1
 cases hn : noneB t at_ c v
 ·have HN := (show Hid (noneB t at_ c v = false) from hn)
  obtain ⟨⟨p0, p2⟩, q0, q2⟩ := HNB.out hn
  clear hn W3 HNB
  have t1 := T0.cell
  by_cases hst : 1 < stateR l t
  ·have hwe := W6.out HN.out hst
   have HWE := (show Hid (we = _) from hwe)
   clear hwe
   go_wp2_with fail
   go_ret
   exact ⟨by rw [HWE.out]; rfl, Below.mono E1 hbase, fun h => by rw [HWE.out] at h; cases h⟩
  ·have HST := (show Hid (¬ 1 < stateR l t) from hst)
   go_wp2_with fail
   refine wp_region_calm (by kernel_rfl) (by kernel_rfl) (fun F hF => ?_)
   have ac := hF.cell A1
   have dc := hF.cell (h.ext E1).blk
   have HC : Hid (∀ y, Calls Tryz.prog 130 #[.pointer (some ⟨pb, 0, none⟩), keyP (at_, c), .int .i64 t] (F y) fun e w' => e = .returned (.bool tk) ∧ Ext (F y) w') := fun y => by have hh := busy_any (at_, c) t x (F y) (h.ext (E1.trans (hF.ext y))).book HX.out; rw [HT.out] at hh; exact hh
   repeat (go_big_quiet_step ((go_at_call 130; exact hF.call (HC.out _))))
   refine wpQuiet_nil ?_
   rintro _ ⟨y, rfl⟩
   have A2 := A1.ext (hF.ext y)
   have T2 := T0.ext (hF.ext y)
   have E2 := E1.trans (hF.ext y)
   generalize F y = w2 at *
   clear ac dc HC hF t1 A1 T0 E1 HX
   cases tk
   ·have h2 := h.ext E2
    go_wp2_with fail
    refine (room_any 1 _ h2 (by omega)).mono ?_
    rintro e w3 ⟨rfl, rfl⟩
    by_cases hroom : l.length + 1 ≤ 60
    ·have hb1 : decide (l.length + 1 ≤ 60) = true := by simpa using hroom
     rw [hb1]
     obtain ⟨hwe, hse⟩ := W0.out HN.out HST.out (by trivial) (by omega)
     have HWE := (show Hid (we = 0) from hwe)
     clear hwe
     have hwr := HWR.out
     subst hwr
     clear W6 W5 W2 W0 hb1 hst
     go_wp2_with fail
     have p3 : at_ < 3 := by omega
     have q3 : c < 3 := by omega
     have KC : Hid (∀ w', Blk w' w.heap.size #[.int .i64 at_, .int .i64 c] 124 → Blk w' (w.heap.size + 1) #[.int .i64 (stateR l t), .int .i64 (lastR l t : Nat), .slice sa sm scap] 150 → w'.cell? ⟨db, 0, none⟩ = some (.pointer (some ⟨pb, 0, none⟩)) → (∀ o, w'.cell? ⟨w.heap.size, o, none⟩ = #[.int .i64 at_, .int .i64 c][o]?) ∧ (∀ o, w'.cell? ⟨w.heap.size + 1, o, none⟩ = #[.int .i64 (stateR l t), .int .i64 (lastR l t : Nat), .slice sa sm scap][o]?) ∧ w'.cell? ⟨db, 0, none⟩ = some (.pointer (some ⟨pb, 0, none⟩))) := fun w' x y z => ⟨x.cell, y.cell, z⟩
     have E3d := (Ext.refl w3).drew
     have c0 : w3.drew.cell? ⟨db, 0, none⟩ = some (.pointer (some ⟨pb, 0, none⟩)) := by rw [(h2.ext E3d).blk.cell]; rfl
     refine wp_region_held_drew (S := fun w' => (∀ o, w'.cell? ⟨w.heap.size, o, none⟩ = #[.int .i64 at_, .int .i64 c][o]?) ∧ (∀ o, w'.cell? ⟨w.heap.size + 1, o, none⟩ = #[.int .i64 (stateR l t), .int .i64 (lastR l t : Nat), .slice sa sm scap][o]?) ∧ w'.cell? ⟨db, 0, none⟩ = some (.pointer (some ⟨pb, 0, none⟩))) (by kernel_rfl) (KC.out _ (A2.ext E3d) (T2.ext E3d) c0) (fun hHeld => ?_)
     refine tkn 0 rfl hHeld ?_
     simp only [Act.put]
     refine tkn 1 rfl hHeld ?_
     simp only [Act.put]
     refine tkn 2 rfl hHeld ?_
     simp only [Act.put]
     refine tkn 3 rfl hHeld ?_
     simp only [Act.put]
     refine tkn 4 rfl hHeld ?_
     simp only [Act.put]
     refine tkn 5 rfl hHeld ?_
     simp only [Act.put]
     refine tkn 6 rfl hHeld ?_
     simp only [Act.put]
     refine tkn 7 rfl hHeld ?_
     simp only [Act.put]
     refine tkn 8 rfl hHeld ?_
     simp only [Act.put]
     refine tkn 9 rfl hHeld ?_
     simp only [Act.put]
     refine tkn 10 rfl hHeld ?_
     simp only [Act.put]
     refine tkn 11 rfl hHeld ?_
     simp only [Act.put]
     refine tkn 12 rfl hHeld ?_
     simp only [Act.put]
     refine tkn 13 rfl hHeld ?_
     simp only [Act.put]
     refine tkn 14 rfl hHeld ?_
     simp only [Act.put]
     refine tkn 15 rfl hHeld ?_
     simp only [Act.put]
     refine tkn 16 rfl hHeld ?_
     simp only [Act.put]
     refine tkn 17 rfl hHeld ?_
     simp only [Act.put]
     refine tkn 18 rfl hHeld ?_
     simp only [Act.put]
     refine tkn 19 rfl hHeld ?_
     simp only [Act.put]
     refine tkn 20 rfl hHeld ?_
     simp only [Act.put]
     refine tkn 22 rfl hHeld ?_
     simp only [Act.put]
     have c3 : w3.cell? ⟨pb, at_.toNat * 4 + c.toNat, none⟩ = some (.int .i64 old) := by rw [h2.book.blk.cell, bookCells_page _ mt mh _ (pagesR_len l) _ (by omega), HOld.out]
     refine exn 21 rfl fun K hK => ?_
     go_simp
     refine hK.out _ _ hHeld (fun hHeld => ?_)
     clear hK K c3
     refine tkn 23 rfl hHeld ?_
     simp only [Act.put]
     refine exn 24 rfl fun K hK => ?_
     go_simp
     refine (add_ok ⟨1, t, (lastR l t : Nat), at_, c, old, v, 0⟩ _ (h2.ext E3d) hse).mono ?_
     rintro e w4 ⟨rfl, hbel, hfr, tx', ho', lv', hD⟩
     have hsz := E2.size
     have hpl := A2.lt
     have htl := T2.lt
     have A4 : Blk w4 w.heap.size #[.int .i64 at_, .int .i64 c] 124 := by
      have := hfr w.heap.size hpl (fun hm => by have := HMine.out _ hm; omega)
      unfold Blk; rw [this]; exact A2
     have T4 : Blk w4 (w.heap.size + 1) #[.int .i64 (stateR l t), .int .i64 (lastR l t : Nat), .slice sa sm scap] 150 := by
      have := hfr (w.heap.size + 1) htl (fun hm => by have := HMine.out _ hm; omega)
      unfold Blk; rw [this]; exact T2
     have c4 : w4.cell? ⟨db, 0, none⟩ = some (.pointer (some ⟨pb, 0, none⟩)) := by rw [hD.blk.cell]; rfl
     go_wp2_with fail
     clear hHeld hfr
     refine hK.out _ _ (KC.out _ A4 T4 c4) (fun hHeld => ?_)
     clear hK K
     refine exn 25 rfl fun K hK => ?_
     go_simp
     refine hK.out _ _ (KC.out _ A4 T4 c4) (fun hHeld => ?_)
     clear hK K
     refine wpAnyH_done (by kernel_rfl) ?_ _
     clear hHeld KC c4
     go_wp2_with fail
     go_ret
     exact ⟨by rw [HWE.out]; rfl, Below.trans (Below.mono E2.drew hbase) hbel, fun _ => ⟨tx', ho', lv', hD⟩⟩
    ·have hb1 : decide (l.length + 1 ≤ 60) = false := by simpa using hroom
     rw [hb1]
     have hwe := W2.out HN.out HST.out (by trivial) (by omega)
     have HWE := (show Hid (we = _) from hwe)
     clear hwe
     go_wp2_with fail
     go_ret
     exact ⟨by rw [HWE.out]; rfl, Below.mono E2 hbase, fun h => by rw [HWE.out] at h; cases h⟩
   ·have hwe := W5.out HN.out HST.out (by trivial)
    have HWE := (show Hid (we = _) from hwe)
    clear hwe
    go_wp2_with fail
    go_ret
    exact ⟨by rw [HWE.out]; rfl, Below.mono E2 hbase, fun h => by rw [HWE.out] at h; cases h⟩
 ·have HN := (show Hid (noneB t at_ c v = true) from hn)
  have hwe := W3.out HN.out
  have HWE := (show Hid (we = _) from hwe)
  clear hwe
  go_wp2_with fail
  go_ret
  exact ⟨by rw [HWE.out]; rfl, Below.mono E1 hbase, fun h => by rw [HWE.out] at h; cases h⟩
theorem DeskOk.setSafe {w : World} {base db pb mt mh : Nat} {l : List Rc} {tx : List TxE} {ho : List HE} {p q s : Pg} {lv : Value} {safe : Int} (h : DeskOk w base db pb mt mh l tx ho p q s lv safe) (n : Int) :
  DeskOk (w.setCell ⟨db, 14, none⟩ (.int .i64 n)) base db pb mt mh l tx ho p q s lv n := by
 obtain ⟨n1, n2, n3, n4, n5, _⟩ := h.apart
 have G : Gr (some db) w (w.setCell ⟨db, 14, none⟩ (.int .i64 n)) := (Gr.refl (some db) w).set (p := ⟨db, 14, none⟩) (Or.inr rfl) _
 refine ⟨h.blk.set 14 _, ?_, ?_, h.ge, h.free⟩
 ·refine h.book.gr G (fun e => n1 (by injection e with e; exact e.symm)) (fun e => n2 (by injection e with e; exact e.symm)) (fun e => n3 (by injection e with e; exact e.symm)) (fun t ht k hk e => ?_)
  injection e with e
  subst e
  exact n4 t ht hk
 ·exact own_gr h.own G (fun k hk e => by injection e with e; rw [e] at hk; exact n5 hk)
theorem commit_any {base db pb mt mh : Nat} {l : List Rc} {tx : List TxE} {ho : List HE} {p q s : Pg} {lv : Value} {safe : Int} (t : Int) (w : World) (h : DeskOk w base db pb mt mh l tx ho p q s lv safe) :
  Calls Tryz.prog 101 #[.pointer (some ⟨db, 0, none⟩), .int .i64 t] w fun e w' => e = .returned (.int .i64 (commitErr l t)) ∧ Below base w w' ∧
   (commitErr l t = 0 → ∃ tx' ho' lv', DeskOk w' base db pb mt mh ((l ++ [commitRec l t]) ++ [endRec l t]) tx' ho' p q s lv' (l.length + 1 : Nat)) := by
 have hbase : base ≤ w.heap.size := Nat.le_trans h.ge (Nat.le_of_lt h.blk.lt)
 have h60 := right_len l h.book.right
 obtain ⟨sv, hlk, hown, _⟩ := h.book.look t
 obtain ⟨sa, sm, scap, rfl⟩ := own_slice hown
 clear hown
 have W3 : Hid (out 1 9 [t] = true → commitErr l t = 3) := commitErr_3
 have W7 : Hid (out 1 9 [t] = false → stateR l t = 0 → commitErr l t = 7) := commitErr_7
 have W6 : Hid (out 1 9 [t] = false → ¬ stateR l t = 0 → 1 < stateR l t → commitErr l t = 6) := commitErr_6
 have W2 : Hid (out 1 9 [t] = false → ¬ stateR l t = 0 → ¬ 1 < stateR l t → 59 ≤ l.length → commitErr l t = 2) := commitErr_2
 have W0 : Hid (out 1 9 [t] = false → ¬ stateR l t = 0 → ¬ 1 < stateR l t → ¬ 59 ≤ l.length → commitErr l t = 0 ∧ stepErr l (commitRec l t) = 0 ∧ stepErr (l ++ [commitRec l t]) (endRec l t) = 0) := fun a b c d => ⟨commitErr_0 a b c d, commit_ok (commitErr_0 a b c d), end_ok (commitErr_0 a b c d)⟩
 have HC : Hid (commitRec l t = ⟨2, t, (lastR l t : Nat), 0, 0, 0, 0, 0⟩) := rfl
 have HE : Hid (endRec l t = ⟨4, t, (l.length + 1 : Nat), 0, 0, 0, 0, 0⟩) := rfl
 generalize commitErr l t = we at *
 generalize commitRec l t = cr at *
 generalize endRec l t = er at *
 have c0 : w.cell? ⟨db, 0, none⟩ = some (.pointer (some ⟨pb, 0, none⟩)) := by rw [h.blk.cell]; rfl
 have c12 : w.cell? ⟨pb, 12, none⟩ = some (.map (some mt)) := by rw [h.book.blk.cell]; exact (bookCells_12 _ mt mh _ (pagesR_len l)).1
 have hrun : (Instr.lookup 131 (.map (some mt)) (.int .i64 t) false).run Tryz.prog w = .ok (txVal (stateR l t) (lastR l t : Nat) (.slice sa sm scap)) w := by rw [run_lookI h.book.txs t]; exact congrArg (fun v => Result.ok v _) hlk
 have T0 := (Blk.new w w.heap.size #[.int .i64 (stateR l t), .int .i64 (lastR l t : Nat), .slice sa sm scap] 150 rfl).alloc (.cells #[.int .i64 t] 3)
 have E1 := ((Ext.refl w).alloc (.cells #[.int .i64 (stateR l t), .int .i64 (lastR l t : Nat), .slice sa sm scap] 150)).alloc (.cells #[.int .i64 t] 3)
 clear hlk
 go_enter Tryz.func101, Tryz.ntmps101
 go_wp2_with fail
 refine (outside_n 1 1 9 _ 0 1 [t] _ rfl (by decide) (cells1 (by simp [go_sem]))).mono ?_
 rintro e w1 ⟨rfl, rfl⟩
 clear c0 c12 hrun
 generalize (w.alloc (.cells #[.int .i64 (stateR l t), .int .i64 (lastR l t : Nat), .slice sa sm scap] 150)).alloc (.cells #[.int .i64 t] 3) = w1 at *
 cases hn : out 1 9 [t]
 ·have HN := (show Hid (out 1 9 [t] = false) from hn)
  clear hn W3
  have t1 := T0.cell
  by_cases hs0 : stateR l t = 0
  ·have hwe := W7.out HN.out hs0
   have HWE := (show Hid (we = 7) from hwe)
   have hb : (stateR l t == 0) = true := by simpa using hs0
   clear hwe hs0
   go_wp2_with fail
   go_ret
   exact ⟨by rw [HWE.out]; rfl, Below.mono E1 hbase, fun h => by rw [HWE.out] at h; cases h⟩
  ·have HS0 := (show Hid (¬ stateR l t = 0) from hs0)
   have hb : (stateR l t == 0) = false := by simpa using hs0
   clear hs0
   by_cases hst : 1 < stateR l t
   ·have hwe := W6.out HN.out HS0.out hst
    have HWE := (show Hid (we = 6) from hwe)
    clear hwe
    go_wp2_with fail
    go_ret
    exact ⟨by rw [HWE.out]; rfl, Below.mono E1 hbase, fun h => by rw [HWE.out] at h; cases h⟩
   ·have HST := (show Hid (¬ 1 < stateR l t) from hst)
    have h1 := h.ext E1
    go_wp2_with fail
    refine (room_any 2 _ h1 (by omega)).mono ?_
    rintro e w2 ⟨rfl, rfl⟩
    by_cases hroom : l.length + 2 ≤ 60
    ·have hb1 : decide (l.length + 2 ≤ 60) = true := by simpa using hroom
     rw [hb1]
     obtain ⟨hwe, hse, hse2⟩ := W0.out HN.out HS0.out HST.out (by omega)
     have HWE := (show Hid (we = 0) from hwe)
     have HSE2 := (show Hid (stepErr (l ++ [cr]) er = 0) from hse2)
     have hcr := HC.out
     subst hcr
     clear W7 W6 W2 W0 hb1 hwe hse2
     go_wp2_with fail
     refine (add_ok ⟨2, t, (lastR l t : Nat), 0, 0, 0, 0, 0⟩ _ h1 hse).mono ?_
     rintro e w3 ⟨rfl, hbel, _, tx', ho', lv', hD⟩
     have hB3 : Below base w w3 := Below.trans (Below.mono E1 hbase) hbel
     clear hse
     generalize hl1 : l ++ [(⟨2, t, (lastR l t : Nat), 0, 0, 0, 0, 0⟩ : Rc)] = l1 at *
     have hlen1 : l1.length = l.length + 1 := by rw [← hl1]; simp
     have HL1 := (show Hid (l ++ [(⟨2, t, (lastR l t : Nat), 0, 0, 0, 0, 0⟩ : Rc)] = l1) from hl1)
     clear hl1
     have c0 : w3.cell? ⟨db, 0, none⟩ = some (.pointer (some ⟨pb, 0, none⟩)) := by rw [hD.blk.cell]; rfl
     have c14 : w3.cell? ⟨pb, 14, none⟩ = some (.int .i64 ((l.length : Int) + 1)) := by rw [hD.book.blk.cell, (bookCells_12 _ mt mh _ (pagesR_len l1)).2.2, hlen1]; rfl
     have d14 : w3.cell? ⟨db, 14, none⟩ = some (.int .i64 safe) := by rw [hD.blk.cell]; rfl
     have f14 := hD.blk.fr 14
     have hD4 := hD.setSafe ((l.length : Int) + 1)
     have k0 : (w3.setCell ⟨db, 14, none⟩ (.int .i64 ((l.length : Int) + 1))).cell? ⟨db, 0, none⟩ = some (.pointer (some ⟨pb, 0, none⟩)) := by rw [hD4.blk.cell]; rfl
     have k14 : (w3.setCell ⟨db, 14, none⟩ (.int .i64 ((l.length : Int) + 1))).cell? ⟨pb, 14, none⟩ = some (.int .i64 ((l.length : Int) + 1)) := by rw [hD4.book.blk.cell, (bookCells_12 _ mt mh _ (pagesR_len l1)).2.2, hlen1]; rfl
     have her := HE.out
     rw [show ((l.length + 1 : Nat) : Int) = (l.length : Int) + 1 from rfl] at her
     subst her
     have hB4 : Below base w (w3.setCell ⟨db, 14, none⟩ (.int .i64 ((l.length : Int) + 1))) := Below.setCell hB3 hD.ge _
     go_wp2_with fail
     refine (add_ok ⟨4, t, (l.length : Int) + 1, 0, 0, 0, 0, 0⟩ _ hD4 HSE2.out).mono ?_
     rintro e w5 ⟨rfl, hbel5, _, tx2, ho2, lv2, hD5⟩
     go_wp2_with fail
     go_ret
     exact ⟨by rw [HWE.out]; rfl, Below.trans hB4 hbel5, fun _ => ⟨tx2, ho2, lv2, by rw [HL1.out]; exact hD5⟩⟩
    ·have hb1 : decide (l.length + 2 ≤ 60) = false := by simpa using hroom
     rw [hb1]
     have hwe := W2.out HN.out HS0.out HST.out (by omega)
     have HWE := (show Hid (we = 2) from hwe)
     clear hwe
     go_wp2_with fail
     go_ret
     exact ⟨by rw [HWE.out]; rfl, Below.mono E1 hbase, fun h => by rw [HWE.out] at h; cases h⟩
 ·have HN := (show Hid (out 1 9 [t] = true) from hn)
  have hwe := W3.out HN.out
  have HWE := (show Hid (we = 3) from hwe)
  clear hwe
  go_wp2_with fail
  go_ret
  exact ⟨by rw [HWE.out]; rfl, Below.mono E1 hbase, fun h => by rw [HWE.out] at h; cases h⟩
abbrev noPg : Pg := ⟨0, 0, 0, 0⟩
def WorkAns (base : Nat) (w' : World) (e : Ending) (p q r : Pg) (x : Int) (l' : List Rc) (safe' : Int) : Prop :=
 (x = 0 ∧ ∃ a cap, e = .returned (.tuple #[wdVal p q r (.slice a l'.length cap) safe', .int .i64 0]) ∧ LogIn w' a l'.length cap l' ∧ ∀ ad, a = some ad → base ≤ ad.block) ∨
  (x ≠ 0 ∧ e = .returned (.tuple #[wdVal noPg noPg noPg (.slice none 0 0) 0, .int .i64 x]))
theorem LogIn.gr {row : Option Nat} {w w' : World} {a : Option Addr} {len cap : Nat} {l : List Rc} (h : LogIn w a len cap l) (g : Gr row w w') (hn : ∀ ad, a = some ad → some ad.block ≠ row) : LogIn w' a len cap l := by
 refine ⟨?_, h.le, h.max, h.nil, fun ad e i hi => (frozen_at (g.block _ (h.recs.lt (by omega) ad e) (hn ad e)) _).trans (h.fr ad e i hi)⟩
 rcases h.recs.2 with h0 | ⟨b, off, rfl, hr⟩
 ·exact ⟨h.recs.1, Or.inl h0⟩
 ·refine ⟨h.recs.1, Or.inr ⟨b, off, rfl, fun i hi => ?_⟩⟩
  have hc := hr i hi
  have hb : w'.heap[b]? = w.heap[b]? := g.block b (cell_lt hc.1) (hn _ rfl)
  unfold RecAt at hc ⊢
  simp only [World.cell?, hb] at hc ⊢
  exact hc
def errOf (we e : Int) : Int := if we = 0 then e else we
theorem own_in {w : World} {base : Nat} {v : Value} {l : List Rc} (h : w.ownsRow base 81 8 v l.length (flat l)) (hl : l.length ≤ 60) : ∃ a cap, v = .slice a l.length cap ∧ LogIn w a l.length cap l := by
 obtain ⟨a, cap, h1, h2, h3, h4⟩ := recs_own' h
 exact ⟨a, cap, h1, h2, h3, by unfold maxLen; omega, h4, fun ad e i _ => own_fr h ad.block _ (by rw [h1, e]; rfl)⟩
theorem own_in2 {w : World} {base n : Nat} {a : Option Addr} {cap : Nat} {l : List Rc} (h : w.ownsRow base 81 8 (.slice a n cap) l.length (flat l)) (hl : l.length ≤ 60) : LogIn w a l.length cap l := by
 obtain ⟨a', cap', h1, h2⟩ := own_in h hl
 injection h1 with h3 h4 h5
 subst h3 h5
 exact h2
abbrev put14 (w : World) (b : Nat) (x0 x1 x2 x3 x4 x5 x6 x7 x8 x9 x10 x11 x12 x13 : Value) : World := (((((((((((((w.setCell ⟨b, 0, none⟩ x0).setCell ⟨b, 1, none⟩ x1).setCell ⟨b, 2, none⟩ x2).setCell ⟨b, 3, none⟩ x3).setCell ⟨b, 4, none⟩ x4).setCell ⟨b, 5, none⟩ x5).setCell ⟨b, 6, none⟩ x6).setCell ⟨b, 7, none⟩ x7).setCell ⟨b, 8, none⟩ x8).setCell ⟨b, 9, none⟩ x9).setCell ⟨b, 10, none⟩ x10).setCell ⟨b, 11, none⟩ x11).setCell ⟨b, 12, none⟩ x12).setCell ⟨b, 13, none⟩ x13
theorem put14_other {w : World} {k : Nat} {c : Array Value} {t : TypeId} (h : Blk w k c t) (b : Nat) (hk : k ≠ b) (x0 x1 x2 x3 x4 x5 x6 x7 x8 x9 x10 x11 x12 x13 : Value) : Blk (put14 w b x0 x1 x2 x3 x4 x5 x6 x7 x8 x9 x10 x11 x12 x13) k c t := ((((((((((((((h.other ⟨b, 0, none⟩ x0 hk).other ⟨b, 1, none⟩ x1 hk).other ⟨b, 2, none⟩ x2 hk).other ⟨b, 3, none⟩ x3 hk).other ⟨b, 4, none⟩ x4 hk).other ⟨b, 5, none⟩ x5 hk).other ⟨b, 6, none⟩ x6 hk).other ⟨b, 7, none⟩ x7 hk).other ⟨b, 8, none⟩ x8 hk).other ⟨b, 9, none⟩ x9 hk).other ⟨b, 10, none⟩ x10 hk).other ⟨b, 11, none⟩ x11 hk).other ⟨b, 12, none⟩ x12 hk).other ⟨b, 13, none⟩ x13 hk)
theorem put14_gr (w : World) (b : Nat) (x0 x1 x2 x3 x4 x5 x6 x7 x8 x9 x10 x11 x12 x13 : Value) : Gr (some b) w (put14 w b x0 x1 x2 x3 x4 x5 x6 x7 x8 x9 x10 x11 x12 x13) := (((((((((((((((Gr.refl (some b) w).set (p := ⟨b, 0, none⟩) (Or.inr rfl) x0).set (p := ⟨b, 1, none⟩) (Or.inr rfl) x1).set (p := ⟨b, 2, none⟩) (Or.inr rfl) x2).set (p := ⟨b, 3, none⟩) (Or.inr rfl) x3).set (p := ⟨b, 4, none⟩) (Or.inr rfl) x4).set (p := ⟨b, 5, none⟩) (Or.inr rfl) x5).set (p := ⟨b, 6, none⟩) (Or.inr rfl) x6).set (p := ⟨b, 7, none⟩) (Or.inr rfl) x7).set (p := ⟨b, 8, none⟩) (Or.inr rfl) x8).set (p := ⟨b, 9, none⟩) (Or.inr rfl) x9).set (p := ⟨b, 10, none⟩) (Or.inr rfl) x10).set (p := ⟨b, 11, none⟩) (Or.inr rfl) x11).set (p := ⟨b, 12, none⟩) (Or.inr rfl) x12).set (p := ⟨b, 13, none⟩) (Or.inr rfl) x13)
theorem put14_ext {a w : World} (h : Ext a w) (b : Nat) (hb : a.heap.size ≤ b) (x0 x1 x2 x3 x4 x5 x6 x7 x8 x9 x10 x11 x12 x13 : Value) : Ext a (put14 w b x0 x1 x2 x3 x4 x5 x6 x7 x8 x9 x10 x11 x12 x13) := ((((((((((((((h.setCell (p := ⟨b, 0, none⟩) hb x0).setCell (p := ⟨b, 1, none⟩) hb x1).setCell (p := ⟨b, 2, none⟩) hb x2).setCell (p := ⟨b, 3, none⟩) hb x3).setCell (p := ⟨b, 4, none⟩) hb x4).setCell (p := ⟨b, 5, none⟩) hb x5).setCell (p := ⟨b, 6, none⟩) hb x6).setCell (p := ⟨b, 7, none⟩) hb x7).setCell (p := ⟨b, 8, none⟩) hb x8).setCell (p := ⟨b, 9, none⟩) hb x9).setCell (p := ⟨b, 10, none⟩) hb x10).setCell (p := ⟨b, 11, none⟩) hb x11).setCell (p := ⟨b, 12, none⟩) hb x12).setCell (p := ⟨b, 13, none⟩) hb x13)
theorem put14_blk {w : World} {b : Nat} {y0 y1 y2 y3 y4 y5 y6 y7 y8 y9 y10 y11 y12 y13 : Value} {t : TypeId} (h : Blk w b #[y0, y1, y2, y3, y4, y5, y6, y7, y8, y9, y10, y11, y12, y13] t) (x0 x1 x2 x3 x4 x5 x6 x7 x8 x9 x10 x11 x12 x13 : Value) : Blk (put14 w b x0 x1 x2 x3 x4 x5 x6 x7 x8 x9 x10 x11 x12 x13) b #[x0, x1, x2, x3, x4, x5, x6, x7, x8, x9, x10, x11, x12, x13] t := by
 have h2 := ((((((((((((((h.set 0 x0).set 1 x1).set 2 x2).set 3 x3).set 4 x4).set 5 x5).set 6 x6).set 7 x7).set 8 x8).set 9 x9).set 10 x10).set 11 x11).set 12 x12).set 13 x13)
 simpa using h2
theorem do_disk (p q r p' q' r' : Pg) (a : Option Addr) (len cap : Nat) (l l' : List Rc) (safe safe' err : Int) (f : FuncId) (caps : Array Value) (w : World) (h : LogIn w a len cap l)
  (hen : ∀ v w, (callFunc f (#[v] ++ caps)).run Tryz.prog w = .ok (.enter f (#[v] ++ caps)) w)
  (J : ∀ w' base db pb mt mh tx ho lv, Ext w w' → w.heap.size ≤ base → DeskOk w' base db pb mt mh l tx ho p q r lv safe → Calls Tryz.prog f (#[.pointer (some ⟨db, 0, none⟩)] ++ caps) w' fun e w'' => e = .returned (.int .i64 err) ∧ Below base w' w'' ∧
   (err = 0 → ∃ tx' ho' lv', DeskOk w'' base db pb mt mh l' tx' ho' p' q' r' lv' safe')) :
  Calls Tryz.prog 97 #[wdVal p q r (.slice a len cap) safe, .func (.func f) #[] caps] w fun e w' => Ext w w' ∧ WorkAns w.heap.size w' e p' q' r' (errOf (worldErr p q r l safe) err) l' safe' := by
 have E0 := ((Ext.refl w).alloc (.cells (wdCells p q r (.slice a len cap) safe) 38)).alloc (.cells (wdCells noPg noPg noPg (.slice none 0 0) 0) 38)
 have Z0 := Blk.new (w.alloc (.cells (wdCells p q r (.slice a len cap) safe) 38)) (w.heap.size + 1) (wdCells noPg noPg noPg (.slice none 0 0) 0) 38 (by simp)
 have H := open_any p q r a len cap l safe ((w.alloc (.cells (wdCells p q r (.slice a len cap) safe) 38)).alloc (.cells (wdCells noPg noPg noPg (.slice none 0 0) 0) 38)) (h.recs.ext E0) h.nil h.max
 have X0 : Hid (worldErr p q r l safe = 0 → errOf (worldErr p q r l safe) err = err) := fun h0 => by unfold errOf; rw [if_pos h0]
 have X1 : Hid (worldErr p q r l safe ≠ 0 → errOf (worldErr p q r l safe) err = worldErr p q r l safe) := fun h0 => by unfold errOf; rw [if_neg h0]
 generalize errOf (worldErr p q r l safe) err = xx at *
 generalize worldErr p q r l safe = we at *
 go_enter Tryz.func97, Tryz.ntmps97
 go_wp2_with fail
 refine H.mono ?_
 rintro e w1 ⟨v, rfl, hE, ⟨h0, db, pb, mt, mh, tx, ho, lv, rfl, hD⟩ | ⟨h0, rfl⟩⟩
 ·subst h0
  have hxx := X0.out rfl
  subst hxx
  have E1 := E0.trans hE
  have Z1 := Z0.ext hE
  have J1 := J w1 _ db pb mt mh tx ho lv E1 (by simp; omega) hD
  clear H X0 X1 J
  have hen1 := hen (.pointer (some ⟨db, 0, none⟩))
  go_wp2_with fail
  refine J1.mono ?_
  rintro e w2 ⟨rfl, hbel, hgo⟩
  clear J1 hen1 hen
  have E2 : Ext w w2 := Below.trans E1 (Below.mono hbel (by simp; omega))
  have Z2 : Blk w2 (w.heap.size + 1) (wdCells noPg noPg noPg (.slice none 0 0) 0) 38 := by
   have := hbel.block (w.heap.size + 1) (by simp)
   unfold Blk; rw [this]; exact Z1
  have c0 := Z2.cell
  have f0 := Z2.fr
  by_cases h0 : xx = 0
  ·subst h0
   obtain ⟨tx', ho', lv', hD2⟩ := hgo rfl
   have h60 := right_len l' hD2.book.right
   obtain ⟨a', cap', rfl, _⟩ := own_in hD2.own h60
   have hown := hD2.own
   have hge := hD2.ge
   have hbz : db ≠ w.heap.size + 1 := by simp at hge; omega
   have D2 := hD2.blk
   clear hgo hbel hD2 hD Z1 Z0 E0 E1 hE h
   go_wp2_with fail
   refine wp_region_held_drew (S := fun w' => ∀ o, w'.cell? ⟨db, o, none⟩ = (dkCells pb p' q' r' (.slice a' l'.length cap') safe')[o]?) (by kernel_rfl) D2.drew.cell (fun hHeld => ?_)
   refine tkn 0 rfl hHeld ?_
   simp only [Act.put]
   refine tkn 1 rfl hHeld ?_
   simp only [Act.put]
   refine tkn 2 rfl hHeld ?_
   simp only [Act.put]
   refine tkn 3 rfl hHeld ?_
   simp only [Act.put]
   refine tkn 4 rfl hHeld ?_
   simp only [Act.put]
   refine tkn 5 rfl hHeld ?_
   simp only [Act.put]
   refine tkn 6 rfl hHeld ?_
   simp only [Act.put]
   refine tkn 7 rfl hHeld ?_
   simp only [Act.put]
   refine tkn 8 rfl hHeld ?_
   simp only [Act.put]
   refine tkn 9 rfl hHeld ?_
   simp only [Act.put]
   refine tkn 10 rfl hHeld ?_
   simp only [Act.put]
   refine tkn 11 rfl hHeld ?_
   simp only [Act.put]
   refine tkn 12 rfl hHeld ?_
   simp only [Act.put]
   refine exn 13 rfl fun K hK => ?_
   go_simp
   have D3 := put14_other D2 (w.heap.size + 1) hbz (.int .i64 p'.c0) (.int .i64 p'.c1) (.int .i64 p'.c2) (.int .i64 p'.last) (.int .i64 q'.c0) (.int .i64 q'.c1) (.int .i64 q'.c2) (.int .i64 q'.last) (.int .i64 r'.c0) (.int .i64 r'.c1) (.int .i64 r'.c2) (.int .i64 r'.last) (.slice a' l'.length cap') (.int .i64 safe')
   have Z3 := put14_blk Z2 (.int .i64 p'.c0) (.int .i64 p'.c1) (.int .i64 p'.c2) (.int .i64 p'.last) (.int .i64 q'.c0) (.int .i64 q'.c1) (.int .i64 q'.c2) (.int .i64 q'.last) (.int .i64 r'.c0) (.int .i64 r'.c1) (.int .i64 r'.c2) (.int .i64 r'.last) (.slice a' l'.length cap') (.int .i64 safe')
   have G3 := put14_gr w2 (w.heap.size + 1) (.int .i64 p'.c0) (.int .i64 p'.c1) (.int .i64 p'.c2) (.int .i64 p'.last) (.int .i64 q'.c0) (.int .i64 q'.c1) (.int .i64 q'.c2) (.int .i64 q'.last) (.int .i64 r'.c0) (.int .i64 r'.c1) (.int .i64 r'.c2) (.int .i64 r'.last) (.slice a' l'.length cap') (.int .i64 safe')
   have E3 := put14_ext E2 (w.heap.size + 1) (by omega) (.int .i64 p'.c0) (.int .i64 p'.c1) (.int .i64 p'.c2) (.int .i64 p'.last) (.int .i64 q'.c0) (.int .i64 q'.c1) (.int .i64 q'.c2) (.int .i64 q'.last) (.int .i64 r'.c0) (.int .i64 r'.c1) (.int .i64 r'.c2) (.int .i64 r'.last) (.slice a' l'.length cap') (.int .i64 safe')
   have hown3 := own_gr hown G3 (fun k hk e => by injection e with e; have := own_from hown k hk; simp at this; omega)
   have HIn := (show Hid _ from own_in2 hown3 h60)
   refine hK.out _ _ D3.drew.cell (fun hHeld => ?_)
   clear hK K c0 f0
   refine exn 14 rfl fun K hK => ?_
   go_simp
   refine hK.out _ _ D3.drew.cell (fun hHeld => ?_)
   clear hK K hHeld
   refine wpAnyH_done (by kernel_rfl) ?_ _
   have z3 := Z3.drew.cell
   go_wp2_with fail
   refine bodyPost_ret (v := .tuple #[.agg (wdCells p' q' r' (.slice a' l'.length cap') safe'), .int .i64 0]) (by simp [results, Tryz.results97, go_sem, z3]) rfl ⟨?_, Or.inl ⟨rfl, a', cap', rfl, ?_, ?_⟩⟩
   ·exact E3.drew
   ·exact HIn.out.ext (Ext.refl _).drew
   ·rintro ad rfl
    have := own_from hown ad.block rfl
    simp at this
    omega
  ·have hb : (xx != 0) = true := by simpa using h0
   have HN := (show Hid (xx ≠ 0) from h0)
   clear h0 hgo hbel hD Z1 Z0 E0 E1 hE h
   go_wp2_with fail
   refine bodyPost_ret (v := .tuple #[.agg (wdCells noPg noPg noPg (.slice none 0 0) 0), .int .i64 xx]) (by simp [results, Tryz.results97, go_sem, c0]) rfl ⟨?_, Or.inr ⟨HN.out, rfl⟩⟩
   exact ((((((((((((((E2.setCell (by simp) _).setCell (by simp) _).setCell (by simp) _).setCell (by simp) _).setCell (by simp) _).setCell (by simp) _).setCell (by simp) _).setCell (by simp) _).setCell (by simp) _).setCell (by simp) _).setCell (by simp) _).setCell (by simp) _).setCell (by simp) _).setCell (by simp) _)
 ·have hb : (we != 0) = true := by simpa using h0
  have hxx := X1.out h0
  subst hxx
  have c0 := (Z0.ext hE).cell
  have f0 := (Z0.ext hE).fr
  have E1 := E0.trans hE
  have HN := (show Hid (xx ≠ 0) from h0)
  clear H h0
  go_wp2_with fail
  refine bodyPost_ret (v := .tuple #[.agg (wdCells noPg noPg noPg (.slice none 0 0) 0), .int .i64 xx]) (by simp [results, Tryz.results97, go_sem, c0]) rfl ⟨?_, Or.inr ⟨HN.out, rfl⟩⟩
  exact ((((((((((((((E1.setCell (by simp) _).setCell (by simp) _).setCell (by simp) _).setCell (by simp) _).setCell (by simp) _).setCell (by simp) _).setCell (by simp) _).setCell (by simp) _).setCell (by simp) _).setCell (by simp) _).setCell (by simp) _).setCell (by simp) _).setCell (by simp) _).setCell (by simp) _)
theorem do_any (p q r : Pg) (a : Option Addr) (len cap : Nat) (l l' : List Rc) (safe safe' err : Int) (f : FuncId) (caps : Array Value) (w : World) (h : LogIn w a len cap l)
  (hen : ∀ v w, (callFunc f (#[v] ++ caps)).run Tryz.prog w = .ok (.enter f (#[v] ++ caps)) w)
  (J : ∀ w' base db pb mt mh tx ho lv, Ext w w' → w.heap.size ≤ base → DeskOk w' base db pb mt mh l tx ho p q r lv safe → Calls Tryz.prog f (#[.pointer (some ⟨db, 0, none⟩)] ++ caps) w' fun e w'' => e = .returned (.int .i64 err) ∧ Below base w' w'' ∧
   (err = 0 → ∃ tx' ho' lv', DeskOk w'' base db pb mt mh l' tx' ho' p q r lv' safe')) :
  Calls Tryz.prog 97 #[wdVal p q r (.slice a len cap) safe, .func (.func f) #[] caps] w fun e w' => Ext w w' ∧ WorkAns w.heap.size w' e p q r (errOf (worldErr p q r l safe) err) l' safe' :=
 do_disk p q r p q r a len cap l l' safe safe' err f caps w h hen J
theorem write1_any {base db pb mt mh : Nat} {l : List Rc} {tx : List TxE} {ho : List HE} {p q s : Pg} {lv : Value} {safe : Int} (t at_ c v : Int) (b1 b2 b3 b4 : Nat) (w : World) (h : DeskOk w base db pb mt mh l tx ho p q s lv safe)
  (B1 : Blk w b1 #[.int .i64 t] 3) (B2 : Blk w b2 #[.int .i64 at_] 3) (B3 : Blk w b3 #[.int .i64 c] 3) (B4 : Blk w b4 #[.int .i64 v] 3) :
  Calls Tryz.prog 98 #[.pointer (some ⟨db, 0, none⟩), .pointer (some ⟨b1, 0, none⟩), .pointer (some ⟨b2, 0, none⟩), .pointer (some ⟨b3, 0, none⟩), .pointer (some ⟨b4, 0, none⟩)] w fun e w' => e = .returned (.int .i64 (writeErr l t at_ c v)) ∧ Below base w w' ∧
   (writeErr l t at_ c v = 0 → ∃ tx' ho' lv', DeskOk w' base db pb mt mh (l ++ [writeRec l t at_ c v]) tx' ho' p q s lv' safe) := by
 have H := write_any t at_ c v w h
 generalize writeErr l t at_ c v = we at *
 have c1 := B1.cell
 have c2 := B2.cell
 have c3 := B3.cell
 have c4 := B4.cell
 go_enter Tryz.func98, Tryz.ntmps98
 go_wp2_with fail
 refine H.mono ?_
 rintro e w1 ⟨rfl, h1, h2⟩
 go_wp2_with fail
 go_ret
 exact ⟨rfl, h1, h2⟩
theorem commit1_any {base db pb mt mh : Nat} {l : List Rc} {tx : List TxE} {ho : List HE} {p q s : Pg} {lv : Value} {safe : Int} (t : Int) (b1 : Nat) (w : World) (h : DeskOk w base db pb mt mh l tx ho p q s lv safe)
  (B1 : Blk w b1 #[.int .i64 t] 3) :
  Calls Tryz.prog 100 #[.pointer (some ⟨db, 0, none⟩), .pointer (some ⟨b1, 0, none⟩)] w fun e w' => e = .returned (.int .i64 (commitErr l t)) ∧ Below base w w' ∧
   (commitErr l t = 0 → ∃ tx' ho' lv', DeskOk w' base db pb mt mh ((l ++ [commitRec l t]) ++ [endRec l t]) tx' ho' p q s lv' (l.length + 1 : Nat)) := by
 have H := commit_any t w h
 generalize commitErr l t = we at *
 have c1 := B1.cell
 go_enter Tryz.func100, Tryz.ntmps100
 go_wp2_with fail
 refine H.mono ?_
 rintro e w1 ⟨rfl, h1, h2⟩
 go_wp2_with fail
 go_ret
 exact ⟨rfl, h1, h2⟩
theorem workWrite_any (p q r : Pg) (a : Option Addr) (len cap : Nat) (l : List Rc) (safe : Int) (t at_ c v : Int) (w : World) (h : LogIn w a len cap l) :
  Calls Tryz.prog 64 #[wdVal p q r (.slice a len cap) safe, .int .i64 t, .int .i64 at_, .int .i64 c, .int .i64 v] w fun e w' => Ext w w' ∧ WorkAns w.heap.size w' e p q r (errOf (worldErr p q r l safe) (writeErr l t at_ c v)) (l ++ [writeRec l t at_ c v]) safe := by
 have E0 := (((((((Ext.refl w).alloc (.cells (wdCells p q r (.slice a len cap) safe) 38)).alloc (.cells #[.int .i64 t] 3)).alloc (.cells #[.int .i64 at_] 3)).alloc (.cells #[.int .i64 c] 3)).alloc (.cells #[.int .i64 v] 3)).alloc (.cells (wdCells noPg noPg noPg (.slice none 0 0) 0) 38))
 have B0 := ((((((Blk.new w (w.heap.size) (wdCells p q r (.slice a len cap) safe) 38 (by simp)).alloc (.cells #[.int .i64 t] 3)).alloc (.cells #[.int .i64 at_] 3)).alloc (.cells #[.int .i64 c] 3)).alloc (.cells #[.int .i64 v] 3)).alloc (.cells (wdCells noPg noPg noPg (.slice none 0 0) 0) 38))
 have B1 := (((((Blk.new (w.alloc (.cells (wdCells p q r (.slice a len cap) safe) 38)) (w.heap.size + 1) #[.int .i64 t] 3 (by simp)).alloc (.cells #[.int .i64 at_] 3)).alloc (.cells #[.int .i64 c] 3)).alloc (.cells #[.int .i64 v] 3)).alloc (.cells (wdCells noPg noPg noPg (.slice none 0 0) 0) 38))
 have B2 := ((((Blk.new ((w.alloc (.cells (wdCells p q r (.slice a len cap) safe) 38)).alloc (.cells #[.int .i64 t] 3)) (w.heap.size + 1 + 1) #[.int .i64 at_] 3 (by simp)).alloc (.cells #[.int .i64 c] 3)).alloc (.cells #[.int .i64 v] 3)).alloc (.cells (wdCells noPg noPg noPg (.slice none 0 0) 0) 38))
 have B3 := (((Blk.new (((w.alloc (.cells (wdCells p q r (.slice a len cap) safe) 38)).alloc (.cells #[.int .i64 t] 3)).alloc (.cells #[.int .i64 at_] 3)) (w.heap.size + 1 + 1 + 1) #[.int .i64 c] 3 (by simp)).alloc (.cells #[.int .i64 v] 3)).alloc (.cells (wdCells noPg noPg noPg (.slice none 0 0) 0) 38))
 have B4 := ((Blk.new ((((w.alloc (.cells (wdCells p q r (.slice a len cap) safe) 38)).alloc (.cells #[.int .i64 t] 3)).alloc (.cells #[.int .i64 at_] 3)).alloc (.cells #[.int .i64 c] 3)) (w.heap.size + 1 + 1 + 1 + 1) #[.int .i64 v] 3 (by simp)).alloc (.cells (wdCells noPg noPg noPg (.slice none 0 0) 0) 38))
 have B5 := (Blk.new (((((w.alloc (.cells (wdCells p q r (.slice a len cap) safe) 38)).alloc (.cells #[.int .i64 t] 3)).alloc (.cells #[.int .i64 at_] 3)).alloc (.cells #[.int .i64 c] 3)).alloc (.cells #[.int .i64 v] 3)) (w.heap.size + 1 + 1 + 1 + 1 + 1) (wdCells noPg noPg noPg (.slice none 0 0) 0) 38 (by simp))
 have b0 := B0.cell
 have H := do_any p q r a len cap l (l ++ [writeRec l t at_ c v]) safe safe (writeErr l t at_ c v) 98 #[.pointer (some ⟨w.heap.size + 1, 0, none⟩), .pointer (some ⟨w.heap.size + 1 + 1, 0, none⟩), .pointer (some ⟨w.heap.size + 1 + 1 + 1, 0, none⟩), .pointer (some ⟨w.heap.size + 1 + 1 + 1 + 1, 0, none⟩)] _ (h.ext E0) (fun v w => callFunc_enter _ w Tryz.func98 (by kernel_rfl) (by kernel_rfl))
  (fun w' base db pb mt mh tx ho lv e _ hD => write1_any t at_ c v _ _ _ _ w' hD (B1.ext e) (B2.ext e) (B3.ext e) (B4.ext e))
 have hsz : w.heap.size ≤ w.heap.size + 1 + 1 + 1 + 1 + 1 := by omega
 generalize (l ++ [writeRec l t at_ c v]) = l' at *
 generalize errOf (worldErr p q r l safe) (writeErr l t at_ c v) = xx at *
 go_enter Tryz.func64, Tryz.ntmps64
 go_wp2_with fail
 refine H.mono ?_
 rintro e w1 ⟨hE, ⟨h0, a', cap', rfl, hin, hfrom⟩ | ⟨h0, rfl⟩⟩
 ·have Z1 := B5.ext hE
  have z := Z1.cell
  have f := Z1.fr
  have E1 := E0.trans hE
  have HX := (show Hid (xx = 0) from h0)
  have HIn := (show Hid _ from hin.gr (put14_gr w1 (w.heap.size + 1 + 1 + 1 + 1 + 1) (.int .i64 p.c0) (.int .i64 p.c1) (.int .i64 p.c2) (.int .i64 p.last) (.int .i64 q.c0) (.int .i64 q.c1) (.int .i64 q.c2) (.int .i64 q.last) (.int .i64 r.c0) (.int .i64 r.c1) (.int .i64 r.c2) (.int .i64 r.last) (.slice a' l'.length cap') (.int .i64 safe)) (fun ad e e2 => by injection e2 with e2; have := hfrom ad e; simp at this; omega))
  have HFrom : Hid (∀ ad, a' = some ad → w.heap.size ≤ ad.block) := fun ad e => by have := hfrom ad e; simp at this; omega
  have E2 := put14_ext E1 (w.heap.size + 1 + 1 + 1 + 1 + 1) (by omega) (.int .i64 p.c0) (.int .i64 p.c1) (.int .i64 p.c2) (.int .i64 p.last) (.int .i64 q.c0) (.int .i64 q.c1) (.int .i64 q.c2) (.int .i64 q.last) (.int .i64 r.c0) (.int .i64 r.c1) (.int .i64 r.c2) (.int .i64 r.last) (.slice a' l'.length cap') (.int .i64 safe)
  clear H hin hfrom h0 b0 B0 B1 B2 B3 B4 B5
  go_wp2_with fail
  refine bodyPost_ret (v := .tuple #[.agg (wdCells p q r (.slice a' l'.length cap') safe), .int .i64 0]) (by simp [results, Tryz.results64, go_sem, z]) rfl ⟨?_, Or.inl ⟨HX.out, a', cap', rfl, ?_, HFrom.out⟩⟩
  ·exact E2
  ·exact HIn.out
 ·have Z1 := B5.ext hE
  have z := Z1.cell
  have f := Z1.fr
  have E1 := E0.trans hE
  have HX := (show Hid (xx ≠ 0) from h0)
  have E2 := put14_ext E1 (w.heap.size + 1 + 1 + 1 + 1 + 1) (by omega) (.int .i64 0) (.int .i64 0) (.int .i64 0) (.int .i64 0) (.int .i64 0) (.int .i64 0) (.int .i64 0) (.int .i64 0) (.int .i64 0) (.int .i64 0) (.int .i64 0) (.int .i64 0) (.slice none 0 0) (.int .i64 0)
  clear H h0 b0 B0 B1 B2 B3 B4 B5
  go_wp2_with fail
  refine bodyPost_ret (v := .tuple #[.agg (wdCells noPg noPg noPg (.slice none 0 0) 0), .int .i64 xx]) (by simp [results, Tryz.results64, go_sem, z]) rfl ⟨?_, Or.inr ⟨HX.out, rfl⟩⟩
  exact E2
theorem workCommit_any (p q r : Pg) (a : Option Addr) (len cap : Nat) (l : List Rc) (safe : Int) (t : Int) (w : World) (h : LogIn w a len cap l) :
  Calls Tryz.prog 66 #[wdVal p q r (.slice a len cap) safe, .int .i64 t] w fun e w' => Ext w w' ∧ WorkAns w.heap.size w' e p q r (errOf (worldErr p q r l safe) (commitErr l t)) ((l ++ [commitRec l t]) ++ [endRec l t]) ((l.length + 1 : Nat) : Int) := by
 have E0 := ((((Ext.refl w).alloc (.cells (wdCells p q r (.slice a len cap) safe) 38)).alloc (.cells #[.int .i64 t] 3)).alloc (.cells (wdCells noPg noPg noPg (.slice none 0 0) 0) 38))
 have B0 := (((Blk.new w (w.heap.size) (wdCells p q r (.slice a len cap) safe) 38 (by simp)).alloc (.cells #[.int .i64 t] 3)).alloc (.cells (wdCells noPg noPg noPg (.slice none 0 0) 0) 38))
 have B1 := ((Blk.new (w.alloc (.cells (wdCells p q r (.slice a len cap) safe) 38)) (w.heap.size + 1) #[.int .i64 t] 3 (by simp)).alloc (.cells (wdCells noPg noPg noPg (.slice none 0 0) 0) 38))
 have B2 := (Blk.new ((w.alloc (.cells (wdCells p q r (.slice a len cap) safe) 38)).alloc (.cells #[.int .i64 t] 3)) (w.heap.size + 1 + 1) (wdCells noPg noPg noPg (.slice none 0 0) 0) 38 (by simp))
 have b0 := B0.cell
 have H := do_any p q r a len cap l ((l ++ [commitRec l t]) ++ [endRec l t]) safe ((l.length + 1 : Nat) : Int) (commitErr l t) 100 #[.pointer (some ⟨w.heap.size + 1, 0, none⟩)] _ (h.ext E0) (fun v w => callFunc_enter _ w Tryz.func100 (by kernel_rfl) (by kernel_rfl))
  (fun w' base db pb mt mh tx ho lv e _ hD => commit1_any t _ w' hD (B1.ext e))
 have hsz : w.heap.size ≤ w.heap.size + 1 + 1 := by omega
 generalize ((l ++ [commitRec l t]) ++ [endRec l t]) = l' at *
 generalize errOf (worldErr p q r l safe) (commitErr l t) = xx at *
 generalize (((l.length + 1 : Nat) : Int) : Int) = safe' at *
 go_enter Tryz.func66, Tryz.ntmps66
 go_wp2_with fail
 refine H.mono ?_
 rintro e w1 ⟨hE, ⟨h0, a', cap', rfl, hin, hfrom⟩ | ⟨h0, rfl⟩⟩
 ·have Z1 := B2.ext hE
  have z := Z1.cell
  have f := Z1.fr
  have E1 := E0.trans hE
  have HX := (show Hid (xx = 0) from h0)
  have HIn := (show Hid _ from hin.gr (put14_gr w1 (w.heap.size + 1 + 1) (.int .i64 p.c0) (.int .i64 p.c1) (.int .i64 p.c2) (.int .i64 p.last) (.int .i64 q.c0) (.int .i64 q.c1) (.int .i64 q.c2) (.int .i64 q.last) (.int .i64 r.c0) (.int .i64 r.c1) (.int .i64 r.c2) (.int .i64 r.last) (.slice a' l'.length cap') (.int .i64 safe')) (fun ad e e2 => by injection e2 with e2; have := hfrom ad e; simp at this; omega))
  have HFrom : Hid (∀ ad, a' = some ad → w.heap.size ≤ ad.block) := fun ad e => by have := hfrom ad e; simp at this; omega
  have E2 := put14_ext E1 (w.heap.size + 1 + 1) (by omega) (.int .i64 p.c0) (.int .i64 p.c1) (.int .i64 p.c2) (.int .i64 p.last) (.int .i64 q.c0) (.int .i64 q.c1) (.int .i64 q.c2) (.int .i64 q.last) (.int .i64 r.c0) (.int .i64 r.c1) (.int .i64 r.c2) (.int .i64 r.last) (.slice a' l'.length cap') (.int .i64 safe')
  clear H hin hfrom h0 b0 B0 B1 B2
  go_wp2_with fail
  refine bodyPost_ret (v := .tuple #[.agg (wdCells p q r (.slice a' l'.length cap') safe'), .int .i64 0]) (by simp [results, Tryz.results66, go_sem, z]) rfl ⟨?_, Or.inl ⟨HX.out, a', cap', rfl, ?_, HFrom.out⟩⟩
  ·exact E2
  ·exact HIn.out
 ·have Z1 := B2.ext hE
  have z := Z1.cell
  have f := Z1.fr
  have E1 := E0.trans hE
  have HX := (show Hid (xx ≠ 0) from h0)
  have E2 := put14_ext E1 (w.heap.size + 1 + 1) (by omega) (.int .i64 0) (.int .i64 0) (.int .i64 0) (.int .i64 0) (.int .i64 0) (.int .i64 0) (.int .i64 0) (.int .i64 0) (.int .i64 0) (.int .i64 0) (.int .i64 0) (.int .i64 0) (.slice none 0 0) (.int .i64 0)
  clear H h0 b0 B0 B1 B2
  go_wp2_with fail
  refine bodyPost_ret (v := .tuple #[.agg (wdCells noPg noPg noPg (.slice none 0 0) 0), .int .i64 xx]) (by simp [results, Tryz.results66, go_sem, z]) rfl ⟨?_, Or.inr ⟨HX.out, rfl⟩⟩
  exact E2
end Go.Proofs.YtibfgbmhmdggmaaGreatDoor.B
