/- The book in memory; who has a cell; and the contract of clashes. -/
import Derived.Test.YtgojonhjhdbpkaaBook2
import Derived.Test.YtgojonhjhdbpkaaCalm
import Derived.Deep.RegionHeld3
import Derived.Deep.DeepCutAuto
namespace Go.Proofs.Ytgojonhjhdbpkaa.B
set_option maxRecDepth 100000
open Go.ChangeShapes Go.WideShapes Go.ChangeAt Go.RowKit

structure TxE where
  key : Int
  state : Int
  last : Int
  sv : Value
  recs : List Rc
abbrev TxE.ent (t : TxE) : Int × Value := (t.key, txVal t.state t.last t.sv)
abbrev hoVal (h : Int × Int) : Value := .agg #[.int .i64 h.1, .int .i64 h.2]
abbrev hoEnt (h : (Int × Int) × (Int × Int)) : (Int × Int) × Value := (h.1, hoVal h.2)
def bookCells (ps : List Int) (mt mh : Nat) (n : Int) : Array Value := ints ps ++ #[.map (some mt), .map (some mh), .int .i64 n]
/-- The book of a right log, as it lies in memory from block base on. -/
structure BookOk (w : World) (base pb mt mh : Nat) (l : List Rc) (tx : List TxE) (ho : List ((Int × Int) × (Int × Int))) : Prop where
  blk : Blk w pb (bookCells (pagesR l) mt mh (l.length : Nat)) 71
  txs : MapAt keyI w mt (tx.map TxE.ent)
  hos : MapAt keyP w mh (ho.map hoEnt)
  own : ∀ t ∈ tx, w.ownsRow base 39 8 t.sv t.recs.length (flat t.recs)
  apart : tx.Pairwise fun s t => s.key ≠ t.key ∧ ∀ g, s.sv.ownBlock = some g → t.sv.ownBlock ≠ some g
  ge : base ≤ pb ∧ base ≤ mt ∧ base ≤ mh
  ne : mt ≠ mh
  right : Right l
  tells : ∀ t ∈ tx, t.state = stateR l t.key ∧ t.last = (lastR l t.key : Nat) ∧ t.recs = standB l t.key ∧ lastR l t.key ≠ 0
  all : ∀ k, lastR l k ≠ 0 → ∃ t ∈ tx, t.key = k
  hold : ∀ h ∈ ho, h.2.2 = (heldBy l h.1 h.2.1 : Nat) ∧ 0 < h.2.2
  held : ∀ p t, 0 < heldBy l p t → ∃ n, (p, (t, n)) ∈ ho
  once : ho.Pairwise fun g h => g.1 ≠ h.1
theorem BookOk.ext {w w' : World} {base pb mt mh : Nat} {l : List Rc} {tx : List TxE} {ho : List ((Int × Int) × (Int × Int))} (h : BookOk w base pb mt mh l tx ho) (e : Ext w w') : BookOk w' base pb mt mh l tx ho :=
  ⟨h.blk.ext e, h.txs.ext e, h.hos.ext e, fun t ht => own_ext (h.own t ht) e, h.apart, h.ge, h.ne, h.right, h.tells, h.all, h.hold, h.held, h.once⟩
theorem bookCells_page (ps : List Int) (mt mh : Nat) (n : Int) (hl : ps.length = 12) (i : Nat) (hi : i < 12) : (bookCells ps mt mh n)[i]? = some (.int .i64 (ps.getD i 0)) := by
  unfold bookCells
  rw [Array.getElem?_append_left (by simp [ints, hl, hi]), ints_get]
  have : i < ps.length := by omega
  simp [this]
theorem bookCells_12 (ps : List Int) (mt mh : Nat) (n : Int) (hl : ps.length = 12) : (bookCells ps mt mh n)[12]? = some (.map (some mt)) ∧ (bookCells ps mt mh n)[13]? = some (.map (some mh)) ∧ (bookCells ps mt mh n)[14]? = some (.int .i64 n) := by
  have hs : (ints ps).size = 12 := by simp [ints, hl]
  unfold bookCells
  refine ⟨?_, ?_, ?_⟩ <;> rw [Array.getElem?_append_right (by omega), hs] <;> rfl
/-- What the first look-up of a key finds. -/
theorem find_tx : ∀ (tx : List TxE) (k : Int) (i : Nat), (∃ t ∈ tx, t.key = k ∧ ∃ j, findI (fun q => k == q) (tx.map TxE.ent) i = some (j, txVal t.state t.last t.sv)) ∨ ((∀ t ∈ tx, t.key ≠ k) ∧ findI (fun q => k == q) (tx.map TxE.ent) i = none) := by
  intro tx
  induction tx with
  | nil => intro k i; exact Or.inr ⟨fun t ht => (by cases ht), rfl⟩
  | cons t tx ih =>
    intro k i
    simp only [List.map_cons, findI]
    by_cases hk : k = t.key
    · subst hk
      exact Or.inl ⟨t, by simp, rfl, i, by simp⟩
    · have hb : (k == t.key) = false := by simpa using hk
      rcases ih k (i + 1) with ⟨u, hu, he, j, hf⟩ | ⟨hn, hf⟩
      · exact Or.inl ⟨u, by simp [hu], he, j, by simp [hb]; exact hf⟩
      · refine Or.inr ⟨fun u hu => ?_, by simp [hb]; exact hf⟩
        rcases List.mem_cons.1 hu with rfl | hu
        · exact fun e => hk e.symm
        · exact hn u hu
theorem find_ho : ∀ (ho : List ((Int × Int) × (Int × Int))) (p : Int × Int) (i : Nat), (∃ h ∈ ho, h.1 = p ∧ ∃ j, findI (fun q => p.1 == q.1 && p.2 == q.2) (ho.map hoEnt) i = some (j, hoVal h.2)) ∨ ((∀ h ∈ ho, h.1 ≠ p) ∧ findI (fun q => p.1 == q.1 && p.2 == q.2) (ho.map hoEnt) i = none) := by
  intro ho
  induction ho with
  | nil => intro p i; exact Or.inr ⟨fun t ht => (by cases ht), rfl⟩
  | cons h ho ih =>
    intro p i
    simp only [List.map_cons, findI]
    by_cases hk : p = h.1
    · subst hk
      exact Or.inl ⟨h, by simp, rfl, i, by simp⟩
    · have hb : (p.1 == h.1.1 && p.2 == h.1.2) = false := by
        rw [← Bool.not_eq_true]
        simp only [Bool.and_eq_true, beq_iff_eq]
        exact fun e => hk (Prod.ext e.1 e.2)
      rcases ih p (i + 1) with ⟨u, hu, he, j, hf⟩ | ⟨hn, hf⟩
      · exact Or.inl ⟨u, by simp [hu], he, j, by rw [hb]; simpa using hf⟩
      · refine Or.inr ⟨fun u hu => ?_, by rw [hb]; simpa using hf⟩
        rcases List.mem_cons.1 hu with rfl | hu
        · exact fun e => hk e.symm
        · exact hn u hu
/-- What the book has of a Txn. -/
theorem BookOk.look {w : World} {base pb mt mh : Nat} {l : List Rc} {tx : List TxE} {ho : List ((Int × Int) × (Int × Int))} (h : BookOk w base pb mt mh l tx ho) (k : Int) :
    ∃ sv, lookI (tx.map TxE.ent) k (txVal 0 0 (.slice none 0 0)) = txVal (stateR l k) (lastR l k : Nat) sv ∧ w.ownsRow base 39 8 sv (standB l k).length (flat (standB l k)) ∧
      ((∃ t ∈ tx, t.key = k ∧ t.sv = sv) ∨ ((∀ t ∈ tx, t.key ≠ k) ∧ sv = .slice none 0 0)) := by
  unfold lookI
  rcases find_tx tx k 0 with ⟨t, ht, he, j, hf⟩ | ⟨hn, hf⟩
  · rw [hf]
    obtain ⟨h1, h2, h3, h4⟩ := h.tells t ht
    subst he
    refine ⟨t.sv, by rw [h1, h2], ?_, Or.inl ⟨t, ht, rfl, rfl⟩⟩
    have := h.own t ht
    rw [h3] at this
    exact this
  · rw [hf]
    have h0 : lastR l k = 0 := by
      by_cases h0 : lastR l k = 0
      · exact h0
      · obtain ⟨t, ht, he⟩ := h.all k h0
        exact absurd he (hn t ht)
    have hs := stateR_0 h0
    have hst : standB l k = [] := by
      rw [stand_of_n4 (by rw [hs]; decide)]
      apply List.length_eq_zero_iff.1
      rw [standRecs_length]
      have hw : writesR l k = [] := by
        cases hw : writesR l k with
        | nil => rfl
        | cons n ns =>
          obtain ⟨r, hr, ht, _⟩ := writesR_rec k l n (by rw [hw]; simp)
          exact absurd h0 (by
            have hmem := List.mem_of_getElem? hr
            exact fun h0 => absurd ht (last_none k l h0 r hmem))
      simp [standsR, hw]
    exact ⟨.slice none 0 0, by rw [hs, h0]; rfl, by rw [hst]; exact ⟨rfl, Or.inl ⟨rfl, rfl⟩⟩, Or.inr ⟨hn, rfl⟩⟩
theorem pairwise_mem {α : Type} {R : α → α → Prop} (hs : ∀ a b, R a b → R b a) : ∀ {l : List α}, l.Pairwise R → ∀ a ∈ l, ∀ b ∈ l, a ≠ b → R a b := by
  intro l
  induction l with
  | nil => intro _ a ha; cases ha
  | cons x l ih =>
    intro h a ha b hb hne
    rw [List.pairwise_cons] at h
    rcases List.mem_cons.1 ha with ha' | ha'
    · rcases List.mem_cons.1 hb with hb' | hb'
      · exact absurd (ha'.trans hb'.symm) hne
      · rw [ha']; exact h.1 b hb'
    · rcases List.mem_cons.1 hb with hb' | hb'
      · rw [hb']; exact hs _ _ (h.1 a ha')
      · exact ih h.2 a ha' b hb' hne
/-- What the book has of a cell. -/
theorem BookOk.lookHold {w : World} {base pb mt mh : Nat} {l : List Rc} {tx : List TxE} {ho : List ((Int × Int) × (Int × Int))} (h : BookOk w base pb mt mh l tx ho) (p : Int × Int) :
    ∃ x, lookP (ho.map hoEnt) p (hoVal (0, 0)) = hoVal x ∧ HoldOk l p x ∧ (((p, x) ∈ ho) ∨ ((∀ g ∈ ho, g.1 ≠ p) ∧ x = (0, 0))) := by
  unfold lookP
  rcases find_ho ho p 0 with ⟨g, hg, he, j, hf⟩ | ⟨hn, hf⟩
  · rw [hf]
    subst he
    obtain ⟨h1, h2⟩ := h.hold g hg
    refine ⟨g.2, rfl, ⟨fun _ => ?_, fun t ht => ⟨h2, ?_⟩⟩, Or.inl hg⟩
    · rw [h1] at h2; omega
    · obtain ⟨n, hn⟩ := h.held g.1 t ht
      by_cases e : g = (g.1, (t, n))
      · rw [e]
      · exact absurd rfl (pairwise_mem (fun a b hab => Ne.symm hab) h.once g hg (g.1, (t, n)) hn e)
  · rw [hf]
    refine ⟨(0, 0), rfl, ⟨fun h0 => absurd h0 (by simp), fun t ht => ?_⟩, Or.inr ⟨hn, rfl⟩⟩
    obtain ⟨n, hm⟩ := h.held p t ht
    exact absurd rfl (hn _ hm)

set_option maxHeartbeats 1000000 in
theorem clash1 (ps : List Int) (mt mh pb : Nat) (sz : Int) (r : Rc) (bb br : Nat) (w : World) (hl : ps.length = 12) (P : Blk w pb (bookCells ps mt mh sz) 71) (B : Blk w bb #[.pointer (some ⟨pb, 0, none⟩)] 63) (R : Blk w br r.cs 39)
    (p0 : 0 ≤ r.page) (p2 : r.page ≤ 2) (q0 : 0 ≤ r.cell) (q2 : r.cell ≤ 2) :
    Calls Try.prog 114 #[.pointer (some ⟨br, 0, none⟩), .pointer (some ⟨bb, 0, none⟩)] w fun e w' => e = .returned (.bool (r.old != ps.getD (r.page.toNat * 4 + r.cell.toNat) 0)) ∧ Ext w w' := by
  have c1 := B.cell
  have c2 := R.cell
  have p3 : r.page < 3 := by omega
  have q3 : r.cell < 3 := by omega
  have c3 : w.cell? ⟨pb, r.page.toNat * 4 + r.cell.toNat, none⟩ = some (.int .i64 (ps.getD (r.page.toNat * 4 + r.cell.toNat) 0)) := by rw [P.cell, bookCells_page ps mt mh sz hl _ (by omega)]
  go_enter Try.func114, Try.ntmps114
  go_wp2_with fail
  go_quiet (fail)
  go_wp2_with fail
  go_ret
  exact ⟨rfl, (Ext.refl w).drewN _⟩
theorem clash1_ans (ps : List Int) (mt mh pb : Nat) (sz : Int) (r : Rc) (bb br : Nat) (w : World) (hl : ps.length = 12) (P : Blk w pb (bookCells ps mt mh sz) 71) (B : Blk w bb #[.pointer (some ⟨pb, 0, none⟩)] 63) (R : Blk w br r.cs 39)
    (p0 : 0 ≤ r.page) (p2 : r.page ≤ 2) (q0 : 0 ≤ r.cell) (q2 : r.cell ≤ 2) : Ans 114 #[.pointer (some ⟨br, 0, none⟩), .pointer (some ⟨bb, 0, none⟩)] w (r.old != ps.getD (r.page.toNat * 4 + r.cell.toNat) 0) :=
  ⟨fun w => callFunc_enter _ w Try.func114 (by kernel_rfl) (by kernel_rfl), fun w' h => clash1 ps mt mh pb sz r bb br w' hl (P.ext h) (B.ext h) (R.ext h) p0 p2 q0 q2⟩
set_option maxHeartbeats 1000000 in
set_option maxRecDepth 100000 in
theorem busy_any {base pb mt mh : Nat} {l : List Rc} {tx : List TxE} {ho : List ((Int × Int) × (Int × Int))} (p : Int × Int) (t : Int) (x : Int × Int) (w : World) (h : BookOk w base pb mt mh l tx ho)
    (hx : lookP (ho.map hoEnt) p (hoVal (0, 0)) = hoVal x) :
    Calls Try.prog 78 #[.pointer (some ⟨pb, 0, none⟩), keyP p, .int .i64 t] w fun e w' => e = .returned (.bool (decide (0 < x.2) && x.1 != t)) ∧ Ext w w' := by
  have HX := (show Hid (lookP (ho.map hoEnt) p (hoVal (0, 0)) = hoVal x) from hx)
  clear hx
  have hl12 := pagesR_len l
  go_enter Try.func78, Try.ntmps78
  go_wp2_with fail
  have C0 := Blk.new w w.heap.size #[.int .i64 p.1, .int .i64 p.2] 89 rfl
  have hE := (Ext.refl w).alloc (.cells #[.int .i64 p.1, .int .i64 p.2] 89)
  generalize w.alloc (.cells #[.int .i64 p.1, .int .i64 p.2] 89) = W at *
  have hB := h.ext hE
  have KL : Hid (∀ w', Ext W w' → (Instr.lookup 69 (.map (some mh)) (keyP p) false).run Try.prog w' = .ok (hoVal x) w') := fun w' e => by rw [run_lookP (hB.ext e).hos p, HX.out]
  have KC : Hid (∀ w', Ext W w' → (∀ o, w'.cell? ⟨w.heap.size, o, none⟩ = #[.int .i64 p.1, .int .i64 p.2][o]?) ∧ w'.cell? ⟨pb, 13, none⟩ = some (.map (some mh))) := fun w' e => ⟨(C0.ext e).cell, by rw [(hB.ext e).blk.cell]; exact (bookCells_12 _ mt mh _ hl12).2.1⟩
  go_cut [7] (fun s7 wx => ∃ b7 : Nat, s7 = .pointer (some ⟨b7, 0, none⟩) ∧ Blk wx b7 #[.int .i64 x.1, .int .i64 x.2] 114 ∧ Ext W wx)
  case first =>
    go_region_held3 (fun w' => Ext W w' ∧ ((∀ o, w'.cell? ⟨w.heap.size, o, none⟩ = #[.int .i64 p.1, .int .i64 p.2][o]?) ∧ w'.cell? ⟨pb, 13, none⟩ = some (.map (some mh))) ∧ (Instr.lookup 69 (.map (some mh)) (keyP p) false).run Try.prog w' = .ok (hoVal x) w')
      ((refine (fun e => ⟨e, KC.out _ e, KL.out _ e⟩ : Ext W _ → _) ?_; first | exact (Ext.refl W).drew | exact ((Ext.refl W).alloc _).drew | exact hy | exact hy.alloc _ | exact (hy.setCell hbx _).setCell hbx _))
      (first
      | (fail)
      | (fail))
    all_goals (go_wp2_with fail; go_meet; case rel => exact ⟨_, rfl, Blk.new _ _ _ _ rfl, ((Ext.refl W).alloc _).drew⟩)
  case rest =>
    obtain ⟨b7, rfl, C2, hx5⟩ := hcut
    have c2 := C2.cell
    have hE2 := hE.trans hx5
    clear C0 hB hE KL KC HX C2 hx5 h hl12
    by_cases h0 : 0 < x.2
    · have HD : Hid (decide (0 < x.2) = true) := by unfold Hid; simpa using h0
      go_wp2_with fail
      go_ret
      exact ⟨by rw [HD.out]; rfl, hE2⟩
    · have HD : Hid (decide (0 < x.2) = false) := by unfold Hid; simpa using h0
      go_wp2_with fail
      go_ret
      exact ⟨by rw [HD.out]; rfl, hE2⟩
set_option maxHeartbeats 1000000 in
set_option maxRecDepth 100000 in
theorem clash2 {base pb mt mh : Nat} {l : List Rc} {tx : List TxE} {ho : List ((Int × Int) × (Int × Int))} (x : Int × Int) (r : Rc) (bb br : Nat) (w : World) (h : BookOk w base pb mt mh l tx ho)
    (hx : lookP (ho.map hoEnt) (r.page, r.cell) (hoVal (0, 0)) = hoVal x) (B : Blk w bb #[.pointer (some ⟨pb, 0, none⟩)] 63) (R : Blk w br r.cs 39) :
    Calls Try.prog 115 #[.pointer (some ⟨bb, 0, none⟩), .pointer (some ⟨br, 0, none⟩)] w fun e w' => e = .returned (.bool (decide (0 < x.2) && x.1 != r.txn)) ∧ Ext w w' := by
  have c1 := B.cell
  have c2 := R.cell
  have HX := (show Hid (lookP (ho.map hoEnt) (r.page, r.cell) (hoVal (0, 0)) = hoVal x) from hx)
  clear hx
  go_enter Try.func115, Try.ntmps115
  go_wp2_with fail
  refine wp_region_calm (by kernel_rfl) (by kernel_rfl) (fun F hF => ?_)
  have d1 := hF.cell B
  have d2 := hF.cell R
  have HC1 : Hid (∀ y, Calls Try.prog 105 #[r.val] (F y) fun e w' => e = .returned (keyP (r.page, r.cell)) ∧ Ext (F y) w') := fun y => placeOf_any r (F y)
  have HC2 : Hid (∀ y, Calls Try.prog 78 #[.pointer (some ⟨pb, 0, none⟩), keyP (r.page, r.cell), .int .i64 r.txn] (F y) fun e w' => e = .returned (.bool (decide (0 < x.2) && x.1 != r.txn)) ∧ Ext (F y) w') := fun y => busy_any (r.page, r.cell) r.txn x (F y) (h.ext (hF.ext y)) HX.out
  repeat (go_big_quiet_step (first | (go_at_call 105; exact hF.call (HC1.out _)) | (go_at_call 78; exact hF.call (HC2.out _))))
  refine wpQuiet_nil ?_
  rintro _ ⟨v, rfl⟩
  go_wp2_with fail
  go_ret
  exact ⟨rfl, hF.ext v⟩
theorem clash2_ans {base pb mt mh : Nat} {l : List Rc} {tx : List TxE} {ho : List ((Int × Int) × (Int × Int))} (x : Int × Int) (r : Rc) (bb br : Nat) (w : World) (h : BookOk w base pb mt mh l tx ho)
    (hx : lookP (ho.map hoEnt) (r.page, r.cell) (hoVal (0, 0)) = hoVal x) (B : Blk w bb #[.pointer (some ⟨pb, 0, none⟩)] 63) (R : Blk w br r.cs 39) : Ans 115 #[.pointer (some ⟨bb, 0, none⟩), .pointer (some ⟨br, 0, none⟩)] w (decide (0 < x.2) && x.1 != r.txn) :=
  ⟨fun w => callFunc_enter _ w Try.func115 (by kernel_rfl) (by kernel_rfl), fun w' e => clash2 x r bb br w' (h.ext e) hx (B.ext e) (R.ext e)⟩
end Go.Proofs.Ytgojonhjhdbpkaa.B
