/- What work does to a log, as plain functions; the records that it puts may follow. No Go in sight. The contracts of the work's noneOfSuch, and of the desk's Room and Add. The contracts of the work's write and commit at a desk. The contract of the work's commit at a desk. The contracts of the office's Do, and of the work's Write and Commit. The contracts of the work's Write and Commit. -/
import Derived.Test.YtbfefocehnafgaaDoorChainA
import Derived.Test.YtbfefocehnafgaaDoorDeskA
import Derived.Test.YtbfefocehnafgaaDoorDeskB
namespace Go.Proofs.YtbfefocehnafgaaDoor.B
set_option maxRecDepth 100000

/-- Is one of the numbers none of such? -/
def noneB (t p c v : Int) : Bool := out 1 9 [t] || (out 0 2 [p] || (out 0 2 [c] || out 0 99 [v]))
def writeRec (l : List Rc) (t p c v : Int) : Rc := ⟨1, t, (lastR l t : Nat), p, c, (pagesR l).getD (p.toNat * 4 + c.toNat) 0, v, 0⟩
/-- The document's error of a Write in a right world. -/
def writeErr (l : List Rc) (t p c v : Int) : Int := if noneB t p c v then 3 else if 1 < stateR l t then 6 else if takenR l t p c then 5 else if 60 ≤ l.length then 2 else 0
def commitRec (l : List Rc) (t : Int) : Rc := ⟨2, t, (lastR l t : Nat), 0, 0, 0, 0, 0⟩
def endRec (l : List Rc) (t : Int) : Rc := ⟨4, t, (l.length + 1 : Nat), 0, 0, 0, 0, 0⟩
/-- The document's error of a Commit in a right world. -/
def commitErr (l : List Rc) (t : Int) : Int := if out 1 9 [t] then 3 else if stateR l t = 0 then 7 else if 1 < stateR l t then 6 else if 59 ≤ l.length then 2 else 0
theorem writeErr_3 {l : List Rc} {t p c v : Int} (h : noneB t p c v = true) : writeErr l t p c v = 3 := by unfold writeErr; rw [h]; rfl
theorem writeErr_6 {l : List Rc} {t p c v : Int} (h : noneB t p c v = false) (h1 : 1 < stateR l t) : writeErr l t p c v = 6 := by unfold writeErr; rw [h, if_neg Bool.false_ne_true, if_pos h1]
theorem writeErr_5 {l : List Rc} {t p c v : Int} (h : noneB t p c v = false) (h1 : ¬ 1 < stateR l t) (h2 : takenR l t p c = true) : writeErr l t p c v = 5 := by unfold writeErr; rw [h, if_neg Bool.false_ne_true, if_neg h1, h2]; rfl
theorem writeErr_2 {l : List Rc} {t p c v : Int} (h : noneB t p c v = false) (h1 : ¬ 1 < stateR l t) (h2 : takenR l t p c = false) (h3 : 60 ≤ l.length) : writeErr l t p c v = 2 := by unfold writeErr; rw [h, if_neg Bool.false_ne_true, if_neg h1, h2, if_neg Bool.false_ne_true, if_pos h3]
theorem writeErr_0 {l : List Rc} {t p c v : Int} (h : noneB t p c v = false) (h1 : ¬ 1 < stateR l t) (h2 : takenR l t p c = false) (h3 : ¬ 60 ≤ l.length) : writeErr l t p c v = 0 := by unfold writeErr; rw [h, if_neg Bool.false_ne_true, if_neg h1, h2, if_neg Bool.false_ne_true, if_neg h3]
theorem writeErr_zero {l : List Rc} {t p c v : Int} (h : writeErr l t p c v = 0) : noneB t p c v = false ∧ ¬ 1 < stateR l t ∧ takenR l t p c = false ∧ l.length < 60 := by
  cases h0 : noneB t p c v
  · by_cases h1 : 1 < stateR l t
    · rw [writeErr_6 h0 h1] at h; cases h
    · cases h2 : takenR l t p c
      · by_cases h3 : 60 ≤ l.length
        · rw [writeErr_2 h0 h1 h2 h3] at h; cases h
        · exact ⟨rfl, h1, rfl, by omega⟩
      · rw [writeErr_5 h0 h1 h2] at h; cases h
  · rw [writeErr_3 h0] at h; cases h
theorem noneB_false {t p c v : Int} (h : noneB t p c v = false) : (1 ≤ t ∧ t ≤ 9) ∧ (0 ≤ p ∧ p ≤ 2) ∧ (0 ≤ c ∧ c ≤ 2) ∧ (0 ≤ v ∧ v ≤ 99) := by
  unfold noneB at h
  simp only [Bool.or_eq_false_iff] at h
  exact ⟨out1_false h.1, out1_false h.2.1, out1_false h.2.2.1, out1_false h.2.2.2⟩
theorem out1_ok {lo hi n : Int} (h1 : lo ≤ n) (h2 : n ≤ hi) : out lo hi [n] = false := by simp [out]; omega
theorem write_step {l : List Rc} (hR : Right l) {t p c v : Int} (h : writeErr l t p c v = 0) : recErr (l.length + 1 : Nat) (writeRec l t p c v) = 0 ∧ followsR l (writeRec l t p c v) = true := by
  obtain ⟨hn, hs, ht, hl⟩ := writeErr_zero h
  obtain ⟨h1, h2, h3, h4⟩ := noneB_false hn
  have hla := lastR_le t l
  have hold := (right_pages l hR (p.toNat * 4 + c.toNat)).1 (by omega)
  constructor
  · rw [recErr_zero']
    refine ⟨out1_ok (by omega) (by omega), rfl, ?_, rfl⟩
    unfold outOf cellOut writeRec
    dsimp only
    rw [out1_ok h1.1 h1.2, out1_ok (by omega) (by omega), out1_ok h2.1 h2.2, out1_ok h3.1 h3.2]
    have : out 0 99 [(pagesR l).getD (p.toNat * 4 + c.toNat) 0, v] = false := by simp [out] at hold ⊢; omega
    rw [this]; rfl
  · have hr := stateR_range l t
    unfold followsR writeRec
    dsimp only
    have e4 : (stateR l t == 4) = false := by simp; omega
    have e2 : (stateR l t == 2) = false := by simp; omega
    have e3 : (stateR l t == 3) = false := by simp; omega
    have ep : (((lastR l t : Nat) : Int) != ((lastR l t : Nat) : Int)) = false := by simp
    rw [ep, e4, e2, e3, ht]
    simp
theorem write_ok {l : List Rc} (hR : Right l) {t p c v : Int} (h : writeErr l t p c v = 0) : stepErr l (writeRec l t p c v) = 0 := (stepErr_zero _ _).2 (write_step hR h)
theorem commitErr_3 {l : List Rc} {t : Int} (h : out 1 9 [t] = true) : commitErr l t = 3 := by unfold commitErr; rw [h]; rfl
theorem commitErr_7 {l : List Rc} {t : Int} (h : out 1 9 [t] = false) (h0 : stateR l t = 0) : commitErr l t = 7 := by unfold commitErr; rw [h, if_neg Bool.false_ne_true, if_pos h0]
theorem commitErr_6 {l : List Rc} {t : Int} (h : out 1 9 [t] = false) (h0 : ¬ stateR l t = 0) (h1 : 1 < stateR l t) : commitErr l t = 6 := by unfold commitErr; rw [h, if_neg Bool.false_ne_true, if_neg h0, if_pos h1]
theorem commitErr_2 {l : List Rc} {t : Int} (h : out 1 9 [t] = false) (h0 : ¬ stateR l t = 0) (h1 : ¬ 1 < stateR l t) (h2 : 59 ≤ l.length) : commitErr l t = 2 := by unfold commitErr; rw [h, if_neg Bool.false_ne_true, if_neg h0, if_neg h1, if_pos h2]
theorem commitErr_0 {l : List Rc} {t : Int} (h : out 1 9 [t] = false) (h0 : ¬ stateR l t = 0) (h1 : ¬ 1 < stateR l t) (h2 : ¬ 59 ≤ l.length) : commitErr l t = 0 := by unfold commitErr; rw [h, if_neg Bool.false_ne_true, if_neg h0, if_neg h1, if_neg h2]
theorem commitErr_zero {l : List Rc} {t : Int} (h : commitErr l t = 0) : (1 ≤ t ∧ t ≤ 9) ∧ stateR l t = 1 ∧ l.length < 59 := by
  cases h0 : out 1 9 [t]
  · by_cases h1 : stateR l t = 0
    · rw [commitErr_7 h0 h1] at h; cases h
    · by_cases h2 : 1 < stateR l t
      · rw [commitErr_6 h0 h1 h2] at h; cases h
      · by_cases h3 : 59 ≤ l.length
        · rw [commitErr_2 h0 h1 h2 h3] at h; cases h
        · have := stateR_range l t
          exact ⟨out1_false h0, by omega, by omega⟩
  · rw [commitErr_3 h0] at h; cases h
theorem commit_step {l : List Rc} {t : Int} (h : commitErr l t = 0) : recErr (l.length + 1 : Nat) (commitRec l t) = 0 ∧ followsR l (commitRec l t) = true := by
  obtain ⟨h1, hs, hl⟩ := commitErr_zero h
  have hla := lastR_le t l
  constructor
  · rw [recErr_zero']
    refine ⟨out1_ok (by omega) (by omega), rfl, ?_, rfl⟩
    unfold outOf commitRec
    dsimp only
    rw [out1_ok h1.1 h1.2, out1_ok (by omega) (by omega)]
    rfl
  · unfold followsR commitRec
    dsimp only
    rw [hs]
    simp
theorem commit_ok {l : List Rc} {t : Int} (h : commitErr l t = 0) : stepErr l (commitRec l t) = 0 := (stepErr_zero _ _).2 (commit_step h)
theorem end_step {l : List Rc} {t : Int} (h : commitErr l t = 0) : recErr ((l ++ [commitRec l t]).length + 1 : Nat) (endRec l t) = 0 ∧ followsR (l ++ [commitRec l t]) (endRec l t) = true := by
  obtain ⟨h1, hs, hl⟩ := commitErr_zero h
  obtain ⟨he, hf⟩ := commit_step h
  constructor
  · rw [recErr_zero', List.length_append, List.length_singleton]
    refine ⟨out1_ok (by omega) (by omega), rfl, ?_, rfl⟩
    unfold outOf endRec
    dsimp only
    rw [out1_ok h1.1 h1.2, out1_ok (by omega) (by omega)]
    rfl
  · have e1 : stateR (l ++ [commitRec l t]) t = 2 := by rw [stateR_snoc he hf]; simp [commitRec]
    have e2 : lastR (l ++ [commitRec l t]) t = l.length + 1 := by rw [lastR_snoc]; simp [commitRec]
    unfold followsR endRec
    dsimp only
    rw [e1, e2]
    simp
theorem end_ok {l : List Rc} {t : Int} (h : commitErr l t = 0) : stepErr (l ++ [commitRec l t]) (endRec l t) = 0 := (stepErr_zero _ _).2 (end_step h)
end Go.Proofs.YtbfefocehnafgaaDoor.B
namespace Go.Proofs.YtbfefocehnafgaaDoor.B
set_option maxRecDepth 100000
open Go.ChangeShapes Go.WideShapes Go.ChangeAt Go.RowKit

theorem BookOk.gr {row : Option Nat} {w w' : World} {base pb mt mh : Nat} {l : List Rc} {tx : List TxE} {ho : List HE} (h : BookOk w base pb mt mh l tx ho) (g : Gr row w w') (h1 : some pb ≠ row) (h2 : some mt ≠ row) (h3 : some mh ≠ row) (h4 : ∀ t ∈ tx, ∀ k, t.sv.ownBlock = some k → some k ≠ row) : BookOk w' base pb mt mh l tx ho :=
  ⟨h.blk.gr g h1, h.txs.gr g h2, h.hos.gr g h3, fun t ht => own_gr (h.own t ht) g (h4 t ht), h.apart, h.ge, h.ne, h.right, h.tells, h.all, h.hold, h.held, h.once⟩
/-- What is the desk's. -/
def Mine (db pb mt mh : Nat) (tx : List TxE) (lv : Value) (k : Nat) : Prop := k = db ∨ k = pb ∨ k = mt ∨ k = mh ∨ (∃ t ∈ tx, t.sv.ownBlock = some k) ∨ lv.ownBlock = some k
theorem DeskOk.mine {w : World} {base db pb mt mh : Nat} {l : List Rc} {tx : List TxE} {ho : List HE} {p q r : Pg} {lv : Value} {safe : Int} (h : DeskOk w base db pb mt mh l tx ho p q r lv safe) {k : Nat} (hk : Mine db pb mt mh tx lv k) : k < w.heap.size := by
  rcases hk with rfl | rfl | rfl | rfl | ⟨t, ht, hk⟩ | hk
  · exact h.blk.lt
  · exact h.book.blk.lt
  · exact h.book.txs.lt
  · exact h.book.hos.lt
  · exact own_lt (h.book.own t ht) k hk
  · exact own_lt h.own k hk
theorem blk_eq {w : World} {k : Nat} {c d : Array Value} {t u : TypeId} (h1 : Blk w k c t) (h2 : Blk w k d u) : t = u := by
  unfold Blk at h1 h2
  rw [h1] at h2
  injection h2 with h2
  injection h2
theorem DeskOk.apart {w : World} {base db pb mt mh : Nat} {l : List Rc} {tx : List TxE} {ho : List HE} {p q r : Pg} {lv : Value} {safe : Int} (h : DeskOk w base db pb mt mh l tx ho p q r lv safe) :
    db ≠ pb ∧ db ≠ mt ∧ db ≠ mh ∧ (∀ t ∈ tx, t.sv.ownBlock ≠ some db) ∧ lv.ownBlock ≠ some db ∧ lv.ownBlock ≠ some pb ∧ lv.ownBlock ≠ some mt ∧ lv.ownBlock ≠ some mh := by
  refine ⟨?_, blk_notmap h.blk h.book.txs, blk_notmap h.blk h.book.hos, fun t ht e => own_notblk (h.book.own t ht) h.blk (by decide) db e rfl, fun e => own_notblk h.own h.blk (by decide) db e rfl, fun e => own_notblk h.own h.book.blk (by decide) pb e rfl, own_notmap h.own h.book.txs, own_notmap h.own h.book.hos⟩
  rintro rfl
  exact absurd (blk_eq h.blk h.book.blk) (by decide)
theorem add_fin {base db pb mt mh : Nat} {l : List Rc} {tx tx' : List TxE} {ho ho' : List HE} {p q s : Pg} {lv : Value} {safe : Int} {w : World} (h : DeskOk w base db pb mt mh l tx ho p q s lv safe) (r : Rc) {W w2 w3 : World} {g cap' : Nat} (E0 : Ext w W) (hWs : W.heap.size = w.heap.size + 1)
    (hbel : Below base W.drew w2) (hB2 : BookOk w2 base pb mt mh (l ++ [r]) tx' ho') (hEl : Else pb mt mh tx tx' W.drew w2) (D2 : Blk w2 db (dkCells pb p q s lv safe) 74) (own2 : w2.ownsRow base 46 8 lv l.length (flat l)) (G3 : Gr lv.ownBlock w2 w3)
    (hown' : w3.ownsRow base 46 8 (.slice (some ⟨g, 0, none⟩) (l.length + 1) cap') (l.length + 1) (flat l ++ r.cs.toList)) (hg : lv.ownBlock = some g ∨ w2.heap.size ≤ g) :
    Below base w (w3.setCell ⟨db, 13, none⟩ (.slice (some ⟨g, 0, none⟩) (l.length + 1) cap')) ∧ (∀ k, k < w.heap.size → ¬ Mine db pb mt mh tx lv k → (w3.setCell ⟨db, 13, none⟩ (.slice (some ⟨g, 0, none⟩) (l.length + 1) cap')).heap[k]? = w.heap[k]?) ∧
      DeskOk (w3.setCell ⟨db, 13, none⟩ (.slice (some ⟨g, 0, none⟩) (l.length + 1) cap')) base db pb mt mh (l ++ [r]) tx' ho' p q s (.slice (some ⟨g, 0, none⟩) (l.length + 1) cap') safe := by
  have hb0 : base ≤ w.heap.size := Nat.le_trans h.ge (Nat.le_of_lt h.blk.lt)
  have hlv : ∀ k, lv.ownBlock = some k → k < w.heap.size := fun k hk => own_lt h.own k hk
  have hdl := h.blk.lt
  have hW2 : W.heap.size ≤ w2.heap.size := hEl.size
  have hrow : ∀ t ∈ tx', ∀ k, t.sv.ownBlock = some k → lv.ownBlock ≠ some k := fun t ht k hk hl => by
    rcases hEl.rows t ht k hk with ⟨u, hu, hk2⟩ | hk2
    · exact h.free k hl u hu hk2
    · have : W.heap.size ≤ k := hk2
      have := hlv k hl; omega
  have D3 := D2.gr G3 (fun e => h.apart.2.2.2.2.1 e.symm)
  have B3 := hB2.gr G3 (fun e => own_notblk own2 hB2.blk (by decide) pb e.symm rfl) (fun e => own_notmap own2 hB2.txs e.symm) (fun e => own_notmap own2 hB2.hos e.symm) (fun t ht k hk e => hrow t ht k hk e.symm)
  have G4 : Gr (some db) w3 (w3.setCell ⟨db, 13, none⟩ (.slice (some ⟨g, 0, none⟩) (l.length + 1) cap')) := (Gr.refl (some db) w3).set (p := ⟨db, 13, none⟩) (Or.inr rfl) _
  have hgr : ∀ t ∈ tx', t.sv.ownBlock ≠ some g := fun t ht e => by
    rcases hg with hg | hg
    · exact hrow t ht g e hg
    · have := own_lt (hB2.own t ht) g e; omega
  refine ⟨?_, fun k hk hm => ?_, ?_, ?_, ?_, h.ge, fun k hk t ht e => ?_⟩
  · have b1 : Below base w W.drew := Below.mono E0.drew hb0
    have b2 : Below base w w2 := Below.trans b1 hbel
    have b3 := below_gr b2 (by omega) G3 (fun k hk => own_from own2 k hk)
    exact Below.setCell b3 h.ge _
  · have m1 : k ≠ db := fun e => hm (Or.inl e)
    have m2 : k ≠ pb := fun e => hm (Or.inr (Or.inl e))
    have m3 : k ≠ mt := fun e => hm (Or.inr (Or.inr (Or.inl e)))
    have m4 : k ≠ mh := fun e => hm (Or.inr (Or.inr (Or.inr (Or.inl e))))
    have m5 : ∀ t ∈ tx, t.sv.ownBlock ≠ some k := fun t ht e => hm (Or.inr (Or.inr (Or.inr (Or.inr (Or.inl ⟨t, ht, e⟩)))))
    have m6 : lv.ownBlock ≠ some k := fun e => hm (Or.inr (Or.inr (Or.inr (Or.inr (Or.inr e)))))
    have e2 : w2.heap[k]? = W.drew.heap[k]? := hEl.block k (show k < W.heap.size by omega) m2 m3 m4 m5
    rw [Below.heap_setCell _ _ _ _ m1, G3.block k (by omega) (fun e => m6 e.symm), e2]
    exact E0.block k hk
  · exact D3.set 13 _
  · refine B3.gr G4 (fun e => h.apart.1 (by injection e with e; exact e.symm)) (fun e => h.apart.2.1 (by injection e with e; exact e.symm)) (fun e => h.apart.2.2.1 (by injection e with e; exact e.symm)) (fun t ht k hk e => ?_)
    injection e with e
    subst e
    exact own_notblk (B3.own t ht) D3 (by decide) _ hk rfl
  · have := own_gr hown' G4 (fun k hk e => by injection e with e; exact own_notblk hown' D3 (by decide) k hk e)
    rw [List.length_append, List.length_singleton, flat_snoc]
    exact this
  · have hkg : k = g := by simpa [Value.ownBlock] using hk.symm
    rw [hkg] at e
    exact hgr t ht e
end Go.Proofs.YtbfefocehnafgaaDoor.B
namespace Go.Proofs.YtbfefocehnafgaaDoor.B
set_option maxRecDepth 100000
open Go.ChangeShapes Go.WideShapes Go.ChangeAt Go.RowKit

theorem busy_taken {l : List Rc} (hR : Right l) {t p c : Int} {x : Int × Int} (h : HoldOk l (p, c) x) : (decide (0 < x.2) && x.1 != t) = takenR l t p c := by
  rw [Bool.eq_iff_iff, taken_iff hR]
  simp only [Bool.and_eq_true, decide_eq_true_eq, bne_iff_ne]
  constructor
  · rintro ⟨h1, h2⟩
    exact ⟨x.1, h2, h.1 h1⟩
  · rintro ⟨u, hu, h1⟩
    obtain ⟨h2, h3⟩ := h.2 u h1
    exact ⟨h2, by rw [h3]; exact hu⟩
end Go.Proofs.YtbfefocehnafgaaDoor.B
namespace Go.Proofs.YtbfefocehnafgaaDoor.B
set_option maxRecDepth 100000
open Go.ChangeShapes Go.WideShapes Go.ChangeAt Go.RowKit

theorem DeskOk.setSafe {w : World} {base db pb mt mh : Nat} {l : List Rc} {tx : List TxE} {ho : List HE} {p q s : Pg} {lv : Value} {safe : Int} (h : DeskOk w base db pb mt mh l tx ho p q s lv safe) (n : Int) :
    DeskOk (w.setCell ⟨db, 14, none⟩ (.int .i64 n)) base db pb mt mh l tx ho p q s lv n := by
  obtain ⟨n1, n2, n3, n4, n5, _⟩ := h.apart
  have G : Gr (some db) w (w.setCell ⟨db, 14, none⟩ (.int .i64 n)) := (Gr.refl (some db) w).set (p := ⟨db, 14, none⟩) (Or.inr rfl) _
  refine ⟨h.blk.set 14 _, ?_, ?_, h.ge, h.free⟩
  · refine h.book.gr G (fun e => n1 (by injection e with e; exact e.symm)) (fun e => n2 (by injection e with e; exact e.symm)) (fun e => n3 (by injection e with e; exact e.symm)) (fun t ht k hk e => ?_)
    injection e with e
    subst e
    exact n4 t ht hk
  · exact own_gr h.own G (fun k hk e => by injection e with e; rw [e] at hk; exact n5 hk)
end Go.Proofs.YtbfefocehnafgaaDoor.B
namespace Go.Proofs.YtbfefocehnafgaaDoor.B
set_option maxRecDepth 100000
open Go.ChangeShapes Go.WideShapes Go.ChangeAt Go.RowKit

abbrev noPg : Pg := ⟨0, 0, 0, 0⟩
/-- What a call answers that makes a world: that world, or an error. -/
def WorkAns (base : Nat) (w' : World) (e : Ending) (p q r : Pg) (x : Int) (l' : List Rc) (safe' : Int) : Prop :=
  (x = 0 ∧ ∃ a cap, e = .returned (.tuple #[wdVal p q r (.slice a l'.length cap) safe', .int .i64 0]) ∧ LogIn w' a l'.length cap l' ∧ ∀ ad, a = some ad → base ≤ ad.block) ∨
    (x ≠ 0 ∧ e = .returned (.tuple #[wdVal noPg noPg noPg (.slice none 0 0) 0, .int .i64 x]))
theorem LogIn.gr {row : Option Nat} {w w' : World} {a : Option Addr} {len cap : Nat} {l : List Rc} (h : LogIn w a len cap l) (g : Gr row w w') (hn : ∀ ad, a = some ad → some ad.block ≠ row) : LogIn w' a len cap l := by
  refine ⟨?_, h.le, h.max, h.nil⟩
  rcases h.recs.2 with h0 | ⟨b, off, rfl, hr⟩
  · exact ⟨h.recs.1, Or.inl h0⟩
  · refine ⟨h.recs.1, Or.inr ⟨b, off, rfl, fun i hi => ?_⟩⟩
    have hc := hr i hi
    have hb : w'.heap[b]? = w.heap[b]? := g.block b (cell_lt hc.1) (hn _ rfl)
    unfold RecAt at hc ⊢
    simp only [World.cell?, hb] at hc ⊢
    exact hc
/-- The world's error first. -/
def errOf (we e : Int) : Int := if we = 0 then e else we
theorem own_in {w : World} {base : Nat} {v : Value} {l : List Rc} (h : w.ownsRow base 46 8 v l.length (flat l)) (hl : l.length ≤ 60) : ∃ a cap, v = .slice a l.length cap ∧ LogIn w a l.length cap l := by
  obtain ⟨a, cap, h1, h2, h3, h4⟩ := recs_own' h
  exact ⟨a, cap, h1, h2, h3, by unfold maxLen; omega, h4⟩
theorem own_in2 {w : World} {base n : Nat} {a : Option Addr} {cap : Nat} {l : List Rc} (h : w.ownsRow base 46 8 (.slice a n cap) l.length (flat l)) (hl : l.length ≤ 60) : LogIn w a l.length cap l := by
  obtain ⟨a', cap', h1, h2⟩ := own_in h hl
  injection h1 with h3 h4 h5
  subst h3 h5
  exact h2
abbrev put14 (w : World) (b : Nat) (x0 x1 x2 x3 x4 x5 x6 x7 x8 x9 x10 x11 x12 x13 : Value) : World := (((((((((((((w.setCell ⟨b, 0, none⟩ x0).setCell ⟨b, 1, none⟩ x1).setCell ⟨b, 2, none⟩ x2).setCell ⟨b, 3, none⟩ x3).setCell ⟨b, 4, none⟩ x4).setCell ⟨b, 5, none⟩ x5).setCell ⟨b, 6, none⟩ x6).setCell ⟨b, 7, none⟩ x7).setCell ⟨b, 8, none⟩ x8).setCell ⟨b, 9, none⟩ x9).setCell ⟨b, 10, none⟩ x10).setCell ⟨b, 11, none⟩ x11).setCell ⟨b, 12, none⟩ x12).setCell ⟨b, 13, none⟩ x13
theorem put14_other {w : World} {k : Nat} {c : Array Value} {t : TypeId} (h : Blk w k c t) (b : Nat) (hk : k ≠ b) (x0 x1 x2 x3 x4 x5 x6 x7 x8 x9 x10 x11 x12 x13 : Value) : Blk (put14 w b x0 x1 x2 x3 x4 x5 x6 x7 x8 x9 x10 x11 x12 x13) k c t := ((((((((((((((h.other ⟨b, 0, none⟩ x0 hk).other ⟨b, 1, none⟩ x1 hk).other ⟨b, 2, none⟩ x2 hk).other ⟨b, 3, none⟩ x3 hk).other ⟨b, 4, none⟩ x4 hk).other ⟨b, 5, none⟩ x5 hk).other ⟨b, 6, none⟩ x6 hk).other ⟨b, 7, none⟩ x7 hk).other ⟨b, 8, none⟩ x8 hk).other ⟨b, 9, none⟩ x9 hk).other ⟨b, 10, none⟩ x10 hk).other ⟨b, 11, none⟩ x11 hk).other ⟨b, 12, none⟩ x12 hk).other ⟨b, 13, none⟩ x13 hk)
theorem put14_gr (w : World) (b : Nat) (x0 x1 x2 x3 x4 x5 x6 x7 x8 x9 x10 x11 x12 x13 : Value) : Gr (some b) w (put14 w b x0 x1 x2 x3 x4 x5 x6 x7 x8 x9 x10 x11 x12 x13) := (((((((((((((((Gr.refl (some b) w).set (p := ⟨b, 0, none⟩) (Or.inr rfl) x0).set (p := ⟨b, 1, none⟩) (Or.inr rfl) x1).set (p := ⟨b, 2, none⟩) (Or.inr rfl) x2).set (p := ⟨b, 3, none⟩) (Or.inr rfl) x3).set (p := ⟨b, 4, none⟩) (Or.inr rfl) x4).set (p := ⟨b, 5, none⟩) (Or.inr rfl) x5).set (p := ⟨b, 6, none⟩) (Or.inr rfl) x6).set (p := ⟨b, 7, none⟩) (Or.inr rfl) x7).set (p := ⟨b, 8, none⟩) (Or.inr rfl) x8).set (p := ⟨b, 9, none⟩) (Or.inr rfl) x9).set (p := ⟨b, 10, none⟩) (Or.inr rfl) x10).set (p := ⟨b, 11, none⟩) (Or.inr rfl) x11).set (p := ⟨b, 12, none⟩) (Or.inr rfl) x12).set (p := ⟨b, 13, none⟩) (Or.inr rfl) x13)
theorem put14_ext {a w : World} (h : Ext a w) (b : Nat) (hb : a.heap.size ≤ b) (x0 x1 x2 x3 x4 x5 x6 x7 x8 x9 x10 x11 x12 x13 : Value) : Ext a (put14 w b x0 x1 x2 x3 x4 x5 x6 x7 x8 x9 x10 x11 x12 x13) := ((((((((((((((h.setCell (p := ⟨b, 0, none⟩) hb x0).setCell (p := ⟨b, 1, none⟩) hb x1).setCell (p := ⟨b, 2, none⟩) hb x2).setCell (p := ⟨b, 3, none⟩) hb x3).setCell (p := ⟨b, 4, none⟩) hb x4).setCell (p := ⟨b, 5, none⟩) hb x5).setCell (p := ⟨b, 6, none⟩) hb x6).setCell (p := ⟨b, 7, none⟩) hb x7).setCell (p := ⟨b, 8, none⟩) hb x8).setCell (p := ⟨b, 9, none⟩) hb x9).setCell (p := ⟨b, 10, none⟩) hb x10).setCell (p := ⟨b, 11, none⟩) hb x11).setCell (p := ⟨b, 12, none⟩) hb x12).setCell (p := ⟨b, 13, none⟩) hb x13)
theorem put14_blk {w : World} {b : Nat} {y0 y1 y2 y3 y4 y5 y6 y7 y8 y9 y10 y11 y12 y13 : Value} {t : TypeId} (h : Blk w b #[y0, y1, y2, y3, y4, y5, y6, y7, y8, y9, y10, y11, y12, y13] t) (x0 x1 x2 x3 x4 x5 x6 x7 x8 x9 x10 x11 x12 x13 : Value) : Blk (put14 w b x0 x1 x2 x3 x4 x5 x6 x7 x8 x9 x10 x11 x12 x13) b #[x0, x1, x2, x3, x4, x5, x6, x7, x8, x9, x10, x11, x12, x13] t := by
  have h2 := ((((((((((((((h.set 0 x0).set 1 x1).set 2 x2).set 3 x3).set 4 x4).set 5 x5).set 6 x6).set 7 x7).set 8 x8).set 9 x9).set 10 x10).set 11 x11).set 12 x12).set 13 x13)
  simpa using h2
end Go.Proofs.YtbfefocehnafgaaDoor.B
namespace Go.Proofs.YtbfefocehnafgaaDoor.B
set_option maxRecDepth 100000
open Go.ChangeShapes Go.WideShapes Go.ChangeAt Go.RowKit

end Go.Proofs.YtbfefocehnafgaaDoor.B
