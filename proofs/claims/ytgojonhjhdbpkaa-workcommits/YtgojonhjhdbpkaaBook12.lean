/- The book in memory behind one record more. -/
import Derived.Test.YtgojonhjhdbpkaaBook10
namespace Go.Proofs.Ytgojonhjhdbpkaa.B
set_option maxRecDepth 100000
open Go.ChangeShapes Go.WideShapes Go.ChangeAt Go.RowKit

def putTx : List TxE → TxE → List TxE
  | [], e => [e]
  | t :: tx, e => if e.key = t.key then e :: tx else t :: putTx tx e
theorem putTx_eq (tx : List TxE) (e : TxE) : putI (fun q => e.key == q) e.key (txVal e.state e.last e.sv) (tx.map TxE.ent) = (putTx tx e).map TxE.ent := by
  induction tx with
  | nil => rfl
  | cons t tx ih =>
    simp only [List.map_cons, putI, putTx]
    by_cases h : e.key = t.key
    · simp [h]
    · have hb : (e.key == t.key) = false := by simpa using h
      rw [hb, if_neg h, List.map_cons, ih]
      rfl
abbrev Apart (s t : TxE) : Prop := s.key ≠ t.key ∧ ∀ g, s.sv.ownBlock = some g → t.sv.ownBlock ≠ some g
theorem Apart.symm {s t : TxE} (h : Apart s t) : Apart t s := ⟨Ne.symm h.1, fun g hg hs => h.2 g hs hg⟩
theorem mem_putTx {tx : List TxE} (ha : tx.Pairwise Apart) (e q : TxE) : q ∈ putTx tx e → q = e ∨ (q ∈ tx ∧ q.key ≠ e.key) := by
  induction tx with
  | nil => intro h; simp [putTx] at h; exact Or.inl h
  | cons t tx ih =>
    have hp := List.pairwise_cons.1 ha
    simp only [putTx]
    by_cases h : e.key = t.key
    · rw [if_pos h]
      intro hq
      rcases List.mem_cons.1 hq with hq | hq
      · exact Or.inl hq
      · exact Or.inr ⟨List.mem_cons_of_mem _ hq, fun k => (hp.1 q hq).1 (by rw [k, h])⟩
    · rw [if_neg h]
      intro hq
      rcases List.mem_cons.1 hq with hq | hq
      · exact Or.inr ⟨by rw [hq]; exact List.mem_cons_self, by rw [hq]; exact fun k => h k.symm⟩
      · rcases ih hp.2 hq with hq | hq
        · exact Or.inl hq
        · exact Or.inr ⟨List.mem_cons_of_mem _ hq.1, hq.2⟩
theorem putTx_mem (tx : List TxE) (e : TxE) : e ∈ putTx tx e := by
  induction tx with
  | nil => simp [putTx]
  | cons t tx ih =>
    simp only [putTx]
    split
    · exact List.mem_cons_self
    · exact List.mem_cons_of_mem _ ih
theorem putTx_old {tx : List TxE} {e q : TxE} (hq : q ∈ tx) (hk : q.key ≠ e.key) : q ∈ putTx tx e := by
  induction tx with
  | nil => cases hq
  | cons t tx ih =>
    simp only [putTx]
    split
    · rename_i h
      rcases List.mem_cons.1 hq with hq | hq
      · exact absurd (by rw [hq, h]) hk
      · exact List.mem_cons_of_mem _ hq
    · rcases List.mem_cons.1 hq with hq | hq
      · rw [hq]; exact List.mem_cons_self
      · exact List.mem_cons_of_mem _ (ih hq)
theorem putTx_apart {tx : List TxE} (ha : tx.Pairwise Apart) {e : TxE} (he : ∀ q ∈ tx, q.key ≠ e.key → Apart e q) : (putTx tx e).Pairwise Apart := by
  induction tx with
  | nil => simp [putTx]
  | cons t tx ih =>
    have hp := List.pairwise_cons.1 ha
    simp only [putTx]
    by_cases h : e.key = t.key
    · rw [if_pos h]
      exact List.pairwise_cons.2 ⟨fun q hq => he q (List.mem_cons_of_mem _ hq) (fun k => (hp.1 q hq).1 (by rw [k, h])), hp.2⟩
    · rw [if_neg h]
      refine List.pairwise_cons.2 ⟨fun q hq => ?_, ih hp.2 fun q hq hk => he q (List.mem_cons_of_mem _ hq) hk⟩
      rcases mem_putTx hp.2 e q hq with rfl | hq
      · exact (he t List.mem_cons_self (fun k => h k.symm)).symm
      · exact hp.1 q hq.1
theorem own_notblk {w : World} {base pb : Nat} {e t : TypeId} {size n : Nat} {v : Value} {xs : List Value} {c : Array Value} (h : w.ownsRow base e size v n xs) (hb : Blk w pb c t) (hne : e ≠ t) : ∀ k, v.ownBlock = some k → k ≠ pb := by
  intro k hk hp
  rcases h.2 with ⟨rfl, _⟩ | ⟨g, cap, cur, rfl, _, hg, _⟩
  · simp [Value.ownBlock] at hk
  · simp only [Value.ownBlock, Option.some.injEq] at hk
    subst hk
    unfold Blk at hb
    rw [← hp] at hb
    rw [hg] at hb
    injection hb with hb
    injection hb with _ h2 _
    exact hne h2
theorem own_from {w : World} {base : Nat} {e : TypeId} {size n : Nat} {v : Value} {xs : List Value} (h : w.ownsRow base e size v n xs) : ∀ k, v.ownBlock = some k → base ≤ k := by
  intro k hk
  rcases h.2 with ⟨rfl, _⟩ | ⟨g, cap, cur, rfl, hg, _⟩
  · simp [Value.ownBlock] at hk
  · simp only [Value.ownBlock, Option.some.injEq] at hk
    omega
theorem below_gr {n : Nat} {row : Option Nat} {a b c : World} (h : Below n a b) (hn : n ≤ b.heap.size) (k : Gr row b c) (hr : ∀ r, row = some r → n ≤ r) : Below n a c :=
  Below.trans h ⟨k.os, k.tape, k.output, k.size, fun i hi => k.block i (Nat.lt_of_lt_of_le hi hn) (fun e => by have := hr i e.symm; omega)⟩
/-- What Put does to the world, step by step. -/
structure Steps (base pb mt mh : Nat) (sv sv' : Value) (v : Value) (w w2 w3 w4 w5 w6 w7 : World) : Prop where
  a : Ext w w2
  b : Gr (some pb) w2 w3
  c : Gr (some mh) w3 w4
  d : Gr sv.ownBlock w4 w5
  e : Only mt w5 w6
  f : w7 = w6.setCell ⟨pb, 14, none⟩ v
/-- Nothing else that was there has turned, and what the book has come to own is new. -/
structure Else (pb mt mh : Nat) (tx tx' : List TxE) (w w' : World) : Prop where
  size : w.heap.size ≤ w'.heap.size
  block : ∀ k, k < w.heap.size → k ≠ pb → k ≠ mt → k ≠ mh → (∀ t ∈ tx, t.sv.ownBlock ≠ some k) → w'.heap[k]? = w.heap[k]?
  rows : ∀ t ∈ tx', ∀ g, t.sv.ownBlock = some g → (∃ u ∈ tx, u.sv.ownBlock = some g) ∨ w.heap.size ≤ g
theorem book_else {base pb mt mh : Nat} {l : List Rc} {tx : List TxE} {ho : List HE} {e : TxE} {sv sv' : Value} {v : Value} {w w2 w3 w4 w5 w6 w7 : World} (h : BookOk w base pb mt mh l tx ho)
    (st : Steps base pb mt mh sv sv' v w w2 w3 w4 w5 w6 w7) (hwho : (∃ t ∈ tx, t.key = e.key ∧ t.sv = sv) ∨ ((∀ t ∈ tx, t.key ≠ e.key) ∧ sv = .slice none 0 0)) (he : e.sv = sv')
    (hsv' : ∀ g, sv'.ownBlock = some g → sv.ownBlock = some g ∨ w4.heap.size ≤ g) : Else pb mt mh tx (putTx tx e) w w7 := by
  obtain ⟨sa, sb, sc, sd, se, rfl⟩ := st
  have s4 : w.heap.size ≤ w4.heap.size := Nat.le_trans (Nat.le_trans sa.size sb.size) sc.size
  refine ⟨?_, fun k hk h1 h2 h3 h4 => ?_, fun t ht g hg => ?_⟩
  · rw [World.size_setCell, se.size]
    exact Nat.le_trans s4 sd.size
  · have nsv : some k ≠ sv.ownBlock := by
      rcases hwho with ⟨t, ht, _, hts⟩ | ⟨_, rfl⟩
      · rw [← hts]; exact fun x => h4 t ht x.symm
      · simp [Value.ownBlock]
    rw [Below.heap_setCell _ _ _ _ h1, se.block k h2, sd.block k (by omega) nsv, sc.block k (Nat.lt_of_lt_of_le hk (Nat.le_trans sa.size sb.size)) (by simpa using h3),
      sb.block k (Nat.lt_of_lt_of_le hk sa.size) (by simpa using h1), sa.block k hk]
  · rcases mem_putTx h.apart e t ht with rfl | ⟨ht, _⟩
    · rw [he] at hg
      rcases hsv' g hg with h1 | h1
      · rcases hwho with ⟨u, hu, _, hus⟩ | ⟨_, rfl⟩
        · exact Or.inl ⟨u, hu, by rw [hus]; exact h1⟩
        · simp [Value.ownBlock] at h1
      · exact Or.inr (by omega)
    · exact Or.inl ⟨t, ht, hg⟩
theorem book_next {base pb mt mh : Nat} {l : List Rc} {tx : List TxE} {ho ho' : List HE} {r : Rc} {sv sv' : Value} {w w2 w3 w4 w5 w6 w7 : World} (h : BookOk w base pb mt mh l tx ho) (hr : recErr (l.length + 1 : Nat) r = 0) (hf : followsR l r = true)
    (st : Steps base pb mt mh sv sv' (.int .i64 ((l.length : Int) + 1)) w w2 w3 w4 w5 w6 w7)
    (hwho : (∃ t ∈ tx, t.key = r.txn ∧ t.sv = sv) ∨ ((∀ t ∈ tx, t.key ≠ r.txn) ∧ sv = .slice none 0 0))
    (B3 : Blk w3 pb (bookCells (pagesR (l ++ [r])) mt mh (l.length : Nat)) 71)
    (M4 : MapAt keyP w4 mh (ho'.map hoEnt)) (hH : Holds ho' (heldBy (l ++ [r])))
    (O5 : w5.ownsRow base 39 8 sv' (standB (l ++ [r]) r.txn).length (flat (standB (l ++ [r]) r.txn))) (hsv' : ∀ g, sv'.ownBlock = some g → sv.ownBlock = some g ∨ w4.heap.size ≤ g)
    (M6 : MapAt keyI w6 mt (putI (fun q => r.txn == q) r.txn (txVal r.kind ((l.length : Int) + 1) sv') (tx.map TxE.ent))) :
    Below base w w7 ∧ BookOk w7 base pb mt mh (l ++ [r]) (putTx tx ⟨r.txn, r.kind, (l.length : Int) + 1, sv', standB (l ++ [r]) r.txn⟩) ho' := by
  obtain ⟨sa, sb, sc, sd, se, rfl⟩ := st
  have hpm : pb ≠ mh := blk_notmap h.blk h.hos
  have hpt : pb ≠ mt := blk_notmap h.blk h.txs
  have hsvo : ∀ g, sv.ownBlock = some g → base ≤ g ∧ g ≠ pb ∧ some g ≠ some mt ∧ some g ≠ some mh := by
    intro g hg
    rcases hwho with ⟨t, ht, _, hts⟩ | ⟨_, rfl⟩
    · have ho := h.own t ht
      rw [hts] at ho
      exact ⟨own_from ho g hg, own_notblk ho h.blk (by decide) g hg, by rw [← hg]; exact own_notmap ho h.txs, by rw [← hg]; exact own_notmap ho h.hos⟩
    · simp [Value.ownBlock] at hg
  have nsv : ∀ k, some k = sv.ownBlock → base ≤ k ∧ k ≠ pb ∧ some k ≠ some mt ∧ some k ≠ some mh := fun k hk => hsvo k hk.symm
  have hge := h.ge
  have hpl := h.blk.lt
  have hb0 : base ≤ w.heap.size := by omega
  have s2 : base ≤ w2.heap.size := Nat.le_trans hb0 sa.size
  have s3 : base ≤ w3.heap.size := Nat.le_trans s2 sb.size
  have s4 : base ≤ w4.heap.size := Nat.le_trans s3 sc.size
  have s5 : base ≤ w5.heap.size := Nat.le_trans s4 sd.size
  have s6 : base ≤ w6.heap.size := by rw [se.size]; exact s5
  -- the frame
  have b2 : Below base w w2 := Below.mono sa hb0
  have b3 := below_gr b2 s2 sb (fun k hk => by injection hk with hk; omega)
  have b4 := below_gr b3 s3 sc (fun k hk => by injection hk with hk; omega)
  have b5 := below_gr b4 s4 sd (fun k hk => (hsvo k hk).1)
  have b6 := below_gr b5 s5 (Gr.of_only se) (fun k hk => by injection hk with hk; omega)
  have b7 : Below base w (w6.setCell ⟨pb, 14, none⟩ (.int .i64 ((l.length : Int) + 1))) := Below.setCell b6 (by dsimp only; omega) _
  -- the book's own block
  have B4 := B3.gr sc (by simpa using hpm)
  have B5 := B4.gr sd (fun k => (nsv pb k).2.1 rfl)
  have B6 := B5.gr (Gr.of_only se) (by simpa using hpt)
  have B7 := B6.set 14 (.int .i64 ((l.length : Int) + 1))
  have gset : Gr (some pb) w6 (w6.setCell ⟨pb, 14, none⟩ (.int .i64 ((l.length : Int) + 1))) := (Gr.refl (some pb) w6).set (p := ⟨pb, 14, none⟩) (Or.inr rfl) _
  -- the maps
  have M7 := M6.gr gset (by simpa using Ne.symm hpt)
  have H5 := M4.gr sd (fun k => (nsv mh k).2.2.2 rfl)
  have H6 := H5.gr (Gr.of_only se) (by simpa using Ne.symm h.ne)
  have H7 := H6.gr gset (by simpa using Ne.symm hpm)
  -- the rows of the others
  have T2 := h.txs.ext sa
  have hblk2 := h.blk.ext sa
  have old : ∀ t ∈ tx, t.key ≠ r.txn → (∀ g, t.sv.ownBlock = some g → sv.ownBlock ≠ some g ∧ g < w4.heap.size) ∧ (w6.setCell ⟨pb, 14, none⟩ (.int .i64 ((l.length : Int) + 1))).ownsRow base 39 8 t.sv t.recs.length (flat t.recs) := by
    intro t ht hk
    have o1 := h.own t ht
    have o2 := own_ext o1 sa
    have npb := own_notblk o1 h.blk (by decide)
    have nmt := own_notmap o1 h.txs
    have nmh := own_notmap o1 h.hos
    have nsv2 : ∀ g, t.sv.ownBlock = some g → sv.ownBlock ≠ some g := by
      intro g hg
      rcases hwho with ⟨u, hu, hku, hus⟩ | ⟨_, rfl⟩
      · rw [← hus]
        have hne : u ≠ t := fun e => hk (by rw [← e, hku])
        exact fun hh => (pairwise_mem (fun a b => Apart.symm) h.apart u hu t ht hne).2 g hh hg
      · simp [Value.ownBlock]
    have o3 := own_gr o2 sb (fun k hk2 e => by injection e with e; exact npb k hk2 e)
    have o4 := own_gr o3 sc (fun k hk2 e => by injection e with e; rw [e] at hk2; exact nmh hk2)
    have o5 := own_gr o4 sd (fun k hk2 e => nsv2 k hk2 e.symm)
    have o6 := own_gr o5 (Gr.of_only se) (fun k hk2 e => by injection e with e; rw [e] at hk2; exact nmt hk2)
    exact ⟨fun g hg => ⟨nsv2 g hg, own_lt o4 g hg⟩, own_gr o6 gset (fun k hk2 e => by injection e with e; exact npb k hk2 e)⟩
  have new : (w6.setCell ⟨pb, 14, none⟩ (.int .i64 ((l.length : Int) + 1))).ownsRow base 39 8 sv' (standB (l ++ [r]) r.txn).length (flat (standB (l ++ [r]) r.txn)) := by
    have npb := own_notblk O5 B5 (by decide)
    have T5 : ∀ k, sv'.ownBlock = some k → k ≠ mt := by
      intro k hk e
      have : MapAt keyI w4 mt (tx.map TxE.ent) := (T2.gr sb (by simpa using Ne.symm hpt)).gr sc (by simpa using h.ne)
      have hT5 := this.gr sd (fun k => (nsv mt k).2.2.1 rfl)
      exact own_notmap O5 hT5 (by rw [hk, e])
    have o6 := own_gr O5 (Gr.of_only se) (fun k hk e => by injection e with e; exact T5 k hk e)
    exact own_gr o6 gset (fun k hk e => by injection e with e; exact npb k hk e)
  have hlast : lastR (l ++ [r]) r.txn = l.length + 1 := by rw [lastR_snoc]; simp
  refine ⟨b7, ?_, ?_, H7, ?_, ?_, hge, h.ne, (right_snoc l r).2 ⟨h.right, hr, hf⟩, ?_, ?_, hH.is, hH.all, hH.once⟩
  · have e14 : (bookCells (pagesR (l ++ [r])) mt mh (l.length : Nat)).setIfInBounds 14 (.int .i64 ((l.length : Int) + 1)) = bookCells (pagesR (l ++ [r])) mt mh ((l ++ [r]).length : Nat) := by
      obtain ⟨a0, a1, a2, a3, a4, a5, a6, a7, a8, a9, a10, a11, hps⟩ := list12 _ (pagesR_len (l ++ [r]))
      rw [hps, List.length_append, List.length_singleton]
      rfl
    rw [e14] at B7
    exact B7
  · rw [← putTx_eq]
    exact M7
  · intro t ht
    rcases mem_putTx h.apart _ t ht with rfl | ⟨ht, hk⟩
    · exact new
    · exact (old t ht hk).2
  · refine putTx_apart h.apart fun q hq hk => ⟨fun e => hk e.symm, fun g hg hqg => ?_⟩
    have hold := (old q hq hk).1 g hqg
    rcases hsv' g hg with h1 | h1
    · exact hold.1 h1
    · omega
  · intro t ht
    rcases mem_putTx h.apart _ t ht with rfl | ⟨ht, hk⟩
    · refine ⟨?_, ?_, rfl, ?_⟩
      · dsimp only; rw [stateR_snoc hr hf, if_pos rfl]
      · dsimp only; rw [hlast]; rfl
      · dsimp only; rw [hlast]; omega
    · have hk' : r.txn ≠ t.key := fun e => hk e.symm
      have hb : (r.txn == t.key) = false := by simpa using hk'
      obtain ⟨t1, t2, t3, t4⟩ := h.tells t ht
      refine ⟨?_, ?_, ?_, ?_⟩
      · rw [stateR_snoc hr hf, if_neg hk']; exact t1
      · rw [lastR_snoc, hb]; exact t2
      · rw [standB_other hr hf hk']; exact t3
      · rw [lastR_snoc, hb]; exact t4
  · intro k hk
    by_cases e : r.txn = k
    · exact ⟨_, putTx_mem _ _, e⟩
    · have hb : (r.txn == k) = false := by simpa using e
      rw [lastR_snoc, hb] at hk
      obtain ⟨t, ht, hkt⟩ := h.all k hk
      exact ⟨t, putTx_old ht (by dsimp only; rw [hkt]; exact fun x => e x.symm), hkt⟩
end Go.Proofs.Ytgojonhjhdbpkaa.B
