/- What turn, hold and with do for a record that may follow a right log. The book in memory behind one record more. The contract of the book's Put. The contracts of the book's New and Read, and of the log's Check and Pages. The contracts of the log's Check, Pages and State. -/
import Derived.Test.YtibfgbmhmdggmaaGreatDoorBookC
namespace Go.Proofs.YtibfgbmhmdggmaaGreatDoor.B
set_option maxHeartbeats 32000000
set_option maxRecDepth 100000
open Go.ChangeShapes Go.WideShapes Go.ChangeAt Go.RowKit
theorem list12 (ps : List Int) (h : ps.length = 12) : ∃ a0 a1 a2 a3 a4 a5 a6 a7 a8 a9 a10 a11, ps = [a0, a1, a2, a3, a4, a5, a6, a7, a8, a9, a10, a11] := by
 match ps, h with
 | [a0, a1, a2, a3, a4, a5, a6, a7, a8, a9, a10, a11], _ => exact ⟨_, _, _, _, _, _, _, _, _, _, _, _, rfl⟩
theorem pg_ok {a b c d : Int} (ha : 0 ≤ a ∧ a ≤ 99) (hb : 0 ≤ b ∧ b ≤ 99) (hc : 0 ≤ c ∧ c ≤ 99) (hd : 0 ≤ d ∧ d ≤ 60) : pgErr ⟨a, b, c, d⟩ = 0 := by
 simp [pgErr, out]; omega
theorem set_ok {cell val n : Int} (ha : 0 ≤ cell ∧ cell ≤ 2) (hb : 0 ≤ val ∧ val ≤ 99) (hc : 1 ≤ n ∧ n ≤ 60) : setBad cell val n = false := by
 simp [setBad, out]; omega
theorem turn_ok {l : List Rc} {r : Rc} (hR : Right l) (he : recErr (l.length + 1 : Nat) r = 0) {w : World} {pb mt mh : Nat} {sz : Int} (hB : Blk w pb (bookCells (pagesR l) mt mh sz) 134) :
  Calls Tryz.prog 175 #[.pointer (some ⟨pb, 0, none⟩), .int .i64 ((l.length : Int) + 1), r.val] w fun e w' => e = .returned (.tuple #[]) ∧ Gr (some pb) w w' ∧ Blk w' pb (bookCells (pagesR (l ++ [r])) mt mh sz) 134 := by
 rw [pagesR_snoc]
 cases ht : turns r
 ·refine (turn_not _ pb w ht).mono ?_
  rintro e w' ⟨rfl, hw⟩
  exact ⟨rfl, Gr.of_ext hw, hB.ext hw⟩
 ·rw [if_pos rfl]
  have hf := recErr_fits he ht
  have hv := recErr_vals he ht
  have hn := recErr_num he
  have hin := right_pages l hR
  have hl := pagesR_len l
  generalize pagesR l = ps at *
  obtain ⟨a0, a1, a2, a3, a4, a5, a6, a7, a8, a9, a10, a11, rfl⟩ := list12 ps hl
  obtain ⟨kind, txn, prev, page, cell, old, new, next⟩ := r
  dsimp only at hf hv
  have hs : setBad cell new ((l.length : Int) + 1) = false := set_ok (by omega) (by omega) (by omega)
  have i0 : 0 ≤ a0 ∧ a0 ≤ 99 := (hin 0).1 (by decide)
  have i1 : 0 ≤ a1 ∧ a1 ≤ 99 := (hin 1).1 (by decide)
  have i2 : 0 ≤ a2 ∧ a2 ≤ 99 := (hin 2).1 (by decide)
  have i3 : 0 ≤ a3 ∧ a3 ≤ 60 := (hin 3).2 (by decide)
  have i4 : 0 ≤ a4 ∧ a4 ≤ 99 := (hin 4).1 (by decide)
  have i5 : 0 ≤ a5 ∧ a5 ≤ 99 := (hin 5).1 (by decide)
  have i6 : 0 ≤ a6 ∧ a6 ≤ 99 := (hin 6).1 (by decide)
  have i7 : 0 ≤ a7 ∧ a7 ≤ 60 := (hin 7).2 (by decide)
  have i8 : 0 ≤ a8 ∧ a8 ≤ 99 := (hin 8).1 (by decide)
  have i9 : 0 ≤ a9 ∧ a9 ≤ 99 := (hin 9).1 (by decide)
  have i10 : 0 ≤ a10 ∧ a10 ≤ 99 := (hin 10).1 (by decide)
  have i11 : 0 ≤ a11 ∧ a11 ≤ 60 := (hin 11).2 (by decide)
  have hp : page = 0 ∨ page = 1 ∨ page = 2 := by omega
  have hc : cell = 0 ∨ cell = 1 ∨ cell = 2 := by omega
  rcases hp with rfl | rfl | rfl
  ·refine (turn_0 a0 a1 a2 a3 a4 a5 a6 a7 a8 a9 a10 a11 mt mh pb sz ((l.length : Int) + 1) kind txn prev cell old new next w hB ht).mono ?_
   rintro e w' ⟨rfl, g, B⟩
   refine ⟨rfl, g, ?_⟩
   rw [setOf_good (pg_ok i0 i1 i2 i3) hs] at B
   rcases hc with rfl | rfl | rfl <;> exact B
  ·refine (turn_1 a0 a1 a2 a3 a4 a5 a6 a7 a8 a9 a10 a11 mt mh pb sz ((l.length : Int) + 1) kind txn prev cell old new next w hB ht).mono ?_
   rintro e w' ⟨rfl, g, B⟩
   refine ⟨rfl, g, ?_⟩
   rw [setOf_good (pg_ok i4 i5 i6 i7) hs] at B
   rcases hc with rfl | rfl | rfl <;> exact B
  ·refine (turn_2 a0 a1 a2 a3 a4 a5 a6 a7 a8 a9 a10 a11 mt mh pb sz ((l.length : Int) + 1) kind txn prev cell old new next w hB ht).mono ?_
   rintro e w' ⟨rfl, g, B⟩
   refine ⟨rfl, g, ?_⟩
   rw [setOf_good (pg_ok i8 i9 i10 i11) hs] at B
   rcases hc with rfl | rfl | rfl <;> exact B
theorem own_notmap {w : World} {base mh : Nat} {e : TypeId} {size n : Nat} {v : Value} {xs : List Value} {K : Type} {f : K → Value} {al : List (K × Value)} (h : w.ownsRow base e size v n xs) (hm : MapAt f w mh al) : v.ownBlock ≠ some mh := by
 obtain ⟨es, c, hh, _⟩ := hm
 rcases h.2 with ⟨rfl, _⟩ | ⟨g, cap, cur, rfl, _, hg, _⟩
 ·simp [Value.ownBlock]
 ·intro k
  simp only [Value.ownBlock, Option.some.injEq] at k
  rw [k, hh] at hg
  cases hg
theorem blk_notmap {w : World} {pb mh : Nat} {c : Array Value} {t : TypeId} {K : Type} {f : K → Value} {al : List (K × Value)} (h : Blk w pb c t) (hm : MapAt f w mh al) : pb ≠ mh := by
 obtain ⟨es, cl, hh, _⟩ := hm
 intro k
 unfold Blk at h
 rw [k, hh] at h
 cases h
theorem hold_ok {l : List Rc} {r : Rc} {w : World} {base pb mt mh : Nat} {pc : Array Value} {al : List (Int × Value)} {ho : List HE} {s last : Int} {sv : Value} (hR : Right l) (he : recErr (l.length + 1 : Nat) r = 0) (hf : followsR l r = true)
  (hB : Blk w pb pc 134) (h12 : pc[12]? = some (.map (some mt))) (h13 : pc[13]? = some (.map (some mh))) (hT : MapAt keyI w mt al) (hM : MapAt keyP w mh (ho.map hoEnt)) (hlk : lookI al r.txn (txVal 0 0 (.slice none 0 0)) = txVal s last sv)
  (hown : w.ownsRow base 81 8 sv (standB l r.txn).length (flat (standB l r.txn))) (hH : Holds ho (heldBy l)) :
  Calls Tryz.prog 176 #[.pointer (some ⟨pb, 0, none⟩), r.val] w fun e w' => e = .returned (.tuple #[]) ∧ Gr (some mh) w w' ∧ ∃ ho', MapAt keyP w' mh (ho'.map hoEnt) ∧ Holds ho' (heldBy (l ++ [r])) := by
 have hne := blk_notmap hB hM
 have hb := hH.bound (held_bound hR) (r.page, r.cell)
 rcases recErr_kind he with k | k | k | k
 ·have hh := holds_write hR he hf k hH
  generalize heldBy (l ++ [r]) = c' at *
  obtain ⟨kind, txn, prev, page, cell, old, new, next⟩ := r
  dsimp only at k hb hh
  subst k
  refine (hold_1 pc mh pb ho txn prev page cell old new next w hB h13 hM hne hb.1 (by omega)).mono ?_
  rintro e w' ⟨rfl, g, m⟩
  exact ⟨rfl, g, _, m, hh⟩
 ·refine (hold_2 pb r w k).mono ?_
  rintro e w' ⟨rfl, hw⟩
  exact ⟨rfl, Gr.of_ext hw, ho, hM.ext hw, holds_commit he hf k hH⟩
 ·have hh := holds_back hR he hf k hH
  generalize heldBy (l ++ [r]) = c' at *
  obtain ⟨kind, txn, prev, page, cell, old, new, next⟩ := r
  dsimp only at k hb hh
  subst k
  refine (hold_3 pc mh pb ho txn prev page cell old new next w hB h13 hM hne hh.2 (by omega)).mono ?_
  rintro e w' ⟨rfl, g, m⟩
  exact ⟨rfl, g, _, m, hh.1⟩
 ·have hh := holds_end he hf k hH
  have hp := gos_pos hR (t := r.txn) hH
  have hs := stand_len hR r.txn
  generalize heldBy (l ++ [r]) = c' at *
  obtain ⟨kind, txn, prev, page, cell, old, new, next⟩ := r
  dsimp only at k hb hh hp hlk hown hs
  subst k
  refine (hold_4 pc mt mh pb base ho al s last sv (standB l txn) txn prev page cell old new next w hB h12 h13 hT hM hne hlk hown (own_notmap hown hM) hs hp).mono ?_
  rintro e w' ⟨rfl, g, m⟩
  exact ⟨rfl, g, _, m, hh⟩
theorem with_ok {l : List Rc} {r : Rc} {w : World} {base : Nat} (s last n : Int) {sv : Value} (hR : Right l) (he : recErr (l.length + 1 : Nat) r = 0) (hf : followsR l r = true) (hown : w.ownsRow base 81 8 sv (standB l r.txn).length (flat (standB l r.txn))) (hb : base ≤ w.heap.size) :
  Calls Tryz.prog 177 #[txVal s last sv, .int .i64 n, r.val] w fun e w' => ∃ sv', e = .returned (txVal r.kind n sv') ∧ w'.ownsRow base 81 8 sv' (standB (l ++ [r]) r.txn).length (flat (standB (l ++ [r]) r.txn)) ∧ (∀ g, sv'.ownBlock = some g → sv.ownBlock = some g ∨ w.heap.size ≤ g) ∧ Gr sv.ownBlock w w' := by
 have hs := stand_len hR r.txn
 rcases recErr_kind he with k | k
 ·rw [standB_write he hf k]
  refine (with_write s last n sv (standB l r.txn) base r w hown hs k hb).mono ?_
  rintro e w' ⟨sv', rfl, ho, hor, g⟩
  refine ⟨sv', by rw [k], ho, fun b hb => ?_, g⟩
  rcases hor with h | ⟨x, hx, h⟩
  ·rw [h] at hb; exact Or.inl hb
  ·rw [h] at hb; injection hb with hb; subst hb; exact Or.inr hx
 ·have h3 : r.kind = 3 → standB l r.txn ≠ [] := fun k3 => by
   obtain ⟨st, x, hst, _⟩ := back_last hf k3
   rw [hst]; simp
  have hst : standB (l ++ [r]) r.txn = standK r.kind (standB l r.txn) := by
   unfold standK
   rcases k with k | k | k
   ·rw [standB_commit he hf k, k]; rfl
   ·rw [standB_back hR he hf k, k]; rfl
   ·rw [standB_end he hf k, k]; rfl
  obtain ⟨o1, o2⟩ := own_keep (k := r.kind) hown h3
  obtain ⟨a, m, cap, rfl⟩ : ∃ a m cap, sv = .slice a m cap := own_slice hown
  have hm := own_len hown
  have hmc : m ≤ cap ∧ (0 < m → a ≠ none) := by
   rcases hown.2 with ⟨e, _⟩ | ⟨g, cap', cur, e, _, _, hc, _⟩
   ·injection e with e1 e2 e3; omega
   ·injection e with e1 e2 e3; exact ⟨by omega, fun _ => by rw [e1]; simp⟩
  refine (with_other s last n a m cap r w k (fun k3 => ?_) (by omega) hmc.1).mono ?_
  ·have : 0 < m := by
    rw [hm]; exact List.length_pos_iff.2 (h3 k3)
   exact ⟨this, hmc.2 this⟩
  ·rintro e w' ⟨rfl, hw⟩
   refine ⟨_, rfl, ?_, fun b hb => Or.inl (o2 b hb), Gr.of_ext hw⟩
   rw [hst]
   exact own_ext o1 hw
def putTx : List TxE → TxE → List TxE
 | [], e => [e]
 | t :: tx, e => if e.key = t.key then e :: tx else t :: putTx tx e
theorem putTx_eq (tx : List TxE) (e : TxE) : putI (fun q => e.key == q) e.key (txVal e.state e.last e.sv) (tx.map TxE.ent) = (putTx tx e).map TxE.ent := by
 induction tx with
 | nil => rfl
 | cons t tx ih =>
  simp only [List.map_cons, putI, putTx]
  by_cases h : e.key = t.key
  ·simp [h]
  ·have hb : (e.key == t.key) = false := by simpa using h
   rw [hb, if_neg h, List.map_cons, ih]
   rfl
abbrev Apart (s t : TxE) : Prop := s.key ≠ t.key ∧ ∀ g, s.sv.ownBlock = some g → t.sv.ownBlock ≠ some g
theorem Apart.symm {s t : TxE} (h : Apart s t) : Apart t s := ⟨Ne.symm h.1, fun g hg hs => h.2 g hs hg⟩
theorem mem_putTx {tx : List TxE} (ha : tx.Pairwise Apart) (e q : TxE) : q ∈ putTx tx e → q = e ∨ (q ∈ tx ∧ q.key ≠ e.key) := by
 induction tx with
 | nil => intro h; simp [putTx] at h; exact Or.inl h
 | cons t tx ih =>
  have hp := List.pairwise_cons.1 ha
  simp only [putTx]
  by_cases h : e.key = t.key
  ·rw [if_pos h]
   intro hq
   rcases List.mem_cons.1 hq with hq | hq
   ·exact Or.inl hq
   ·exact Or.inr ⟨List.mem_cons_of_mem _ hq, fun k => (hp.1 q hq).1 (by rw [k, h])⟩
  ·rw [if_neg h]
   intro hq
   rcases List.mem_cons.1 hq with hq | hq
   ·exact Or.inr ⟨by rw [hq]; exact List.mem_cons_self, by rw [hq]; exact fun k => h k.symm⟩
   ·rcases ih hp.2 hq with hq | hq
    ·exact Or.inl hq
    ·exact Or.inr ⟨List.mem_cons_of_mem _ hq.1, hq.2⟩
theorem putTx_mem (tx : List TxE) (e : TxE) : e ∈ putTx tx e := by
 induction tx with
 | nil => simp [putTx]
 | cons t tx ih =>
  simp only [putTx]
  split
  ·exact List.mem_cons_self
  ·exact List.mem_cons_of_mem _ ih
theorem putTx_old {tx : List TxE} {e q : TxE} (hq : q ∈ tx) (hk : q.key ≠ e.key) : q ∈ putTx tx e := by
 induction tx with
 | nil => cases hq
 | cons t tx ih =>
  simp only [putTx]
  split
  ·rename_i h
   rcases List.mem_cons.1 hq with hq | hq
   ·exact absurd (by rw [hq, h]) hk
   ·exact List.mem_cons_of_mem _ hq
  ·rcases List.mem_cons.1 hq with hq | hq
   ·rw [hq]; exact List.mem_cons_self
   ·exact List.mem_cons_of_mem _ (ih hq)
theorem putTx_apart {tx : List TxE} (ha : tx.Pairwise Apart) {e : TxE} (he : ∀ q ∈ tx, q.key ≠ e.key → Apart e q) : (putTx tx e).Pairwise Apart := by
 induction tx with
 | nil => simp [putTx]
 | cons t tx ih =>
  have hp := List.pairwise_cons.1 ha
  simp only [putTx]
  by_cases h : e.key = t.key
  ·rw [if_pos h]
   exact List.pairwise_cons.2 ⟨fun q hq => he q (List.mem_cons_of_mem _ hq) (fun k => (hp.1 q hq).1 (by rw [k, h])), hp.2⟩
  ·rw [if_neg h]
   refine List.pairwise_cons.2 ⟨fun q hq => ?_, ih hp.2 fun q hq hk => he q (List.mem_cons_of_mem _ hq) hk⟩
   rcases mem_putTx hp.2 e q hq with rfl | hq
   ·exact (he t List.mem_cons_self (fun k => h k.symm)).symm
   ·exact hp.1 q hq.1
theorem own_notblk {w : World} {base pb : Nat} {e t : TypeId} {size n : Nat} {v : Value} {xs : List Value} {c : Array Value} (h : w.ownsRow base e size v n xs) (hb : Blk w pb c t) (hne : e ≠ t) : ∀ k, v.ownBlock = some k → k ≠ pb := by
 intro k hk hp
 rcases h.2 with ⟨rfl, _⟩ | ⟨g, cap, cur, rfl, _, hg, _⟩
 ·simp [Value.ownBlock] at hk
 ·simp only [Value.ownBlock, Option.some.injEq] at hk
  subst hk
  unfold Blk at hb
  rw [← hp] at hb
  rw [hg] at hb
  injection hb with hb
  injection hb with _ h2 _
  exact hne h2
theorem own_fr {w : World} {base : Nat} {e : TypeId} {size n : Nat} {v : Value} {xs : List Value} (h : w.ownsRow base e size v n xs) : ∀ k o, v.ownBlock = some k → w.frozen? ⟨k, o, none⟩ = false := by
 intro k o hk
 rcases h.2 with ⟨rfl, _⟩ | ⟨g, cap, cur, rfl, _, hb, _⟩
 ·simp [Value.ownBlock] at hk
 ·simp only [Value.ownBlock, Option.some.injEq] at hk
  subst hk
  simp [World.frozen?, hb]
theorem own_from {w : World} {base : Nat} {e : TypeId} {size n : Nat} {v : Value} {xs : List Value} (h : w.ownsRow base e size v n xs) : ∀ k, v.ownBlock = some k → base ≤ k := by
 intro k hk
 rcases h.2 with ⟨rfl, _⟩ | ⟨g, cap, cur, rfl, hg, _⟩
 ·simp [Value.ownBlock] at hk
 ·simp only [Value.ownBlock, Option.some.injEq] at hk
  omega
theorem below_gr {n : Nat} {row : Option Nat} {a b c : World} (h : Below n a b) (hn : n ≤ b.heap.size) (k : Gr row b c) (hr : ∀ r, row = some r → n ≤ r) : Below n a c :=
 Below.trans h ⟨k.os, k.tape, k.output, k.size, fun i hi => k.block i (Nat.lt_of_lt_of_le hi hn) (fun e => by have := hr i e.symm; omega)⟩
structure Steps (base pb mt mh : Nat) (sv sv' : Value) (v : Value) (w w2 w3 w4 w5 w6 w7 : World) : Prop where
 a : Ext w w2
 b : Gr (some pb) w2 w3
 c : Gr (some mh) w3 w4
 d : Gr sv.ownBlock w4 w5
 e : Only mt w5 w6
 f : w7 = w6.setCell ⟨pb, 14, none⟩ v
structure Else (pb mt mh : Nat) (tx tx' : List TxE) (w w' : World) : Prop where
 size : w.heap.size ≤ w'.heap.size
 block : ∀ k, k < w.heap.size → k ≠ pb → k ≠ mt → k ≠ mh → (∀ t ∈ tx, t.sv.ownBlock ≠ some k) → w'.heap[k]? = w.heap[k]?
 rows : ∀ t ∈ tx', ∀ g, t.sv.ownBlock = some g → (∃ u ∈ tx, u.sv.ownBlock = some g) ∨ w.heap.size ≤ g
theorem book_else {base pb mt mh : Nat} {l : List Rc} {tx : List TxE} {ho : List HE} {e : TxE} {sv sv' : Value} {v : Value} {w w2 w3 w4 w5 w6 w7 : World} (h : BookOk w base pb mt mh l tx ho)
  (st : Steps base pb mt mh sv sv' v w w2 w3 w4 w5 w6 w7) (hwho : (∃ t ∈ tx, t.key = e.key ∧ t.sv = sv) ∨ ((∀ t ∈ tx, t.key ≠ e.key) ∧ sv = .slice none 0 0)) (he : e.sv = sv')
  (hsv' : ∀ g, sv'.ownBlock = some g → sv.ownBlock = some g ∨ w4.heap.size ≤ g) : Else pb mt mh tx (putTx tx e) w w7 := by
 obtain ⟨sa, sb, sc, sd, se, rfl⟩ := st
 have s4 : w.heap.size ≤ w4.heap.size := Nat.le_trans (Nat.le_trans sa.size sb.size) sc.size
 refine ⟨?_, fun k hk h1 h2 h3 h4 => ?_, fun t ht g hg => ?_⟩
 ·rw [World.size_setCell, se.size]
  exact Nat.le_trans s4 sd.size
 ·have nsv : some k ≠ sv.ownBlock := by
   rcases hwho with ⟨t, ht, _, hts⟩ | ⟨_, rfl⟩
   ·rw [← hts]; exact fun x => h4 t ht x.symm
   ·simp [Value.ownBlock]
  rw [Below.heap_setCell _ _ _ _ h1, se.block k h2, sd.block k (by omega) nsv, sc.block k (Nat.lt_of_lt_of_le hk (Nat.le_trans sa.size sb.size)) (by simpa using h3),
   sb.block k (Nat.lt_of_lt_of_le hk sa.size) (by simpa using h1), sa.block k hk]
 ·rcases mem_putTx h.apart e t ht with rfl | ⟨ht, _⟩
  ·rw [he] at hg
   rcases hsv' g hg with h1 | h1
   ·rcases hwho with ⟨u, hu, _, hus⟩ | ⟨_, rfl⟩
    ·exact Or.inl ⟨u, hu, by rw [hus]; exact h1⟩
    ·simp [Value.ownBlock] at h1
   ·exact Or.inr (by omega)
  ·exact Or.inl ⟨t, ht, hg⟩
theorem book_next {base pb mt mh : Nat} {l : List Rc} {tx : List TxE} {ho ho' : List HE} {r : Rc} {sv sv' : Value} {w w2 w3 w4 w5 w6 w7 : World} (h : BookOk w base pb mt mh l tx ho) (hr : recErr (l.length + 1 : Nat) r = 0) (hf : followsR l r = true)
  (st : Steps base pb mt mh sv sv' (.int .i64 ((l.length : Int) + 1)) w w2 w3 w4 w5 w6 w7)
  (hwho : (∃ t ∈ tx, t.key = r.txn ∧ t.sv = sv) ∨ ((∀ t ∈ tx, t.key ≠ r.txn) ∧ sv = .slice none 0 0))
  (B3 : Blk w3 pb (bookCells (pagesR (l ++ [r])) mt mh (l.length : Nat)) 134)
  (M4 : MapAt keyP w4 mh (ho'.map hoEnt)) (hH : Holds ho' (heldBy (l ++ [r])))
  (O5 : w5.ownsRow base 81 8 sv' (standB (l ++ [r]) r.txn).length (flat (standB (l ++ [r]) r.txn))) (hsv' : ∀ g, sv'.ownBlock = some g → sv.ownBlock = some g ∨ w4.heap.size ≤ g)
  (M6 : MapAt keyI w6 mt (putI (fun q => r.txn == q) r.txn (txVal r.kind ((l.length : Int) + 1) sv') (tx.map TxE.ent))) :
  Below base w w7 ∧ BookOk w7 base pb mt mh (l ++ [r]) (putTx tx ⟨r.txn, r.kind, (l.length : Int) + 1, sv', standB (l ++ [r]) r.txn⟩) ho' := by
 obtain ⟨sa, sb, sc, sd, se, rfl⟩ := st
 have hpm : pb ≠ mh := blk_notmap h.blk h.hos
 have hpt : pb ≠ mt := blk_notmap h.blk h.txs
 have hsvo : ∀ g, sv.ownBlock = some g → base ≤ g ∧ g ≠ pb ∧ some g ≠ some mt ∧ some g ≠ some mh := by
  intro g hg
  rcases hwho with ⟨t, ht, _, hts⟩ | ⟨_, rfl⟩
  ·have ho := h.own t ht
   rw [hts] at ho
   exact ⟨own_from ho g hg, own_notblk ho h.blk (by decide) g hg, by rw [← hg]; exact own_notmap ho h.txs, by rw [← hg]; exact own_notmap ho h.hos⟩
  ·simp [Value.ownBlock] at hg
 have nsv : ∀ k, some k = sv.ownBlock → base ≤ k ∧ k ≠ pb ∧ some k ≠ some mt ∧ some k ≠ some mh := fun k hk => hsvo k hk.symm
 have hge := h.ge
 have hpl := h.blk.lt
 have hb0 : base ≤ w.heap.size := by omega
 have s2 : base ≤ w2.heap.size := Nat.le_trans hb0 sa.size
 have s3 : base ≤ w3.heap.size := Nat.le_trans s2 sb.size
 have s4 : base ≤ w4.heap.size := Nat.le_trans s3 sc.size
 have s5 : base ≤ w5.heap.size := Nat.le_trans s4 sd.size
 have s6 : base ≤ w6.heap.size := by rw [se.size]; exact s5
 have b2 : Below base w w2 := Below.mono sa hb0
 have b3 := below_gr b2 s2 sb (fun k hk => by injection hk with hk; omega)
 have b4 := below_gr b3 s3 sc (fun k hk => by injection hk with hk; omega)
 have b5 := below_gr b4 s4 sd (fun k hk => (hsvo k hk).1)
 have b6 := below_gr b5 s5 (Gr.of_only se) (fun k hk => by injection hk with hk; omega)
 have b7 : Below base w (w6.setCell ⟨pb, 14, none⟩ (.int .i64 ((l.length : Int) + 1))) := Below.setCell b6 (by dsimp only; omega) _
 have B4 := B3.gr sc (by simpa using hpm)
 have B5 := B4.gr sd (fun k => (nsv pb k).2.1 rfl)
 have B6 := B5.gr (Gr.of_only se) (by simpa using hpt)
 have B7 := B6.set 14 (.int .i64 ((l.length : Int) + 1))
 have gset : Gr (some pb) w6 (w6.setCell ⟨pb, 14, none⟩ (.int .i64 ((l.length : Int) + 1))) := (Gr.refl (some pb) w6).set (p := ⟨pb, 14, none⟩) (Or.inr rfl) _
 have M7 := M6.gr gset (by simpa using Ne.symm hpt)
 have H5 := M4.gr sd (fun k => (nsv mh k).2.2.2 rfl)
 have H6 := H5.gr (Gr.of_only se) (by simpa using Ne.symm h.ne)
 have H7 := H6.gr gset (by simpa using Ne.symm hpm)
 have T2 := h.txs.ext sa
 have hblk2 := h.blk.ext sa
 have old : ∀ t ∈ tx, t.key ≠ r.txn → (∀ g, t.sv.ownBlock = some g → sv.ownBlock ≠ some g ∧ g < w4.heap.size) ∧ (w6.setCell ⟨pb, 14, none⟩ (.int .i64 ((l.length : Int) + 1))).ownsRow base 81 8 t.sv t.recs.length (flat t.recs) := by
  intro t ht hk
  have o1 := h.own t ht
  have o2 := own_ext o1 sa
  have npb := own_notblk o1 h.blk (by decide)
  have nmt := own_notmap o1 h.txs
  have nmh := own_notmap o1 h.hos
  have nsv2 : ∀ g, t.sv.ownBlock = some g → sv.ownBlock ≠ some g := by
   intro g hg
   rcases hwho with ⟨u, hu, hku, hus⟩ | ⟨_, rfl⟩
   ·rw [← hus]
    have hne : u ≠ t := fun e => hk (by rw [← e, hku])
    exact fun hh => (pairwise_mem (fun a b => Apart.symm) h.apart u hu t ht hne).2 g hh hg
   ·simp [Value.ownBlock]
  have o3 := own_gr o2 sb (fun k hk2 e => by injection e with e; exact npb k hk2 e)
  have o4 := own_gr o3 sc (fun k hk2 e => by injection e with e; rw [e] at hk2; exact nmh hk2)
  have o5 := own_gr o4 sd (fun k hk2 e => nsv2 k hk2 e.symm)
  have o6 := own_gr o5 (Gr.of_only se) (fun k hk2 e => by injection e with e; rw [e] at hk2; exact nmt hk2)
  exact ⟨fun g hg => ⟨nsv2 g hg, own_lt o4 g hg⟩, own_gr o6 gset (fun k hk2 e => by injection e with e; exact npb k hk2 e)⟩
 have new : (w6.setCell ⟨pb, 14, none⟩ (.int .i64 ((l.length : Int) + 1))).ownsRow base 81 8 sv' (standB (l ++ [r]) r.txn).length (flat (standB (l ++ [r]) r.txn)) := by
  have npb := own_notblk O5 B5 (by decide)
  have T5 : ∀ k, sv'.ownBlock = some k → k ≠ mt := by
   intro k hk e
   have : MapAt keyI w4 mt (tx.map TxE.ent) := (T2.gr sb (by simpa using Ne.symm hpt)).gr sc (by simpa using h.ne)
   have hT5 := this.gr sd (fun k => (nsv mt k).2.2.1 rfl)
   exact own_notmap O5 hT5 (by rw [hk, e])
  have o6 := own_gr O5 (Gr.of_only se) (fun k hk e => by injection e with e; exact T5 k hk e)
  exact own_gr o6 gset (fun k hk e => by injection e with e; exact npb k hk e)
 have hlast : lastR (l ++ [r]) r.txn = l.length + 1 := by rw [lastR_snoc]; simp
 refine ⟨b7, ?_, ?_, H7, ?_, ?_, hge, h.ne, (right_snoc l r).2 ⟨h.right, hr, hf⟩, ?_, ?_, hH.is, hH.all, hH.once⟩
 ·have e14 : (bookCells (pagesR (l ++ [r])) mt mh (l.length : Nat)).setIfInBounds 14 (.int .i64 ((l.length : Int) + 1)) = bookCells (pagesR (l ++ [r])) mt mh ((l ++ [r]).length : Nat) := by
   obtain ⟨a0, a1, a2, a3, a4, a5, a6, a7, a8, a9, a10, a11, hps⟩ := list12 _ (pagesR_len (l ++ [r]))
   rw [hps, List.length_append, List.length_singleton]
   rfl
  rw [e14] at B7
  exact B7
 ·rw [← putTx_eq]
  exact M7
 ·intro t ht
  rcases mem_putTx h.apart _ t ht with rfl | ⟨ht, hk⟩
  ·exact new
  ·exact (old t ht hk).2
 ·refine putTx_apart h.apart fun q hq hk => ⟨fun e => hk e.symm, fun g hg hqg => ?_⟩
  have hold := (old q hq hk).1 g hqg
  rcases hsv' g hg with h1 | h1
  ·exact hold.1 h1
  ·omega
 ·intro t ht
  rcases mem_putTx h.apart _ t ht with rfl | ⟨ht, hk⟩
  ·refine ⟨?_, ?_, rfl, ?_⟩
   ·dsimp only; rw [stateR_snoc hr hf, if_pos rfl]
   ·dsimp only; rw [hlast]; rfl
   ·dsimp only; rw [hlast]; omega
  ·have hk' : r.txn ≠ t.key := fun e => hk e.symm
   have hb : (r.txn == t.key) = false := by simpa using hk'
   obtain ⟨t1, t2, t3, t4⟩ := h.tells t ht
   refine ⟨?_, ?_, ?_, ?_⟩
   ·rw [stateR_snoc hr hf, if_neg hk']; exact t1
   ·rw [lastR_snoc, hb]; exact t2
   ·rw [standB_other hr hf hk']; exact t3
   ·rw [lastR_snoc, hb]; exact t4
 ·intro k hk
  by_cases e : r.txn = k
  ·exact ⟨_, putTx_mem _ _, e⟩
  ·have hb : (r.txn == k) = false := by simpa using e
   rw [lastR_snoc, hb] at hk
   obtain ⟨t, ht, hkt⟩ := h.all k hk
   exact ⟨t, putTx_old ht (by dsimp only; rw [hkt]; exact fun x => e x.symm), hkt⟩
theorem put_bad1 {base pb mt mh : Nat} {l : List Rc} {tx : List TxE} {ho : List HE} (r : Rc) (w : World) (h : BookOk w base pb mt mh l tx ho) (hr : recErr (l.length + 1 : Nat) r ≠ 0) :
  Calls Tryz.prog 142 #[.pointer (some ⟨pb, 0, none⟩), r.val] w fun e w' => e = .returned (.int .i64 (recErr (l.length + 1 : Nat) r)) ∧ Ext w w' := by
 have c1 := h.blk.cell
 have hl60 := right_len l h.right
 have c14 : w.cell? ⟨pb, 14, none⟩ = some (.int .i64 (l.length : Nat)) := by rw [c1]; exact (bookCells_12 _ mt mh _ (pagesR_len l)).2.2
 have hE : Hid (recErr (l.length + 1 : Nat) r = recErr ((l.length : Int) + 1) r) := rfl
 have hb : (recErr ((l.length : Int) + 1) r != 0) = true := by simpa using hr
 have hpl := h.blk.lt
 clear c1 hr
 go_enter Tryz.func142, Tryz.ntmps142
 go_wp2_with fail
 refine (recCheck_any ((l.length : Int) + 1) r _).mono ?_
 rintro e w1 ⟨rfl, hw1⟩
 go_wp2_with fail
 go_ret
 exact ⟨rfl, ((Ext.refl w).alloc _).trans hw1⟩
theorem put_bad2 {base pb mt mh : Nat} {l : List Rc} {tx : List TxE} {ho : List HE} (r : Rc) (w : World) (h : BookOk w base pb mt mh l tx ho) (hr : recErr (l.length + 1 : Nat) r = 0) (hf : followsR l r = false) :
  Calls Tryz.prog 142 #[.pointer (some ⟨pb, 0, none⟩), r.val] w fun e w' => e = .returned (.int .i64 1) ∧ Ext w w' := by
 have c1 := h.blk.cell
 have hl60 := right_len l h.right
 have c14 : w.cell? ⟨pb, 14, none⟩ = some (.int .i64 (l.length : Nat)) := by rw [c1]; exact (bookCells_12 _ mt mh _ (pagesR_len l)).2.2
 have hb : Hid (recErr ((l.length : Int) + 1) r = 0) := hr
 have hpl := h.blk.lt
 obtain ⟨x, hx, hok, _⟩ := h.lookHold (r.page, r.cell)
 have HM : Hid (mayNotB l r x = true) := by unfold Hid; rw [mayNot_eq h.right hr hok, hf]; rfl
 have HX := (show Hid (lookP (ho.map hoEnt) (r.page, r.cell) (hoVal (0, 0)) = hoVal x) from hx)
 have HE := (show Hid (recErr (l.length + 1 : Nat) r = 0) from hr)
 clear c1 hr hf hx hok
 go_enter Tryz.func142, Tryz.ntmps142
 go_wp2_with fail
 refine (recCheck_any ((l.length : Int) + 1) r _).mono ?_
 rintro e w1 ⟨rfl, hw1⟩
 rw [hb.out]
 have R1 := (Blk.new w w.heap.size r.cs 81 rfl).ext hw1
 have c2 := R1.cell
 go_wp2_with fail
 have hE1 := ((Ext.refl w).alloc (.cells r.cs 81)).trans hw1
 refine (mayNot_any r _ (h.ext hE1) (recErr_kind HE.out) (recErr_fits HE.out) x HX.out).mono ?_
 rintro e w2 ⟨rfl, hw2⟩
 rw [HM.out]
 go_wp2_with fail
 go_ret
 exact ⟨rfl, hE1.trans hw2⟩
theorem put_good {base pb mt mh : Nat} {l : List Rc} {tx : List TxE} {ho : List HE} (r : Rc) (w : World) (h : BookOk w base pb mt mh l tx ho) (hr : recErr (l.length + 1 : Nat) r = 0) (hf : followsR l r = true) :
  Calls Tryz.prog 142 #[.pointer (some ⟨pb, 0, none⟩), r.val] w fun e w' => e = .returned (.int .i64 0) ∧ Below base w w' ∧ ∃ tx' ho', BookOk w' base pb mt mh (l ++ [r]) tx' ho' ∧ Else pb mt mh tx tx' w w' := by
 have c1 := h.blk.cell
 have hl60 := right_len l h.right
 have c14 : w.cell? ⟨pb, 14, none⟩ = some (.int .i64 (l.length : Nat)) := by rw [c1]; exact (bookCells_12 _ mt mh _ (pagesR_len l)).2.2
 have hb : Hid (recErr ((l.length : Int) + 1) r = 0) := hr
 have hpl := h.blk.lt
 obtain ⟨x, hx, hok, _⟩ := h.lookHold (r.page, r.cell)
 have HM : Hid (mayNotB l r x = false) := by unfold Hid; rw [mayNot_eq h.right hr hok, hf]; rfl
 have HX := (show Hid (lookP (ho.map hoEnt) (r.page, r.cell) (hoVal (0, 0)) = hoVal x) from hx)
 have HE := (show Hid (recErr (l.length + 1 : Nat) r = 0) from hr)
 have HF := (show Hid (followsR l r = true) from hf)
 clear c1 hr hf hx hok
 go_enter Tryz.func142, Tryz.ntmps142
 go_wp2_with fail
 refine (recCheck_any ((l.length : Int) + 1) r _).mono ?_
 rintro e w1 ⟨rfl, hw1⟩
 rw [hb.out]
 have R1 := (Blk.new w w.heap.size r.cs 81 rfl).ext hw1
 have c2 := R1.cell
 go_wp2_with fail
 have hE1 := ((Ext.refl w).alloc (.cells r.cs 81)).trans hw1
 refine (mayNot_any r _ (h.ext hE1) (recErr_kind HE.out) (recErr_fits HE.out) x HX.out).mono ?_
 rintro e w2 ⟨rfl, hw2⟩
 rw [HM.out]
 have R2 := R1.ext hw2
 have hE2 := hE1.trans hw2
 clear c2 R1 hw1 hw2 HM
 have c2 := R2.cell
 go_wp2_with fail
 have h2 := h.ext hE2
 have b2 := h2.blk
 refine (turn_ok h.right HE.out b2).mono ?_
 rintro e w3 ⟨rfl, g3, B3⟩
 have hrne : w.heap.size ≠ pb := by omega
 have R3 := R2.gr g3 (by simpa using hrne)
 clear c2
 have c3 := R3.cell
 go_wp2_with fail
 obtain ⟨sv, hlk, hown, hwho⟩ := h2.look r.txn
 have hpm : pb ≠ mh := blk_notmap h.blk h.hos
 have hpt : pb ≠ mt := blk_notmap h.blk h.txs
 have npb := own_notblk hown b2 (by decide)
 have o3 := own_gr hown g3 (fun k hk e => by injection e with e; exact npb k hk e)
 have T3 := h2.txs.gr g3 (by simpa using Ne.symm hpt)
 have hl12 := pagesR_len (l ++ [r])
 have hbc := bookCells_12 (pagesR (l ++ [r])) mt mh (l.length : Nat) hl12
 refine (hold_ok h.right HE.out HF.out B3 hbc.1 hbc.2.1 T3 (h2.hos.gr g3 (by simpa using Ne.symm hpm)) hlk o3 ⟨h.hold, h.held, h.once⟩).mono ?_
 rintro e w4 ⟨rfl, g4, ho', M4, hH⟩
 have hrm : w.heap.size ≠ mh := by have := h.hos.lt; omega
 have hrt : w.heap.size ≠ mt := by have := h.txs.lt; omega
 have R4 := R3.gr g4 (by simpa using hrm)
 have B4 := B3.gr g4 (by simpa using hpm)
 have T4 := T3.gr g4 (by simpa using h.ne)
 have nmh := own_notmap hown h2.hos
 have nmt := own_notmap hown h2.txs
 have o4 := own_gr o3 g4 (fun k hk e => by injection e with e; rw [e] at hk; exact nmh hk)
 have hbs : base ≤ w4.heap.size := by have := h.ge; have := hE2.size; have := g3.size; have := g4.size; omega
 clear c3 T3 o3 HX c14
 have c4 := R4.cell
 go_wp2_with fail
 clear c4
 have KC : Hid (∀ w', Blk w' w.heap.size r.cs 81 → Blk w' pb (bookCells (pagesR (l ++ [r])) mt mh (l.length : Nat)) 134 → (∀ o, w'.cell? ⟨w.heap.size, o, none⟩ = r.cs[o]?) ∧ w'.cell? ⟨pb, 12, none⟩ = some (.map (some mt))) := fun w' x y => ⟨x.cell, by rw [y.cell]; exact hbc.1⟩
 have nrow : ∀ k, sv.ownBlock = some k → k ≠ w.heap.size := fun k hk => by
  have := own_lt hown k hk
  rcases hwho with ⟨t, ht, _, hts⟩ | ⟨_, rfl⟩
  ·have := own_lt (h.own t ht) k (by rw [hts]; exact hk)
   omega
  ·simp [Value.ownBlock] at hk
 refine wp_region_held_drew (S := fun w' => (∀ o, w'.cell? ⟨w.heap.size, o, none⟩ = r.cs[o]?) ∧ w'.cell? ⟨pb, 12, none⟩ = some (.map (some mt))) (by kernel_rfl) (KC.out _ R4.drew B4.drew) (fun hHeld => ?_)
 refine tkn 0 rfl hHeld ?_
 simp only [Act.put]
 refine tkn 1 rfl hHeld ?_
 simp only [Act.put]
 refine tkn 2 rfl hHeld ?_
 simp only [Act.put]
 refine tkn 3 rfl hHeld ?_
 simp only [Act.put]
 refine tkn 4 rfl hHeld ?_
 simp only [Act.put]
 refine tkn 5 rfl hHeld ?_
 simp only [Act.put]
 refine tkn 6 rfl hHeld ?_
 simp only [Act.put]
 refine tkn 7 rfl hHeld ?_
 simp only [Act.put]
 refine tkn 8 rfl hHeld ?_
 simp only [Act.put]
 refine tkn 9 rfl hHeld ?_
 simp only [Act.put]
 refine tkn 10 rfl hHeld ?_
 simp only [Act.put]
 refine tkn 11 rfl hHeld ?_
 simp only [Act.put]
 refine tkn 13 rfl hHeld ?_
 simp only [Act.put]
 refine tkn 14 rfl hHeld ?_
 simp only [Act.put]
 have T4d : MapAt keyI w4.drew mt (tx.map TxE.ent) := T4.ext (Ext.refl w4).drew
 have hrun : (Instr.lookup 131 (.map (some mt)) (.int .i64 r.txn) false).run Tryz.prog w4.drew = .ok (txVal (stateR l r.txn) (lastR l r.txn : Nat) sv) w4.drew := by rw [run_lookI T4d r.txn]; exact congrArg (fun v => Result.ok v w4.drew) hlk
 refine exn 12 rfl fun K hK => ?_
 go_simp
 refine hK.out _ _ hHeld (fun hHeld => ?_)
 clear hK K hrun
 refine exn 15 rfl fun K hK => ?_
 go_simp
 refine (with_ok (stateR l r.txn) (lastR l r.txn : Nat) ((l.length : Int) + 1) h.right HE.out HF.out (own_ext o4 (Ext.refl w4).drew) hbs).mono ?_
 rintro e w5 ⟨sv', rfl, O5, hsv', g5⟩
 have g5' : Gr sv.ownBlock w4 w5 := ((Gr.refl sv.ownBlock w4).drew).trans g5
 have R5 := R4.gr g5' (fun e => nrow _ e.symm rfl)
 have B5 := B4.gr g5' (fun e => npb _ e.symm rfl)
 have T5 := T4.gr g5' (fun e => nmt e.symm)
 go_wp2_with fail
 clear hHeld
 refine hK.out _ _ (KC.out _ R5 B5) (fun hHeld => ?_)
 clear hK K
 obtain ⟨w6, hr6, M6, ho6⟩ := run_putI T5 r.txn (txVal r.kind ((l.length : Int) + 1) sv')
 refine exn 16 rfl fun K hK => ?_
 go_simp
 have R6 := R5.gr (Gr.of_only ho6) (by simpa using hrt)
 have B6 := B5.gr (Gr.of_only ho6) (by simpa using hpt)
 refine hK.out _ _ (KC.out _ R6 B6) (fun hHeld => ?_)
 clear hK K
 refine wpAnyH_done (by kernel_rfl) ?_ _
 clear KC hHeld hr6
 have c6 : w6.cell? ⟨pb, 14, none⟩ = some (.int .i64 (l.length : Nat)) := by rw [B6.cell]; exact hbc.2.2
 have f6 := B6.fr 14
 go_wp2_with fail
 go_ret
 have hfin := book_next (w7 := w6.setCell ⟨pb, 14, none⟩ (.int .i64 ((l.length : Int) + 1))) h HE.out HF.out ⟨hE2, g3, g4, g5', ho6, rfl⟩ hwho B3 M4 hH O5 hsv' M6
 have helse := book_else (w7 := w6.setCell ⟨pb, 14, none⟩ (.int .i64 ((l.length : Int) + 1))) (e := ⟨r.txn, r.kind, (l.length : Int) + 1, sv', standB (l ++ [r]) r.txn⟩) h ⟨hE2, g3, g4, g5', ho6, rfl⟩ hwho rfl hsv'
 exact ⟨rfl, hfin.1, _, _, hfin.2, helse⟩
theorem put_more {base pb mt mh : Nat} {l : List Rc} {tx : List TxE} {ho : List HE} (r : Rc) (w : World) (h : BookOk w base pb mt mh l tx ho) :
  Calls Tryz.prog 142 #[.pointer (some ⟨pb, 0, none⟩), r.val] w fun e w' => e = .returned (.int .i64 (stepErr l r)) ∧ Below base w w' ∧ (stepErr l r = 0 → ∃ tx' ho', BookOk w' base pb mt mh (l ++ [r]) tx' ho' ∧ Else pb mt mh tx tx' w w') := by
 have hb0 : base ≤ w.heap.size := by have := h.ge; have := h.blk.lt; omega
 unfold stepErr
 by_cases hr : recErr (l.length + 1 : Nat) r = 0
 ·rw [hr]
  cases hf : followsR l r
  ·refine (put_bad2 r w h hr hf).mono ?_
   rintro e w' ⟨rfl, hw⟩
   exact ⟨rfl, Below.mono hw hb0, fun h0 => by simp at h0⟩
  ·refine (put_good r w h hr hf).mono ?_
   rintro e w' ⟨rfl, hw, hx⟩
   exact ⟨rfl, hw, fun _ => hx⟩
 ·have hb : (recErr (l.length + 1 : Nat) r != 0) = true := by simpa using hr
  rw [hb, if_pos rfl]
  refine (put_bad1 r w h hr).mono ?_
  rintro e w' ⟨rfl, hw⟩
  exact ⟨rfl, Below.mono hw hb0, fun h0 => absurd h0 hr⟩
theorem put_any {base pb mt mh : Nat} {l : List Rc} {tx : List TxE} {ho : List HE} (r : Rc) (w : World) (h : BookOk w base pb mt mh l tx ho) :
  Calls Tryz.prog 142 #[.pointer (some ⟨pb, 0, none⟩), r.val] w fun e w' => e = .returned (.int .i64 (stepErr l r)) ∧ Below base w w' ∧ (stepErr l r = 0 → ∃ tx' ho', BookOk w' base pb mt mh (l ++ [r]) tx' ho') :=
 (put_more r w h).mono fun _ _ ⟨h1, h2, h3⟩ => ⟨h1, h2, fun h0 => let ⟨tx', ho', hb, _⟩ := h3 h0; ⟨tx', ho', hb⟩⟩
theorem mapAt_new {K : Type} (w : World) (f : K → Value) : MapAt f (w.alloc (.map #[] 0)) w.heap.size [] := ⟨#[], 0, by unfold World.alloc; simp, rfl⟩
theorem stand_nil (t : Int) : standB [] t = [] := by
 unfold standB
 split <;> rfl
theorem new_any (w : World) :
  Calls Tryz.prog 141 #[] w fun e w' => ∃ pb mt mh, e = .returned (.pointer (some ⟨pb, 0, none⟩)) ∧ Ext w w' ∧ BookOk w' w.heap.size pb mt mh [] [] [] := by
 have mm : ∀ (t : TypeId) (w : World), (Instr.makeMap t none).run Tryz.prog w = .ok (.map (some w.heap.size)) (w.alloc (.map #[] 0)) := fun t w => rfl
 go_enter Tryz.func141, Tryz.ntmps141
 go_wp2_with fail
 go_ret
 have hm0 : MapAt keyI ((w.alloc (.map #[] 0)).alloc (.map #[] 0)) w.heap.size (([] : List TxE).map TxE.ent) := (mapAt_new w keyI).ext ((Ext.refl _).alloc _)
 have hm1 : MapAt keyP ((w.alloc (.map #[] 0)).alloc (.map #[] 0)) (w.heap.size + 1) (([] : List HE).map hoEnt) := by
  have := mapAt_new (w.alloc (.map #[] 0)) keyP
  rw [show (w.alloc (.map #[] 0)).heap.size = w.heap.size + 1 from by simp] at this
  exact this
 refine ⟨w.heap.size + 1 + 1, w.heap.size, w.heap.size + 1, rfl, (((Ext.refl w).alloc _).alloc _).alloc _, ?_, hm0.ext ((Ext.refl _).alloc _), hm1.ext ((Ext.refl _).alloc _), fun t ht => (by cases ht), List.Pairwise.nil, by omega, by omega, right_nil, fun t ht => (by cases ht), fun k hk => absurd rfl hk, fun t ht => (by cases ht), fun p t ht => absurd ht (by rw [heldBy_cnt, stand_nil]; exact Nat.lt_irrefl 0), List.Pairwise.nil⟩
 exact Blk.new _ _ _ _ (by simp)
theorem read_many (a : Option Addr) (len cap : Nat) (w : World) (hl : 60 < len) (hm : len ≤ maxLen) :
  Calls Tryz.prog 117 #[.slice a len cap] w fun e w' => e = .returned (.tuple #[.pointer none, .int .i64 2]) ∧ Ext w w' := by
 unfold maxLen at hm
 have hd : decide ((60 : Int) < len) = true := by simpa using (by omega : (60 : Int) < len)
 go_enter Tryz.func117, Tryz.ntmps117
 go_wp2_with fail
 go_ret2
 exact ⟨rfl, Ext.refl w⟩
theorem read_few (a : Option Addr) (len cap : Nat) (l : List Rc) (w : World) (h : Recs w a len l) (hl : len ≤ 60) :
  Calls Tryz.prog 117 #[.slice a len cap] w fun e w' => ∃ p, e = .returned (.tuple #[p, .int .i64 (errTo l l.length)]) ∧ Ext w w' ∧ ((errTo l l.length = 0 ∧ ∃ pb mt mh tx ho, p = .pointer (some ⟨pb, 0, none⟩) ∧ BookOk w' w.heap.size pb mt mh l tx ho) ∨ (errTo l l.length ≠ 0 ∧ p = .pointer none)) := by
 have hd : decide ((60 : Int) < len) = false := by simpa using (by omega : (len : Int) ≤ 60)
 go_enter Tryz.func117, Tryz.ntmps117
 go_wp2_with fail
 refine (new_any w).mono ?_
 rintro e w1 ⟨pb, mt, mh, rfl, hE1, hB⟩
 go_wp2_with fail
 go_loopw [14] (fun i wr => ∃ k : Nat, k ≤ len ∧ i = .int .i64 k ∧ Ext w wr ∧ errTo l k = 0 ∧ ∃ tx ho, BookOk wr w.heap.size pb mt mh (l.take k) tx ho) (fun i _ => len - (intOf i).toNat)
 case atStart => exact ⟨0, Nat.zero_le _, rfl, hE1, rfl, [], [], hB⟩
 case round =>
  obtain ⟨k, hk, rfl, hE, he0, tx, ho, hb⟩ := hrel
  have HE := (show Hid (Ext w wr) from hE)
  by_cases hlt : k < len
  ·obtain ⟨b, off, rfl, hkl, h0, h1, h2, h3, h4, h5, h6, h7⟩ := (h.ext hE).at hlt
   have HS : Hid (errTo l (k + 1) = stepErr (l.take k) l[k]) := by
    unfold Hid
    rw [errTo, he0]
    simp [hkl]
   have HT := (show Hid (l.take (k + 1) = l.take k ++ [l[k]]) from take_snoc l k hkl)
   have HKL := (show Hid (k < l.length) from hkl)
   have HN := (show Hid (l.length = len) from h.len)
   have HZ := (show Hid (errTo l k = 0) from he0)
   have HB := (show Hid (BookOk wr w.heap.size pb mt mh (l.take k) tx ho) from hb)
   clear he0 hb h hB hE
   generalize l[k] = r at *
   clear hkl
   go_wp2_with fail
   refine (put_any r _ (HB.out.ext ((Ext.refl wr).alloc _))).mono ?_
   rintro e w2 ⟨rfl, hw2, hgo⟩
   have hE2 : Ext w w2 := Below.trans (HE.out.alloc _) hw2
   have HG := (show Hid (stepErr (l.take k) r = 0 → ∃ tx' ho', BookOk w2 w.heap.size pb mt mh (l.take k ++ [r]) tx' ho') from hgo)
   clear hgo hw2
   cases hse : (stepErr (l.take k) r != 0)
   ·have HS0 : Hid (stepErr (l.take k) r = 0) := by unfold Hid; simpa using hse
    go_wp2_with fail
    go_roundw
    case rel => exact ⟨k + 1, by omega, by go_num, hE2, by rw [HS.out]; exact HS0.out, by rw [HT.out]; exact HG.out HS0.out⟩
    case measure => simp [intOf]; omega
   ·have HS0 : Hid (stepErr (l.take k) r ≠ 0) := by unfold Hid; simpa using hse
    go_wp2_with fail
    go_ret2
    have hk1 : errTo l l.length = stepErr (l.take k) r := by rw [← HS.out]; have hk2 := errTo_keep l (k + 1) (by rw [HS.out]; exact HS0.out) (l.length - (k + 1)); have hk3 := HKL.out; rw [show k + 1 + (l.length - (k + 1)) = l.length from by omega] at hk2; exact hk2
    exact ⟨_, by rw [hk1]; rfl, hE2, Or.inr ⟨by rw [hk1]; exact HS0.out, rfl⟩⟩
  ·have hkn : k = l.length := by have := h.len; omega
   have HF : Hid (l.take k = l) := List.take_of_length_le (by omega)
   have HZ : Hid (errTo l l.length = 0) := by rw [← hkn]; exact he0
   go_wp2_with fail
   go_ret2
   rw [HF.out] at hb
   exact ⟨_, by rw [HZ.out]; rfl, HE.out, Or.inl ⟨HZ.out, pb, mt, mh, tx, ho, rfl, hb⟩⟩
theorem read_any (a : Option Addr) (len cap : Nat) (l : List Rc) (w : World) (h : Recs w a len l) (hm : len ≤ maxLen) :
  Calls Tryz.prog 117 #[.slice a len cap] w fun e w' => ∃ p, e = .returned (.tuple #[p, .int .i64 (logErr l)]) ∧ Ext w w' ∧ ((logErr l = 0 ∧ ∃ pb mt mh tx ho, p = .pointer (some ⟨pb, 0, none⟩) ∧ BookOk w' w.heap.size pb mt mh l tx ho) ∨ (logErr l ≠ 0 ∧ p = .pointer none)) := by
 unfold logErr
 by_cases hl : 60 < len
 ·rw [if_pos (by rw [h.len]; exact hl)]
  refine (read_many a len cap w hl hm).mono ?_
  rintro e w' ⟨rfl, hw⟩
  exact ⟨_, rfl, hw, Or.inr ⟨by decide, rfl⟩⟩
 ·rw [if_neg (by rw [h.len]; exact hl)]
  exact read_few a len cap l w h (by omega)
theorem logCheck_any (a : Option Addr) (len cap : Nat) (l : List Rc) (w : World) (h : Recs w a len l) (hm : len ≤ maxLen) :
  Calls Tryz.prog 139 #[.slice a len cap] w fun e w' => e = .returned (.int .i64 (logErr l)) ∧ Ext w w' := by
 have H := read_any a len cap l w h hm
 generalize logErr l = x at *
 go_enter Tryz.func139, Tryz.ntmps139
 go_wp2_with fail
 refine H.mono ?_
 rintro e w1 ⟨p, rfl, hE, _⟩
 go_wp2_with fail
 go_ret
 exact ⟨rfl, hE⟩
theorem logPages_any (a : Option Addr) (len cap : Nat) (l : List Rc) (w : World) (h : Recs w a len l) (hm : len ≤ maxLen) :
  Calls Tryz.prog 190 #[.slice a len cap] w fun e w' => e = .returned (.tuple #[.agg (ints (pagesOrNone l)), .int .i64 (logErr l)]) ∧ Ext w w' := by
 have H := read_any a len cap l (w.alloc (.cells #[.int .i64 0, .int .i64 0, .int .i64 0, .int .i64 0, .int .i64 0, .int .i64 0, .int .i64 0, .int .i64 0, .int .i64 0, .int .i64 0, .int .i64 0, .int .i64 0] 35)) (h.ext ((Ext.refl w).alloc _)) hm
 have hl := pagesR_len l
 have HP : Hid (pagesOrNone l = if logErr l = 0 then pagesR l else List.replicate 12 0) := rfl
 generalize logErr l = x at *
 generalize pagesOrNone l = q at *
 go_enter Tryz.func190, Tryz.ntmps190
 go_wp2_with fail
 refine H.mono ?_
 rintro e w1 ⟨p, rfl, hE, ⟨h0, pb, mt, mh, tx, ho, rfl, hB⟩ | ⟨h0, rfl⟩⟩
 ·subst h0
  have b := hB.blk
  obtain ⟨a0, a1, a2, a3, a4, a5, a6, a7, a8, a9, a10, a11, hps⟩ := list12 _ hl
  rw [hps, bookArr_eq] at b
  have B0 := (Blk.new w w.heap.size #[.int .i64 0, .int .i64 0, .int .i64 0, .int .i64 0, .int .i64 0, .int .i64 0, .int .i64 0, .int .i64 0, .int .i64 0, .int .i64 0, .int .i64 0, .int .i64 0] 35 rfl).ext hE
  have c := b.cell
  have c0 := B0.cell
  have f0 := B0.fr
  have hne : w.heap.size ≠ pb := by have := hB.ge; simp at this; omega
  clear hB H
  go_wp2_with fail
  have hE2 : Ext w w1 := ((Ext.refl w).alloc _).trans hE
  refine bodyPost_ret (v := .tuple #[.agg #[.int .i64 a0, .int .i64 a1, .int .i64 a2, .int .i64 a3, .int .i64 a4, .int .i64 a5, .int .i64 a6, .int .i64 a7, .int .i64 a8, .int .i64 a9, .int .i64 a10, .int .i64 a11], .int .i64 0]) (by simp [results, Tryz.results190, go_sem, c0]) rfl ⟨by rw [HP.out, if_pos trivial, hps]; rfl, ?_⟩
  exact ((((((((((((hE2.setCell (by simp) _).setCell (by simp) _).setCell (by simp) _).setCell (by simp) _).setCell (by simp) _).setCell (by simp) _).setCell (by simp) _).setCell (by simp) _).setCell (by simp) _).setCell (by simp) _).setCell (by simp) _).setCell (by simp) _)
 ·have hb : (x != 0) = true := by simpa using h0
  have B0 := (Blk.new w w.heap.size #[.int .i64 0, .int .i64 0, .int .i64 0, .int .i64 0, .int .i64 0, .int .i64 0, .int .i64 0, .int .i64 0, .int .i64 0, .int .i64 0, .int .i64 0, .int .i64 0] 35 rfl).ext hE
  have c0 := B0.cell
  have f0 := B0.fr
  clear H
  go_wp2_with fail
  have hE2 : Ext w w1 := ((Ext.refl w).alloc _).trans hE
  refine bodyPost_ret (v := .tuple #[.agg #[.int .i64 0, .int .i64 0, .int .i64 0, .int .i64 0, .int .i64 0, .int .i64 0, .int .i64 0, .int .i64 0, .int .i64 0, .int .i64 0, .int .i64 0, .int .i64 0], .int .i64 x]) (by simp [results, Tryz.results190, go_sem, c0]) rfl ⟨by rw [HP.out, if_neg h0]; rfl, ?_⟩
  exact ((((((((((((hE2.setCell (by simp) _).setCell (by simp) _).setCell (by simp) _).setCell (by simp) _).setCell (by simp) _).setCell (by simp) _).setCell (by simp) _).setCell (by simp) _).setCell (by simp) _).setCell (by simp) _).setCell (by simp) _).setCell (by simp) _)
def stateAns (l : List Rc) (t : Int) : Int × Int × Int := if logErr l = 0 then (if out 1 9 [t] then (0, 0, 3) else (stateR l t, ((lastR l t : Nat) : Int), 0)) else (0, 0, logErr l)
theorem logState_any (a : Option Addr) (len cap : Nat) (l : List Rc) (t : Int) (w : World) (h : Recs w a len l) (hm : len ≤ maxLen) :
  Calls Tryz.prog 82 #[.slice a len cap, .int .i64 t] w fun e w' => e = .returned (.tuple #[.int .i64 (stateAns l t).1, .int .i64 (stateAns l t).2.1, .int .i64 (stateAns l t).2.2]) ∧ Ext w w' := by
 have H := read_any a len cap l w h hm
 have HS : Hid (stateAns l t = if logErr l = 0 then (if out 1 9 [t] then (0, 0, 3) else (stateR l t, ((lastR l t : Nat) : Int), 0)) else (0, 0, logErr l)) := rfl
 generalize stateAns l t = sa at *
 generalize logErr l = x at *
 go_enter Tryz.func82, Tryz.ntmps82
 go_wp2_with fail
 refine H.mono ?_
 rintro e w1 ⟨p, rfl, hE, ⟨h0, pb, mt, mh, tx, ho, rfl, hB⟩ | ⟨h0, rfl⟩⟩
 ·subst h0
  clear H
  go_wp2_with fail
  refine (outside_n 1 1 9 _ 0 1 [t] _ rfl (by decide) (cells1 (by simp [go_sem]))).mono ?_
  rintro e w2 ⟨rfl, rfl⟩
  cases ho : out 1 9 [t]
  ·have HO := (show Hid (out 1 9 [t] = false) from ho)
   obtain ⟨sv, hlk, hown, _⟩ := hB.look t
   obtain ⟨sa', sm, scap, rfl⟩ := own_slice hown
   have hE2 := (Ext.refl w1).alloc (.cells #[.int .i64 t] 3)
   have B2 := hB.ext hE2
   have c12 : (w1.alloc (.cells #[.int .i64 t] 3)).cell? ⟨pb, 12, none⟩ = some (.map (some mt)) := by rw [B2.blk.cell]; exact (bookCells_12 _ mt mh _ (pagesR_len l)).1
   have hrun : (Instr.lookup 131 (.map (some mt)) (.int .i64 t) false).run Tryz.prog (w1.alloc (.cells #[.int .i64 t] 3)) = .ok (txVal (stateR l t) (lastR l t : Nat) (.slice sa' sm scap)) (w1.alloc (.cells #[.int .i64 t] 3)) := by rw [run_lookI B2.txs t]; exact congrArg (fun v => Result.ok v _) hlk
   have hE3 := hE.trans hE2
   clear hlk hown B2 hB hE2
   generalize w1.alloc (.cells #[.int .i64 t] 3) = W at *
   go_wp2_with fail
   go_quiet (fail)
   go_wp2_with fail
   refine bodyPost_ret (v := .tuple #[.int .i64 (stateR l t), .int .i64 (lastR l t : Nat), .int .i64 0]) (by simp [results, Tryz.results82, go_sem]) rfl ⟨by rw [HS.out, if_pos trivial, HO.out]; rfl, ?_⟩
   exact (hE3.alloc _).drewN _
  ·have HO := (show Hid (out 1 9 [t] = true) from ho)
   go_wp2_with fail
   refine bodyPost_ret (v := .tuple #[.int .i64 0, .int .i64 0, .int .i64 3]) (by simp [results, Tryz.results82, go_sem]) rfl ⟨by rw [HS.out, if_pos trivial, HO.out]; rfl, ?_⟩
   exact hE.alloc _
 ·have hb : (x != 0) = true := by simpa using h0
  clear H
  go_wp2_with fail
  refine bodyPost_ret (v := .tuple #[.int .i64 0, .int .i64 0, .int .i64 x]) (by simp [results, Tryz.results82, go_sem]) rfl ⟨by rw [HS.out, if_neg h0], ?_⟩
  exact hE
end Go.Proofs.YtibfgbmhmdggmaaGreatDoor.B
