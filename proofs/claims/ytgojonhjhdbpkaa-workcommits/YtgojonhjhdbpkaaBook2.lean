/- The contract of the book's with: a Txn behind its next record. -/
import Derived.Test.YtgojonhjhdbpkaaBook1
import Derived.Deep.AppendLies
namespace Go.Proofs.Ytgojonhjhdbpkaa.B
set_option maxRecDepth 100000
open Go.ChangeShapes Go.WideShapes Go.ChangeAt Go.RowKit

/-- One block alone, if any, may have turned; new blocks may lie behind. -/
abbrev Gr (row : Option Nat) (w w' : World) : Prop := w.grownBy w' row
theorem Gr.refl (row : Option Nat) (w : World) : Gr row w w := ⟨rfl, rfl, rfl, Nat.le_refl _, fun _ _ _ => rfl⟩
theorem Gr.of_ext {row : Option Nat} {w w' : World} (h : Ext w w') : Gr row w w' := ⟨h.os, h.tape, h.output, h.size, fun k hk _ => h.block k hk⟩
theorem Gr.trans {row : Option Nat} {a b c : World} (h : Gr row a b) (k : Gr row b c) : Gr row a c :=
  ⟨k.os.trans h.os, k.tape.trans h.tape, k.output.trans h.output, Nat.le_trans h.size k.size, fun i hi hn => (k.block i (Nat.lt_of_lt_of_le hi h.size) hn).trans (h.block i hi hn)⟩
theorem Gr.ext {row : Option Nat} {a b c : World} (h : Gr row a b) (k : Ext b c) : Gr row a c := h.trans (Gr.of_ext k)
theorem Gr.alloc {row : Option Nat} {a b : World} (h : Gr row a b) (o : Obj) : Gr row a (b.alloc o) := h.ext ((Ext.refl b).alloc o)
theorem Gr.drew {row : Option Nat} {a b : World} (h : Gr row a b) : Gr row a b.drew := h.ext (Ext.refl b).drew
theorem Gr.set {row : Option Nat} {a b : World} (h : Gr row a b) {p : Addr} (hp : a.heap.size ≤ p.block ∨ row = some p.block) (v : Value) : Gr row a (b.setCell p v) :=
  ⟨h.os, h.tape, h.output, by rw [World.size_setCell]; exact h.size, fun i hi hn => by
    rw [Below.heap_setCell _ _ _ _ (by
      rcases hp with hp | hp
      · omega
      · intro e; rw [e] at hn; exact hn hp.symm)]
    exact h.block i hi hn⟩
/-- What turned lay behind what is asked. -/
theorem Gr.ext_of {row : Option Nat} {a b c : World} (h : Ext a b) (k : Gr row b c) (hr : ∀ r, row = some r → a.heap.size ≤ r) : Ext a c :=
  Below.trans h ⟨k.os, k.tape, k.output, k.size, fun i hi => k.block i (Nat.lt_of_lt_of_le hi h.size) (fun e => by have := hr i e.symm; omega)⟩
theorem Gr.of_only {r : Nat} {w w' : World} (h : Only r w w') : Gr (some r) w w' := ⟨h.os, h.tape, h.output, by rw [h.size]; exact Nat.le_refl _, fun k _ hn => h.block k (fun e => hn (by rw [e]))⟩
theorem Gr.widen {row : Option Nat} {w w' : World} (h : Gr none w w') : Gr row w w' := ⟨h.os, h.tape, h.output, h.size, fun k hk _ => h.block k hk (by simp)⟩
theorem Blk.gr {row : Option Nat} {w w' : World} {k : Nat} {c : Array Value} {t : TypeId} (h : Blk w k c t) (g : Gr row w w') (hn : some k ≠ row) : Blk w' k c t := by
  have := g.block k h.lt hn; unfold Blk at *; rw [this]; exact h
theorem MapAt.gr {K : Type} {f : K → Value} {row : Option Nat} {w w' : World} {r : Nat} {al : List (K × Value)} (h : MapAt f w r al) (g : Gr row w w') (hn : some r ≠ row) : MapAt f w' r al := by
  have hl := h.lt
  obtain ⟨es, c, h, he⟩ := h
  exact ⟨es, c, by rw [g.block r hl hn]; exact h, he⟩
theorem own_lt {w : World} {base : Nat} {e : TypeId} {size : Nat} {v : Value} {n : Nat} {xs : List Value} (h : w.ownsRow base e size v n xs) : ∀ k, v.ownBlock = some k → k < w.heap.size := by
  intro k hk
  rcases h.2 with ⟨rfl, _⟩ | ⟨g, cap, cur, rfl, hg, hb, _⟩
  · simp [Value.ownBlock] at hk
  · simp only [Value.ownBlock, Option.some.injEq] at hk
    subst hk
    by_cases hb' : g < w.heap.size
    · exact hb'
    · have : w.heap[g]? = none := by simp; omega
      rw [this] at hb; cases hb
theorem own_gr {row : Option Nat} {w w' : World} {base : Nat} {e : TypeId} {size : Nat} {v : Value} {n : Nat} {xs : List Value} (h : w.ownsRow base e size v n xs) (g : Gr row w w') (hn : ∀ k, v.ownBlock = some k → some k ≠ row) : w'.ownsRow base e size v n xs := by
  have hl := own_lt h
  obtain ⟨h1, h2⟩ := h
  refine ⟨h1, ?_⟩
  rcases h2 with h2 | ⟨q, cap, cur, rfl, hg, hb, r⟩
  · exact Or.inl h2
  · exact Or.inr ⟨q, cap, cur, rfl, hg, by rw [g.block q (hl q rfl) (hn q rfl)]; exact hb, r⟩
theorem own_ext {w w' : World} {base : Nat} {e : TypeId} {size : Nat} {v : Value} {n : Nat} {xs : List Value} (h : w.ownsRow base e size v n xs) (g : Ext w w') : w'.ownsRow base e size v n xs := own_gr h (Gr.of_ext (row := none) g) (by simp)
theorem own_base {w : World} {base base' : Nat} {e : TypeId} {size : Nat} {v : Value} {n : Nat} {xs : List Value} (h : w.ownsRow base e size v n xs) (hb : base' ≤ base) : w.ownsRow base' e size v n xs := by
  obtain ⟨h1, h2⟩ := h
  refine ⟨h1, ?_⟩
  rcases h2 with h2 | ⟨q, cap, cur, rfl, hg, r⟩
  · exact Or.inl h2
  · exact Or.inr ⟨q, cap, cur, rfl, by omega, r⟩

theorem own_set {w : World} {base : Nat} {e : TypeId} {size : Nat} {v : Value} {n : Nat} {xs : List Value} (h : w.ownsRow base e size v n xs) {p : Addr} (hn : ∀ k, v.ownBlock = some k → k ≠ p.block) (u : Value) : (w.setCell p u).ownsRow base e size v n xs := by
  obtain ⟨h1, h2⟩ := h
  refine ⟨h1, ?_⟩
  rcases h2 with h2 | ⟨q, cap, cur, rfl, hg, hb, r⟩
  · exact Or.inl h2
  · exact Or.inr ⟨q, cap, cur, rfl, hg, by rw [Below.heap_setCell _ _ _ _ (hn q rfl)]; exact hb, r⟩
theorem infoRec : (Try.prog.info? 39).map (fun i => (i.zero, i.size, i.bytes)) = some (some (.agg #[.int .i64 0, .int .i64 0, .int .i64 0, .int .i64 0, .int .i64 0, .int .i64 0, .int .i64 0, .int .i64 0]), 8, 64) := by kernel_rfl
theorem cs_oneCell (r : Rc) : ∀ u ∈ r.cs.toList, u.oneCell' = true := by
  intro u hu
  simp only [List.mem_cons, List.not_mem_nil, or_false] at hu
  rcases hu with rfl | rfl | rfl | rfl | rfl | rfl | rfl | rfl <;> rfl

set_option maxHeartbeats 1000000 in
set_option maxRecDepth 100000 in
theorem with_write (s last n : Int) (sv : Value) (st : List Rc) (base : Nat) (r : Rc) (w : World) (ho : w.ownsRow base 39 8 sv st.length (flat st)) (hn : st.length ≤ 1000) (hk : r.kind = 1) (hb : base ≤ w.heap.size) :
    Calls Try.prog 85 #[txVal s last sv, .int .i64 n, r.val] w fun e w' => ∃ sv', e = .returned (txVal 1 n sv') ∧ w'.ownsRow base 39 8 sv' (st ++ [r]).length (flat (st ++ [r])) ∧ (sv'.ownBlock = sv.ownBlock ∨ ∃ k, w.heap.size ≤ k ∧ sv'.ownBlock = some k) ∧ Gr sv.ownBlock w w' := by
  obtain ⟨i0, hi, hz0, hz1, hz2⟩ := info_parts infoRec
  have HI := (show Hid _ from hi)
  have Z0 := (show Hid _ from hz0)
  have Z1 := (show Hid _ from hz1)
  have Z2 := (show Hid _ from hz2)
  clear hi hz0 hz1 hz2
  obtain ⟨kind, txn, prev, page, cell, old, new, next⟩ := r
  obtain rfl : kind = 1 := hk
  obtain ⟨a, m, cap, rfl⟩ : ∃ a m cap, sv = .slice a m cap := by
    rcases ho.2 with ⟨rfl, _⟩ | ⟨g, cap, cur, rfl, _⟩
    · exact ⟨none, 0, 0, rfl⟩
    · exact ⟨_, _, _, rfl⟩
  have hne : ∀ k, w.heap.size ≤ k → some k ≠ (Value.slice a m cap).ownBlock := fun k hk e => by have := own_lt ho k e.symm; omega
  have HNE := (show Hid _ from hne)
  have HO := (show Hid _ from ho)
  clear hne ho
  go_enter Try.func85, Try.ntmps85
  go_wp2_with (at_builtin; refine wpList_append_lies _ rfl _ _ 22 rfl base 39 i0 (.agg #[.int .i64 0, .int .i64 0, .int .i64 0, .int .i64 0, .int .i64 0, .int .i64 0, .int .i64 0, .int .i64 0]) 8 64 Try.underlying22 HI.out Z0.out Z1.out Z2.out rfl (by decide) (.slice a m cap) st.length (flat st) rfl (own_ext HO.out (((((Ext.refl w).alloc _).alloc _).alloc _).alloc _)) ⟨w.heap.size + 1 + 1 + 1, 0, none⟩ 1 1 [.int .i64 1, .int .i64 txn, .int .i64 prev, .int .i64 page, .int .i64 cell, .int .i64 old, .int .i64 new, .int .i64 next] rfl rfl (cells_new _ [.int .i64 1, .int .i64 txn, .int .i64 prev, .int .i64 page, .int .i64 cell, .int .i64 old, .int .i64 new, .int .i64 next] _ _ (by simp)) (cs_oneCell ⟨1, txn, prev, page, cell, old, new, next⟩) (by decide) (by unfold maxLen; omega) (by omega) (by simp; omega) (w.heap.size + 4) (by simp) ?_; intro g cap' w3 hown' hgrow hg hgl; have D0 := Blk.gr ((((Blk.new w w.heap.size #[.int .i64 s, .int .i64 last, .slice a m cap] 75 rfl).alloc _).alloc _).alloc _) hgrow (HNE.out _ (Nat.le_refl _)); have D1 := Blk.gr (((Blk.new (w.alloc _) (w.heap.size + 1) #[.int .i64 1, .int .i64 txn, .int .i64 prev, .int .i64 page, .int .i64 cell, .int .i64 old, .int .i64 new, .int .i64 next] 39 (by simp)).alloc _).alloc _) hgrow (HNE.out _ (by omega)); have D2 := Blk.gr ((Blk.new ((w.alloc _).alloc _) (w.heap.size + 1 + 1) #[.int .i64 0, .int .i64 0, .slice none 0 0] 75 (by simp)).alloc _) hgrow (HNE.out _ (by omega)); have c0 := D0.cell; have f0 := D0.fr; have c1 := D1.cell; have c2 := D2.cell; have f2 := D2.fr)
  have hgn : ∀ k, (Value.slice (some ⟨g, 0, none⟩) (st.length + 1) cap').ownBlock = some k → k ≠ w.heap.size ∧ k ≠ w.heap.size + 1 + 1 := by
    intro k hk
    simp only [Value.ownBlock, Option.some.injEq] at hk
    subst hk
    rcases hg with hg | hg
    · have := own_lt HO.out g hg
      omega
    · omega
  refine bodyPost_ret (v := .agg #[.int .i64 1, .int .i64 n, .slice (some ⟨g, 0, none⟩) (st.length + 1) cap']) (by simp [results, Try.results85, go_sem, c2]) rfl ⟨_, rfl, ?_, ?_, ?_⟩
  · have h1 := own_set (own_set (own_set hown' (p := ⟨w.heap.size, 2, none⟩) (fun k hk => (hgn k hk).1) (.slice (some ⟨g, 0, none⟩) (st.length + 1) cap')) (p := ⟨w.heap.size, 0, none⟩) (fun k hk => (hgn k hk).1) (.int .i64 1)) (p := ⟨w.heap.size, 1, none⟩) (fun k hk => (hgn k hk).1) (.int .i64 n)
    have h2 := own_set (own_set (own_set h1 (p := ⟨w.heap.size + 1 + 1, 0, none⟩) (fun k hk => (hgn k hk).2) (.int .i64 1)) (p := ⟨w.heap.size + 1 + 1, 1, none⟩) (fun k hk => (hgn k hk).2) (.int .i64 n)) (p := ⟨w.heap.size + 1 + 1, 2, none⟩) (fun k hk => (hgn k hk).2) (.slice (some ⟨g, 0, none⟩) (st.length + 1) cap')
    rw [flat_snoc, List.length_append, List.length_singleton]
    exact h2
  · rcases hg with hg | hg
    · exact Or.inl hg.symm
    · exact Or.inr ⟨g, by omega, rfl⟩
  · have g0 : Gr (Value.slice a m cap).ownBlock w w3 := (Gr.of_ext (((((Ext.refl w).alloc _).alloc _).alloc _).alloc _)).trans hgrow
    exact (((((g0.set (Or.inl (Nat.le_refl _)) _).set (Or.inl (Nat.le_refl _)) _).set (Or.inl (Nat.le_refl _)) _).set (Or.inl (by simp; omega)) _).set (Or.inl (by simp; omega)) _).set (Or.inl (by simp; omega)) _

/-- The slice that the book keeps behind a record that is no Write. -/
def keepB (k : Int) (sv : Value) : Value := if k = 3 then (match sv with | .slice a m cap => .slice a (m - 1) cap | v => v) else if k = 4 then .slice none 0 0 else sv
def standK (k : Int) (st : List Rc) : List Rc := if k = 3 then st.dropLast else if k = 4 then [] else st
theorem own_keep {w : World} {base : Nat} {sv : Value} {st : List Rc} {k : Int} (h : w.ownsRow base 39 8 sv st.length (flat st)) (h3 : k = 3 → st ≠ []) : w.ownsRow base 39 8 (keepB k sv) (standK k st).length (flat (standK k st)) ∧ (∀ g, (keepB k sv).ownBlock = some g → sv.ownBlock = some g) := by
  unfold keepB standK
  by_cases k3 : k = 3
  · simp only [k3, if_true]
    obtain ⟨h1, h2⟩ := h
    have hne := h3 k3
    have hpos : 0 < st.length := List.length_pos_iff.2 hne
    rcases h2 with ⟨rfl, h2⟩ | ⟨q, cap, cur, rfl, hg, hb, hc, hm, hs, ht⟩
    · omega
    · refine ⟨⟨by rw [flat_len], Or.inr ⟨q, cap, cur, by rw [List.length_dropLast], hg, hb, by rw [List.length_dropLast]; omega, hm, hs, ?_⟩⟩, fun g hg => hg⟩
      rw [flat_dropLast, ← ht, List.take_take]
      congr 1
      rw [List.length_dropLast]; omega
  · by_cases k4 : k = 4
    · simp only [k4, show ((4 : Int) = 3) = False from by simp, if_false, if_true]
      exact ⟨⟨rfl, Or.inl ⟨rfl, rfl⟩⟩, fun g hg => by simp [Value.ownBlock] at hg⟩
    · simp only [k3, k4, if_false]
      exact ⟨h, fun g hg => hg⟩

set_option maxHeartbeats 1000000 in
set_option maxRecDepth 100000 in
theorem with_other (s last n : Int) (a : Option Addr) (m cap : Nat) (r : Rc) (w : World) (hk : r.kind = 2 ∨ r.kind = 3 ∨ r.kind = 4) (hm : r.kind = 3 → 0 < m ∧ a ≠ none) (hm' : m ≤ 1000) (hmc : m ≤ cap) :
    Calls Try.prog 85 #[txVal s last (.slice a m cap), .int .i64 n, r.val] w fun e w' => e = .returned (txVal r.kind n (keepB r.kind (.slice a m cap))) ∧ Ext w w' := by
  obtain ⟨kind, txn, prev, page, cell, old, new, next⟩ := r
  dsimp only at hk hm
  rcases hk with rfl | rfl | rfl
  · go_enter Try.func85, Try.ntmps85
    go_wp2_with fail
    exact bodyPost_ret (v := .agg #[.int .i64 2, .int .i64 n, .slice a m cap]) (by simp [results, Try.results85, go_sem]) rfl ⟨rfl, (((Ext.refl _).alloc _).alloc _).alloc _⟩
  · obtain ⟨q, rfl⟩ : ∃ q, m = q + 1 := ⟨m - 1, by have := (hm rfl).1; omega⟩
    cases a with
    | none => exact absurd rfl (hm rfl).2
    | some ad =>
      clear hm
      go_enter Try.func85, Try.ntmps85
      go_wp2_with fail
      exact bodyPost_ret (v := .agg #[.int .i64 3, .int .i64 n, .slice (some ad) q cap]) (by simp [results, Try.results85, go_sem]) rfl ⟨rfl, (((Ext.refl _).alloc _).alloc _).alloc _⟩
  · go_enter Try.func85, Try.ntmps85
    go_wp2_with fail
    exact bodyPost_ret (v := .agg #[.int .i64 4, .int .i64 n, .slice none 0 0]) (by simp [results, Try.results85, go_sem]) rfl ⟨rfl, (((Ext.refl _).alloc _).alloc _).alloc _⟩
end Go.Proofs.Ytgojonhjhdbpkaa.B
