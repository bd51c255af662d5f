/- The contracts of the book's smaller functions: placeOf, allows, Back. The contract of the book's with: a Txn behind its next record. The book in memory; who has a cell; and the contract of clashes. The contract of the book's clashes. The contract of the book's mayNotFollow: it is asked of records that are right by themselves, and answers just what the document says. The contract of the book's mayNotFollow. Who has which cell, as a list of holds: no program in sight. -/
import Derived.Test.YtibfgbmhmdggmaaGreatDoorSpecA
import Derived.Deep.AppendLies
import Derived.Deep.DeepCutAuto
namespace Go.Proofs.YtibfgbmhmdggmaaGreatDoor.B
set_option maxHeartbeats 32000000
set_option maxRecDepth 100000
open Go.ChangeShapes Go.WideShapes Go.ChangeAt Go.RowKit
theorem placeOf_any (r : Rc) (w : World) :
  Calls Tryz.prog 201 #[r.val] w fun e w' => e = .returned (keyP (r.page, r.cell)) ∧ Ext w w' := by
 go_enter Tryz.func201, Tryz.ntmps201
 go_wp2_with fail
 exact bodyPost_ret (v := .agg #[.int .i64 r.page, .int .i64 r.cell]) (by simp [results, Tryz.results201, go_sem]) rfl ⟨rfl, ((Ext.refl _).alloc _).alloc _⟩
abbrev txVal (s last : Int) (sv : Value) : Value := .agg #[.int .i64 s, .int .i64 last, sv]
theorem allows_any (s last : Int) (a : Option Addr) (n cap : Nat) (k : Int) (w : World) (hn : n ≤ 1000) (hk : k = 1 ∨ k = 2 ∨ k = 3 ∨ k = 4) :
  Calls Tryz.prog 195 #[txVal s last (.slice a n cap), .int .i64 k] w fun e w' => e = .returned (.bool (allowsB s n k)) ∧ Ext w w' := by
 rcases hk with rfl | rfl | rfl | rfl
 ·have HA : Hid (allowsB s n 1 = (s == 0 || s == 1)) := rfl
  cases h0 : (s == 0)
  ·go_enter Tryz.func195, Tryz.ntmps195
   go_wp2_with fail
   go_ret
   exact ⟨by rw [HA.out, h0]; rfl, (Ext.refl _).alloc _⟩
  ·go_enter Tryz.func195, Tryz.ntmps195
   go_wp2_with fail
   go_ret
   exact ⟨by rw [HA.out, h0]; rfl, (Ext.refl _).alloc _⟩
 ·have HA : Hid (allowsB s n 2 = (s == 0 || s == 1)) := rfl
  cases h0 : (s == 0)
  ·go_enter Tryz.func195, Tryz.ntmps195
   go_wp2_with fail
   go_ret
   exact ⟨by rw [HA.out, h0]; rfl, (Ext.refl _).alloc _⟩
  ·go_enter Tryz.func195, Tryz.ntmps195
   go_wp2_with fail
   go_ret
   exact ⟨by rw [HA.out, h0]; rfl, (Ext.refl _).alloc _⟩
 ·have HA : Hid (allowsB s n 3 = (decide (0 < n) && s != 2)) := rfl
  by_cases h0 : 0 < n
  ·have hi : (0 : Int) < (n : Int) := by omega
   have HD : Hid (decide (0 < n) = true) := by unfold Hid; simpa using h0
   go_enter Tryz.func195, Tryz.ntmps195
   go_wp2_with fail
   go_ret
   exact ⟨by rw [HA.out, HD.out]; rfl, (Ext.refl _).alloc _⟩
  ·have hi : ¬ (0 : Int) < (n : Int) := by omega
   have HD : Hid (decide (0 < n) = false) := by unfold Hid; simpa using h0
   go_enter Tryz.func195, Tryz.ntmps195
   go_wp2_with fail
   go_ret
   exact ⟨by rw [HA.out, HD.out]; rfl, (Ext.refl _).alloc _⟩
 ·have HA : Hid (allowsB s n 4 = (s == 2 || (s == 3 && n == 0))) := rfl
  cases h2 : (s == 2)
  ·cases h3 : (s == 3)
   ·go_enter Tryz.func195, Tryz.ntmps195
    go_wp2_with fail
    go_ret
    exact ⟨by rw [HA.out, h2, h3]; rfl, (Ext.refl _).alloc _⟩
   ·have HN : Hid (((n : Int) == 0) = (n == 0)) := by unfold Hid; rw [Bool.eq_iff_iff]; simp
    go_enter Tryz.func195, Tryz.ntmps195
    go_wp2_with fail
    go_ret
    exact ⟨by rw [HA.out, h2, h3, ← HN.out]; rfl, (Ext.refl _).alloc _⟩
  ·go_enter Tryz.func195, Tryz.ntmps195
   go_wp2_with fail
   go_ret
   exact ⟨by rw [HA.out, h2]; rfl, (Ext.refl _).alloc _⟩
def flat (l : List Rc) : List Value := l.flatMap fun r => r.cs.toList
theorem flat_snoc (l : List Rc) (r : Rc) : flat (l ++ [r]) = flat l ++ r.cs.toList := by simp [flat]
theorem flat_len (l : List Rc) : (flat l).length = l.length * 8 := by
 induction l with
 | nil => rfl
 | cons r l ih => simp only [flat, List.flatMap_cons, List.length_append] at *; rw [ih]; simp; omega
theorem flat_dropLast (l : List Rc) : flat l.dropLast = (flat l).take (l.dropLast.length * 8) := by
 rcases List.eq_nil_or_concat l with rfl | ⟨ms, r, rfl⟩
 ·rfl
 ·simp only [List.concat_eq_append, List.dropLast_concat, flat_snoc]
  rw [List.take_append_of_le_length (by rw [flat_len]; omega), List.take_of_length_le (by rw [flat_len]; omega)]
theorem own_cell {w : World} {g : Nat} {cur : Array Value} {e : TypeId} {xs : List Value} {m i : Nat} {v : Value} (hg : w.heap[g]? = some (.cells cur e (0, 0))) (hx : cur.toList.take m = xs) (hi : xs[i]? = some v) : w.cell? ⟨g, i, none⟩ = some v := by
 have h1 : cur[i]? = some v := by
  rw [← hx] at hi
  rw [List.getElem?_take] at hi
  split at hi
  ·simpa using hi
  ·cases hi
 simp [World.cell?, hg, h1]
theorem flat_get : ∀ (l : List Rc) (i j : Nat) (h : i < l.length), j < 8 → (flat l)[i * 8 + j]? = l[i].cs.toList[j]? := by
 intro l
 induction l with
 | nil => intro i j h; simp at h
 | cons r l ih =>
  intro i j h hj
  have e : flat (r :: l) = r.cs.toList ++ flat l := by simp [flat]
  rw [e]
  cases i with
  | zero => rw [List.getElem?_append_left (by simp; omega)]; simp
  | succ i =>
   rw [List.getElem?_append_right (by simp; omega)]
   have := ih i j (by simpa using h) hj
   rw [show (i + 1) * 8 + j - r.cs.toList.length = i * 8 + j from by simp; omega, this]
   simp
theorem own_rec {w : World} {g : Nat} {cur : Array Value} {e : TypeId} {l : List Rc} {m : Nat} (hg : w.heap[g]? = some (.cells cur e (0, 0))) (hx : cur.toList.take m = flat l) (i : Nat) (hi : i < l.length) : RecAt w g (i * 8) l[i] := by
 have f : ∀ j v, j < 8 → l[i].cs.toList[j]? = some v → w.cell? ⟨g, i * 8 + j, none⟩ = some v := fun j v hj hv => own_cell hg hx (by rw [flat_get l i j hi hj]; exact hv)
 exact ⟨f 0 _ (by omega) rfl, f 1 _ (by omega) rfl, f 2 _ (by omega) rfl, f 3 _ (by omega) rfl, f 4 _ (by omega) rfl, f 5 _ (by omega) rfl, f 6 _ (by omega) rfl, f 7 _ (by omega) rfl⟩
theorem back_any (s last : Int) (sv : Value) (st : List Rc) (base : Nat) (w : World) (ho : w.ownsRow base 81 8 sv st.length (flat st)) (hn : st.length ≤ 1000) :
  Calls Tryz.prog 165 #[txVal s last sv] w fun e w' => e = .returned (Rc.val (backB last st)) ∧ Ext w w' := by
 rcases List.eq_nil_or_concat st with rfl | ⟨ms, v, rfl⟩
 ·obtain ⟨_, ⟨rfl, _⟩ | ⟨g, cap, cur, rfl, hg, hblk, hn', hcap, hsz, htk⟩⟩ := ho
  ·go_enter Tryz.func165, Tryz.ntmps165
   go_wp2_with fail
   exact bodyPost_ret (v := .agg #[.int .i64 0, .int .i64 0, .int .i64 0, .int .i64 0, .int .i64 0, .int .i64 0, .int .i64 0, .int .i64 0]) (by simp [results, Tryz.results165, go_sem]) rfl ⟨rfl, ((Ext.refl _).alloc _).alloc _⟩
  ·rw [List.length_nil]
   go_enter Tryz.func165, Tryz.ntmps165
   go_wp2_with fail
   exact bodyPost_ret (v := .agg #[.int .i64 0, .int .i64 0, .int .i64 0, .int .i64 0, .int .i64 0, .int .i64 0, .int .i64 0, .int .i64 0]) (by simp [results, Tryz.results165, go_sem]) rfl ⟨rfl, ((Ext.refl _).alloc _).alloc _⟩
 ·rw [List.concat_eq_append] at *
  have HB : Hid (backB last (ms ++ [v]) = ⟨3, v.txn, last, v.page, v.cell, v.new, v.old, v.prev⟩) := by unfold Hid backB; simp
  obtain ⟨_, ⟨_, h0⟩ | ⟨g, cap, cur, rfl, hg, hblk, hn', hcap, hsz, htk⟩⟩ := ho
  ·simp at h0
  have hrec : RecAt w g (ms.length * 8) v := by
   have := own_rec hblk htk ms.length (by simp)
   simpa using this
  obtain ⟨c0, c1, c2, c3, c4, c5, c6, c7⟩ := hrec
  have hgl := cell_lt c0
  dsimp only at hgl
  have hml : ms.length ≤ 1000 := by simp at hn; omega
  have hne : (((ms.length : Int) + 1) == 0) = false := by rw [beq_eq_false_iff_ne]; omega
  rw [List.length_append, List.length_singleton]
  clear htk hsz hcap hn' hblk hn hg
  go_enter Tryz.func165, Tryz.ntmps165
  go_wp2_with fail
  refine bodyPost_ret (v := .agg #[.int .i64 3, .int .i64 v.txn, .int .i64 last, .int .i64 v.page, .int .i64 v.cell, .int .i64 v.new, .int .i64 v.old, .int .i64 v.prev]) (by simp [results, Tryz.results165, go_sem]) rfl ⟨by rw [HB.out], ?_⟩
  exact (((Ext.refl _).alloc _).alloc _).alloc _
abbrev Gr (row : Option Nat) (w w' : World) : Prop := w.grownBy w' row
theorem Gr.refl (row : Option Nat) (w : World) : Gr row w w := ⟨rfl, rfl, rfl, Nat.le_refl _, fun _ _ _ => rfl⟩
theorem Gr.of_ext {row : Option Nat} {w w' : World} (h : Ext w w') : Gr row w w' := ⟨h.os, h.tape, h.output, h.size, fun k hk _ => h.block k hk⟩
theorem Gr.trans {row : Option Nat} {a b c : World} (h : Gr row a b) (k : Gr row b c) : Gr row a c :=
 ⟨k.os.trans h.os, k.tape.trans h.tape, k.output.trans h.output, Nat.le_trans h.size k.size, fun i hi hn => (k.block i (Nat.lt_of_lt_of_le hi h.size) hn).trans (h.block i hi hn)⟩
theorem Gr.ext {row : Option Nat} {a b c : World} (h : Gr row a b) (k : Ext b c) : Gr row a c := h.trans (Gr.of_ext k)
theorem Gr.alloc {row : Option Nat} {a b : World} (h : Gr row a b) (o : Obj) : Gr row a (b.alloc o) := h.ext ((Ext.refl b).alloc o)
theorem Gr.drew {row : Option Nat} {a b : World} (h : Gr row a b) : Gr row a b.drew := h.ext (Ext.refl b).drew
theorem Gr.set {row : Option Nat} {a b : World} (h : Gr row a b) {p : Addr} (hp : a.heap.size ≤ p.block ∨ row = some p.block) (v : Value) : Gr row a (b.setCell p v) :=
 ⟨h.os, h.tape, h.output, by rw [World.size_setCell]; exact h.size, fun i hi hn => by
  rw [Below.heap_setCell _ _ _ _ (by
   rcases hp with hp | hp
   ·omega
   ·intro e; rw [e] at hn; exact hn hp.symm)]
  exact h.block i hi hn⟩
theorem Gr.ext_of {row : Option Nat} {a b c : World} (h : Ext a b) (k : Gr row b c) (hr : ∀ r, row = some r → a.heap.size ≤ r) : Ext a c :=
 Below.trans h ⟨k.os, k.tape, k.output, k.size, fun i hi => k.block i (Nat.lt_of_lt_of_le hi h.size) (fun e => by have := hr i e.symm; omega)⟩
theorem Gr.of_only {r : Nat} {w w' : World} (h : Only r w w') : Gr (some r) w w' := ⟨h.os, h.tape, h.output, by rw [h.size]; exact Nat.le_refl _, fun k _ hn => h.block k (fun e => hn (by rw [e]))⟩
theorem Blk.gr {row : Option Nat} {w w' : World} {k : Nat} {c : Array Value} {t : TypeId} (h : Blk w k c t) (g : Gr row w w') (hn : some k ≠ row) : Blk w' k c t := by
 have := g.block k h.lt hn; unfold Blk at *; rw [this]; exact h
theorem MapAt.gr {K : Type} {f : K → Value} {row : Option Nat} {w w' : World} {r : Nat} {al : List (K × Value)} (h : MapAt f w r al) (g : Gr row w w') (hn : some r ≠ row) : MapAt f w' r al := by
 have hl := h.lt
 obtain ⟨es, c, h, he⟩ := h
 exact ⟨es, c, by rw [g.block r hl hn]; exact h, he⟩
theorem own_lt {w : World} {base : Nat} {e : TypeId} {size : Nat} {v : Value} {n : Nat} {xs : List Value} (h : w.ownsRow base e size v n xs) : ∀ k, v.ownBlock = some k → k < w.heap.size := by
 intro k hk
 rcases h.2 with ⟨rfl, _⟩ | ⟨g, cap, cur, rfl, hg, hb, _⟩
 ·simp [Value.ownBlock] at hk
 ·simp only [Value.ownBlock, Option.some.injEq] at hk
  subst hk
  by_cases hb' : g < w.heap.size
  ·exact hb'
  ·have : w.heap[g]? = none := by simp; omega
   rw [this] at hb; cases hb
theorem own_gr {row : Option Nat} {w w' : World} {base : Nat} {e : TypeId} {size : Nat} {v : Value} {n : Nat} {xs : List Value} (h : w.ownsRow base e size v n xs) (g : Gr row w w') (hn : ∀ k, v.ownBlock = some k → some k ≠ row) : w'.ownsRow base e size v n xs := by
 have hl := own_lt h
 obtain ⟨h1, h2⟩ := h
 refine ⟨h1, ?_⟩
 rcases h2 with h2 | ⟨q, cap, cur, rfl, hg, hb, r⟩
 ·exact Or.inl h2
 ·exact Or.inr ⟨q, cap, cur, rfl, hg, by rw [g.block q (hl q rfl) (hn q rfl)]; exact hb, r⟩
theorem own_ext {w w' : World} {base : Nat} {e : TypeId} {size : Nat} {v : Value} {n : Nat} {xs : List Value} (h : w.ownsRow base e size v n xs) (g : Ext w w') : w'.ownsRow base e size v n xs := own_gr h (Gr.of_ext (row := none) g) (by simp)
theorem own_base {w : World} {base base' : Nat} {e : TypeId} {size : Nat} {v : Value} {n : Nat} {xs : List Value} (h : w.ownsRow base e size v n xs) (hb : base' ≤ base) : w.ownsRow base' e size v n xs := by
 obtain ⟨h1, h2⟩ := h
 refine ⟨h1, ?_⟩
 rcases h2 with h2 | ⟨q, cap, cur, rfl, hg, r⟩
 ·exact Or.inl h2
 ·exact Or.inr ⟨q, cap, cur, rfl, by omega, r⟩
theorem own_set {w : World} {base : Nat} {e : TypeId} {size : Nat} {v : Value} {n : Nat} {xs : List Value} (h : w.ownsRow base e size v n xs) {p : Addr} (hn : ∀ k, v.ownBlock = some k → k ≠ p.block) (u : Value) : (w.setCell p u).ownsRow base e size v n xs := by
 obtain ⟨h1, h2⟩ := h
 refine ⟨h1, ?_⟩
 rcases h2 with h2 | ⟨q, cap, cur, rfl, hg, hb, r⟩
 ·exact Or.inl h2
 ·exact Or.inr ⟨q, cap, cur, rfl, hg, by rw [Below.heap_setCell _ _ _ _ (hn q rfl)]; exact hb, r⟩
theorem infoRec : (Tryz.prog.info? 81).map (fun i => (i.zero, i.size, i.bytes)) = some (some (.agg #[.int .i64 0, .int .i64 0, .int .i64 0, .int .i64 0, .int .i64 0, .int .i64 0, .int .i64 0, .int .i64 0]), 8, 64) := by kernel_rfl
theorem cs_oneCell (r : Rc) : ∀ u ∈ r.cs.toList, u.oneCell' = true := by
 intro u hu
 simp only [List.mem_cons, List.not_mem_nil, or_false] at hu
 rcases hu with rfl | rfl | rfl | rfl | rfl | rfl | rfl | rfl <;> rfl
theorem with_write (s last n : Int) (sv : Value) (st : List Rc) (base : Nat) (r : Rc) (w : World) (ho : w.ownsRow base 81 8 sv st.length (flat st)) (hn : st.length ≤ 1000) (hk : r.kind = 1) (hb : base ≤ w.heap.size) :
  Calls Tryz.prog 177 #[txVal s last sv, .int .i64 n, r.val] w fun e w' => ∃ sv', e = .returned (txVal 1 n sv') ∧ w'.ownsRow base 81 8 sv' (st ++ [r]).length (flat (st ++ [r])) ∧ (sv'.ownBlock = sv.ownBlock ∨ ∃ k, w.heap.size ≤ k ∧ sv'.ownBlock = some k) ∧ Gr sv.ownBlock w w' := by
 obtain ⟨i0, hi, hz0, hz1, hz2⟩ := info_parts infoRec
 have HI := (show Hid _ from hi)
 have Z0 := (show Hid _ from hz0)
 have Z1 := (show Hid _ from hz1)
 have Z2 := (show Hid _ from hz2)
 clear hi hz0 hz1 hz2
 obtain ⟨kind, txn, prev, page, cell, old, new, next⟩ := r
 obtain rfl : kind = 1 := hk
 obtain ⟨a, m, cap, rfl⟩ : ∃ a m cap, sv = .slice a m cap := by
  rcases ho.2 with ⟨rfl, _⟩ | ⟨g, cap, cur, rfl, _⟩
  ·exact ⟨none, 0, 0, rfl⟩
  ·exact ⟨_, _, _, rfl⟩
 have hne : ∀ k, w.heap.size ≤ k → some k ≠ (Value.slice a m cap).ownBlock := fun k hk e => by have := own_lt ho k e.symm; omega
 have HNE := (show Hid _ from hne)
 have HO := (show Hid _ from ho)
 clear hne ho
 go_enter Tryz.func177, Tryz.ntmps177
 go_wp2_with (at_builtin; refine wpList_append_lies _ rfl _ _ 36 rfl base 81 i0 (.agg #[.int .i64 0, .int .i64 0, .int .i64 0, .int .i64 0, .int .i64 0, .int .i64 0, .int .i64 0, .int .i64 0]) 8 64 Tryz.underlying36 HI.out Z0.out Z1.out Z2.out rfl (by decide) (.slice a m cap) st.length (flat st) rfl (own_ext HO.out (((((Ext.refl w).alloc _).alloc _).alloc _).alloc _)) ⟨w.heap.size + 1 + 1 + 1, 0, none⟩ 1 1 [.int .i64 1, .int .i64 txn, .int .i64 prev, .int .i64 page, .int .i64 cell, .int .i64 old, .int .i64 new, .int .i64 next] rfl rfl (cells_new _ [.int .i64 1, .int .i64 txn, .int .i64 prev, .int .i64 page, .int .i64 cell, .int .i64 old, .int .i64 new, .int .i64 next] _ _ (by simp)) (cs_oneCell ⟨1, txn, prev, page, cell, old, new, next⟩) (by decide) (by unfold maxLen; omega) (by omega) (by simp; omega) (w.heap.size + 4) (by simp) ?_; intro g cap' w3 hown' hgrow hg hgl; have D0 := Blk.gr ((((Blk.new w w.heap.size #[.int .i64 s, .int .i64 last, .slice a m cap] 150 rfl).alloc _).alloc _).alloc _) hgrow (HNE.out _ (Nat.le_refl _)); have D1 := Blk.gr (((Blk.new (w.alloc _) (w.heap.size + 1) #[.int .i64 1, .int .i64 txn, .int .i64 prev, .int .i64 page, .int .i64 cell, .int .i64 old, .int .i64 new, .int .i64 next] 81 (by simp)).alloc _).alloc _) hgrow (HNE.out _ (by omega)); have D2 := Blk.gr ((Blk.new ((w.alloc _).alloc _) (w.heap.size + 1 + 1) #[.int .i64 0, .int .i64 0, .slice none 0 0] 150 (by simp)).alloc _) hgrow (HNE.out _ (by omega)); have c0 := D0.cell; have f0 := D0.fr; have c1 := D1.cell; have c2 := D2.cell; have f2 := D2.fr)
 have hgn : ∀ k, (Value.slice (some ⟨g, 0, none⟩) (st.length + 1) cap').ownBlock = some k → k ≠ w.heap.size ∧ k ≠ w.heap.size + 1 + 1 := by
  intro k hk
  simp only [Value.ownBlock, Option.some.injEq] at hk
  subst hk
  rcases hg with hg | hg
  ·have := own_lt HO.out g hg
   omega
  ·omega
 refine bodyPost_ret (v := .agg #[.int .i64 1, .int .i64 n, .slice (some ⟨g, 0, none⟩) (st.length + 1) cap']) (by simp [results, Tryz.results177, go_sem, c2]) rfl ⟨_, rfl, ?_, ?_, ?_⟩
 ·have h1 := own_set (own_set (own_set hown' (p := ⟨w.heap.size, 2, none⟩) (fun k hk => (hgn k hk).1) (.slice (some ⟨g, 0, none⟩) (st.length + 1) cap')) (p := ⟨w.heap.size, 0, none⟩) (fun k hk => (hgn k hk).1) (.int .i64 1)) (p := ⟨w.heap.size, 1, none⟩) (fun k hk => (hgn k hk).1) (.int .i64 n)
  have h2 := own_set (own_set (own_set h1 (p := ⟨w.heap.size + 1 + 1, 0, none⟩) (fun k hk => (hgn k hk).2) (.int .i64 1)) (p := ⟨w.heap.size + 1 + 1, 1, none⟩) (fun k hk => (hgn k hk).2) (.int .i64 n)) (p := ⟨w.heap.size + 1 + 1, 2, none⟩) (fun k hk => (hgn k hk).2) (.slice (some ⟨g, 0, none⟩) (st.length + 1) cap')
  rw [flat_snoc, List.length_append, List.length_singleton]
  exact h2
 ·rcases hg with hg | hg
  ·exact Or.inl hg.symm
  ·exact Or.inr ⟨g, by omega, rfl⟩
 ·have g0 : Gr (Value.slice a m cap).ownBlock w w3 := (Gr.of_ext (((((Ext.refl w).alloc _).alloc _).alloc _).alloc _)).trans hgrow
  exact (((((g0.set (Or.inl (Nat.le_refl _)) _).set (Or.inl (Nat.le_refl _)) _).set (Or.inl (Nat.le_refl _)) _).set (Or.inl (by simp; omega)) _).set (Or.inl (by simp; omega)) _).set (Or.inl (by simp; omega)) _
def keepB (k : Int) (sv : Value) : Value := if k = 3 then (match sv with | .slice a m cap => .slice a (m - 1) cap | v => v) else if k = 4 then .slice none 0 0 else sv
def standK (k : Int) (st : List Rc) : List Rc := if k = 3 then st.dropLast else if k = 4 then [] else st
theorem own_keep {w : World} {base : Nat} {sv : Value} {st : List Rc} {k : Int} (h : w.ownsRow base 81 8 sv st.length (flat st)) (h3 : k = 3 → st ≠ []) : w.ownsRow base 81 8 (keepB k sv) (standK k st).length (flat (standK k st)) ∧ (∀ g, (keepB k sv).ownBlock = some g → sv.ownBlock = some g) := by
 unfold keepB standK
 by_cases k3 : k = 3
 ·simp only [k3, if_true]
  obtain ⟨h1, h2⟩ := h
  have hne := h3 k3
  have hpos : 0 < st.length := List.length_pos_iff.2 hne
  rcases h2 with ⟨rfl, h2⟩ | ⟨q, cap, cur, rfl, hg, hb, hc, hm, hs, ht⟩
  ·omega
  ·refine ⟨⟨by rw [flat_len], Or.inr ⟨q, cap, cur, by rw [List.length_dropLast], hg, hb, by rw [List.length_dropLast]; omega, hm, hs, ?_⟩⟩, fun g hg => hg⟩
   rw [flat_dropLast, ← ht, List.take_take]
   congr 1
   rw [List.length_dropLast]; omega
 ·by_cases k4 : k = 4
  ·simp only [k4, show ((4 : Int) = 3) = False from by simp, if_false, if_true]
   exact ⟨⟨rfl, Or.inl ⟨rfl, rfl⟩⟩, fun g hg => by simp [Value.ownBlock] at hg⟩
  ·simp only [k3, k4, if_false]
   exact ⟨h, fun g hg => hg⟩
theorem with_other (s last n : Int) (a : Option Addr) (m cap : Nat) (r : Rc) (w : World) (hk : r.kind = 2 ∨ r.kind = 3 ∨ r.kind = 4) (hm : r.kind = 3 → 0 < m ∧ a ≠ none) (hm' : m ≤ 1000) (hmc : m ≤ cap) :
  Calls Tryz.prog 177 #[txVal s last (.slice a m cap), .int .i64 n, r.val] w fun e w' => e = .returned (txVal r.kind n (keepB r.kind (.slice a m cap))) ∧ Ext w w' := by
 obtain ⟨kind, txn, prev, page, cell, old, new, next⟩ := r
 dsimp only at hk hm
 rcases hk with rfl | rfl | rfl
 ·go_enter Tryz.func177, Tryz.ntmps177
  go_wp2_with fail
  exact bodyPost_ret (v := .agg #[.int .i64 2, .int .i64 n, .slice a m cap]) (by simp [results, Tryz.results177, go_sem]) rfl ⟨rfl, (((Ext.refl _).alloc _).alloc _).alloc _⟩
 ·obtain ⟨q, rfl⟩ : ∃ q, m = q + 1 := ⟨m - 1, by have := (hm rfl).1; omega⟩
  cases a with
  | none => exact absurd rfl (hm rfl).2
  | some ad =>
   clear hm
   go_enter Tryz.func177, Tryz.ntmps177
   go_wp2_with fail
   exact bodyPost_ret (v := .agg #[.int .i64 3, .int .i64 n, .slice (some ad) q cap]) (by simp [results, Tryz.results177, go_sem]) rfl ⟨rfl, (((Ext.refl _).alloc _).alloc _).alloc _⟩
 ·go_enter Tryz.func177, Tryz.ntmps177
  go_wp2_with fail
  exact bodyPost_ret (v := .agg #[.int .i64 4, .int .i64 n, .slice none 0 0]) (by simp [results, Tryz.results177, go_sem]) rfl ⟨rfl, (((Ext.refl _).alloc _).alloc _).alloc _⟩
structure TxE where
 key : Int
 state : Int
 last : Int
 sv : Value
 recs : List Rc
abbrev TxE.ent (t : TxE) : Int × Value := (t.key, txVal t.state t.last t.sv)
abbrev hoVal (h : Int × Int) : Value := .agg #[.int .i64 h.1, .int .i64 h.2]
abbrev hoEnt (h : (Int × Int) × (Int × Int)) : (Int × Int) × Value := (h.1, hoVal h.2)
def bookCells (ps : List Int) (mt mh : Nat) (n : Int) : Array Value := ints ps ++ #[.map (some mt), .map (some mh), .int .i64 n]
structure BookOk (w : World) (base pb mt mh : Nat) (l : List Rc) (tx : List TxE) (ho : List ((Int × Int) × (Int × Int))) : Prop where
 blk : Blk w pb (bookCells (pagesR l) mt mh (l.length : Nat)) 134
 txs : MapAt keyI w mt (tx.map TxE.ent)
 hos : MapAt keyP w mh (ho.map hoEnt)
 own : ∀ t ∈ tx, w.ownsRow base 81 8 t.sv t.recs.length (flat t.recs)
 apart : tx.Pairwise fun s t => s.key ≠ t.key ∧ ∀ g, s.sv.ownBlock = some g → t.sv.ownBlock ≠ some g
 ge : base ≤ pb ∧ base ≤ mt ∧ base ≤ mh
 ne : mt ≠ mh
 right : Right l
 tells : ∀ t ∈ tx, t.state = stateR l t.key ∧ t.last = (lastR l t.key : Nat) ∧ t.recs = standB l t.key ∧ lastR l t.key ≠ 0
 all : ∀ k, lastR l k ≠ 0 → ∃ t ∈ tx, t.key = k
 hold : ∀ h ∈ ho, h.2.2 = (heldBy l h.1 h.2.1 : Nat) ∧ 0 < h.2.2
 held : ∀ p t, 0 < heldBy l p t → ∃ n, (p, (t, n)) ∈ ho
 once : ho.Pairwise fun g h => g.1 ≠ h.1
theorem BookOk.ext {w w' : World} {base pb mt mh : Nat} {l : List Rc} {tx : List TxE} {ho : List ((Int × Int) × (Int × Int))} (h : BookOk w base pb mt mh l tx ho) (e : Ext w w') : BookOk w' base pb mt mh l tx ho :=
 ⟨h.blk.ext e, h.txs.ext e, h.hos.ext e, fun t ht => own_ext (h.own t ht) e, h.apart, h.ge, h.ne, h.right, h.tells, h.all, h.hold, h.held, h.once⟩
theorem bookCells_page (ps : List Int) (mt mh : Nat) (n : Int) (hl : ps.length = 12) (i : Nat) (hi : i < 12) : (bookCells ps mt mh n)[i]? = some (.int .i64 (ps.getD i 0)) := by
 unfold bookCells
 rw [Array.getElem?_append_left (by simp [ints, hl, hi]), ints_get]
 have : i < ps.length := by omega
 simp [this]
theorem bookCells_12 (ps : List Int) (mt mh : Nat) (n : Int) (hl : ps.length = 12) : (bookCells ps mt mh n)[12]? = some (.map (some mt)) ∧ (bookCells ps mt mh n)[13]? = some (.map (some mh)) ∧ (bookCells ps mt mh n)[14]? = some (.int .i64 n) := by
 have hs : (ints ps).size = 12 := by simp [ints, hl]
 unfold bookCells
 refine ⟨?_, ?_, ?_⟩ <;> rw [Array.getElem?_append_right (by omega), hs] <;> rfl
theorem find_tx : ∀ (tx : List TxE) (k : Int) (i : Nat), (∃ t ∈ tx, t.key = k ∧ ∃ j, findI (fun q => k == q) (tx.map TxE.ent) i = some (j, txVal t.state t.last t.sv)) ∨ ((∀ t ∈ tx, t.key ≠ k) ∧ findI (fun q => k == q) (tx.map TxE.ent) i = none) := by
 intro tx
 induction tx with
 | nil => intro k i; exact Or.inr ⟨fun t ht => (by cases ht), rfl⟩
 | cons t tx ih =>
  intro k i
  simp only [List.map_cons, findI]
  by_cases hk : k = t.key
  ·subst hk
   exact Or.inl ⟨t, by simp, rfl, i, by simp⟩
  ·have hb : (k == t.key) = false := by simpa using hk
   rcases ih k (i + 1) with ⟨u, hu, he, j, hf⟩ | ⟨hn, hf⟩
   ·exact Or.inl ⟨u, by simp [hu], he, j, by simp [hb]; exact hf⟩
   ·refine Or.inr ⟨fun u hu => ?_, by simp [hb]; exact hf⟩
    rcases List.mem_cons.1 hu with rfl | hu
    ·exact fun e => hk e.symm
    ·exact hn u hu
theorem find_ho : ∀ (ho : List ((Int × Int) × (Int × Int))) (p : Int × Int) (i : Nat), (∃ h ∈ ho, h.1 = p ∧ ∃ j, findI (fun q => p.1 == q.1 && p.2 == q.2) (ho.map hoEnt) i = some (j, hoVal h.2)) ∨ ((∀ h ∈ ho, h.1 ≠ p) ∧ findI (fun q => p.1 == q.1 && p.2 == q.2) (ho.map hoEnt) i = none) := by
 intro ho
 induction ho with
 | nil => intro p i; exact Or.inr ⟨fun t ht => (by cases ht), rfl⟩
 | cons h ho ih =>
  intro p i
  simp only [List.map_cons, findI]
  by_cases hk : p = h.1
  ·subst hk
   exact Or.inl ⟨h, by simp, rfl, i, by simp⟩
  ·have hb : (p.1 == h.1.1 && p.2 == h.1.2) = false := by
    rw [← Bool.not_eq_true]
    simp only [Bool.and_eq_true, beq_iff_eq]
    exact fun e => hk (Prod.ext e.1 e.2)
   rcases ih p (i + 1) with ⟨u, hu, he, j, hf⟩ | ⟨hn, hf⟩
   ·exact Or.inl ⟨u, by simp [hu], he, j, by rw [hb]; simpa using hf⟩
   ·refine Or.inr ⟨fun u hu => ?_, by rw [hb]; simpa using hf⟩
    rcases List.mem_cons.1 hu with rfl | hu
    ·exact fun e => hk e.symm
    ·exact hn u hu
theorem BookOk.look {w : World} {base pb mt mh : Nat} {l : List Rc} {tx : List TxE} {ho : List ((Int × Int) × (Int × Int))} (h : BookOk w base pb mt mh l tx ho) (k : Int) :
  ∃ sv, lookI (tx.map TxE.ent) k (txVal 0 0 (.slice none 0 0)) = txVal (stateR l k) (lastR l k : Nat) sv ∧ w.ownsRow base 81 8 sv (standB l k).length (flat (standB l k)) ∧
   ((∃ t ∈ tx, t.key = k ∧ t.sv = sv) ∨ ((∀ t ∈ tx, t.key ≠ k) ∧ sv = .slice none 0 0)) := by
 unfold lookI
 rcases find_tx tx k 0 with ⟨t, ht, he, j, hf⟩ | ⟨hn, hf⟩
 ·rw [hf]
  obtain ⟨h1, h2, h3, h4⟩ := h.tells t ht
  subst he
  refine ⟨t.sv, by rw [h1, h2], ?_, Or.inl ⟨t, ht, rfl, rfl⟩⟩
  have := h.own t ht
  rw [h3] at this
  exact this
 ·rw [hf]
  have h0 : lastR l k = 0 := by
   by_cases h0 : lastR l k = 0
   ·exact h0
   ·obtain ⟨t, ht, he⟩ := h.all k h0
    exact absurd he (hn t ht)
  have hs := stateR_0 h0
  have hst : standB l k = [] := by
   rw [stand_of_n4 (by rw [hs]; decide)]
   apply List.length_eq_zero_iff.1
   rw [standRecs_length]
   have hw : writesR l k = [] := by
    cases hw : writesR l k with
    | nil => rfl
    | cons n ns =>
     obtain ⟨r, hr, ht, _⟩ := writesR_rec k l n (by rw [hw]; simp)
     exact absurd h0 (by
      have hmem := List.mem_of_getElem? hr
      exact fun h0 => absurd ht (last_none k l h0 r hmem))
   simp [standsR, hw]
  exact ⟨.slice none 0 0, by rw [hs, h0]; rfl, by rw [hst]; exact ⟨rfl, Or.inl ⟨rfl, rfl⟩⟩, Or.inr ⟨hn, rfl⟩⟩
theorem pairwise_mem {α : Type} {R : α → α → Prop} (hs : ∀ a b, R a b → R b a) : ∀ {l : List α}, l.Pairwise R → ∀ a ∈ l, ∀ b ∈ l, a ≠ b → R a b := by
 intro l
 induction l with
 | nil => intro _ a ha; cases ha
 | cons x l ih =>
  intro h a ha b hb hne
  rw [List.pairwise_cons] at h
  rcases List.mem_cons.1 ha with ha' | ha'
  ·rcases List.mem_cons.1 hb with hb' | hb'
   ·exact absurd (ha'.trans hb'.symm) hne
   ·rw [ha']; exact h.1 b hb'
  ·rcases List.mem_cons.1 hb with hb' | hb'
   ·rw [hb']; exact hs _ _ (h.1 a ha')
   ·exact ih h.2 a ha' b hb' hne
theorem BookOk.lookHold {w : World} {base pb mt mh : Nat} {l : List Rc} {tx : List TxE} {ho : List ((Int × Int) × (Int × Int))} (h : BookOk w base pb mt mh l tx ho) (p : Int × Int) :
  ∃ x, lookP (ho.map hoEnt) p (hoVal (0, 0)) = hoVal x ∧ HoldOk l p x ∧ (((p, x) ∈ ho) ∨ ((∀ g ∈ ho, g.1 ≠ p) ∧ x = (0, 0))) := by
 unfold lookP
 rcases find_ho ho p 0 with ⟨g, hg, he, j, hf⟩ | ⟨hn, hf⟩
 ·rw [hf]
  subst he
  obtain ⟨h1, h2⟩ := h.hold g hg
  refine ⟨g.2, rfl, ⟨fun _ => ?_, fun t ht => ⟨h2, ?_⟩⟩, Or.inl hg⟩
  ·rw [h1] at h2; omega
  ·obtain ⟨n, hn⟩ := h.held g.1 t ht
   by_cases e : g = (g.1, (t, n))
   ·rw [e]
   ·exact absurd rfl (pairwise_mem (fun a b hab => Ne.symm hab) h.once g hg (g.1, (t, n)) hn e)
 ·rw [hf]
  refine ⟨(0, 0), rfl, ⟨fun h0 => absurd h0 (by simp), fun t ht => ?_⟩, Or.inr ⟨hn, rfl⟩⟩
  obtain ⟨n, hm⟩ := h.held p t ht
  exact absurd rfl (hn _ hm)
theorem clash1 (ps : List Int) (mt mh pb : Nat) (sz : Int) (r : Rc) (bb br : Nat) (w : World) (hl : ps.length = 12) (P : Blk w pb (bookCells ps mt mh sz) 134) (B : Blk w bb #[.pointer (some ⟨pb, 0, none⟩)] 128) (R : Blk w br r.cs 81)
  (p0 : 0 ≤ r.page) (p2 : r.page ≤ 2) (q0 : 0 ≤ r.cell) (q2 : r.cell ≤ 2) :
  Calls Tryz.prog 216 #[.pointer (some ⟨br, 0, none⟩), .pointer (some ⟨bb, 0, none⟩)] w fun e w' => e = .returned (.bool (r.old != ps.getD (r.page.toNat * 4 + r.cell.toNat) 0)) ∧ Ext w w' := by
 have c1 := B.cell
 have c2 := R.cell
 have p3 : r.page < 3 := by omega
 have q3 : r.cell < 3 := by omega
 have c3 : w.cell? ⟨pb, r.page.toNat * 4 + r.cell.toNat, none⟩ = some (.int .i64 (ps.getD (r.page.toNat * 4 + r.cell.toNat) 0)) := by rw [P.cell, bookCells_page ps mt mh sz hl _ (by omega)]
 go_enter Tryz.func216, Tryz.ntmps216
 go_wp2_with fail
 go_quiet (fail)
 go_wp2_with fail
 go_ret
 exact ⟨rfl, (Ext.refl w).drewN _⟩
theorem clash1_ans (ps : List Int) (mt mh pb : Nat) (sz : Int) (r : Rc) (bb br : Nat) (w : World) (hl : ps.length = 12) (P : Blk w pb (bookCells ps mt mh sz) 134) (B : Blk w bb #[.pointer (some ⟨pb, 0, none⟩)] 128) (R : Blk w br r.cs 81)
  (p0 : 0 ≤ r.page) (p2 : r.page ≤ 2) (q0 : 0 ≤ r.cell) (q2 : r.cell ≤ 2) : Ans 216 #[.pointer (some ⟨br, 0, none⟩), .pointer (some ⟨bb, 0, none⟩)] w (r.old != ps.getD (r.page.toNat * 4 + r.cell.toNat) 0) :=
 ⟨fun w => callFunc_enter _ w Tryz.func216 (by kernel_rfl) (by kernel_rfl), fun w' h => clash1 ps mt mh pb sz r bb br w' hl (P.ext h) (B.ext h) (R.ext h) p0 p2 q0 q2⟩
theorem busy_any {base pb mt mh : Nat} {l : List Rc} {tx : List TxE} {ho : List ((Int × Int) × (Int × Int))} (p : Int × Int) (t : Int) (x : Int × Int) (w : World) (h : BookOk w base pb mt mh l tx ho)
  (hx : lookP (ho.map hoEnt) p (hoVal (0, 0)) = hoVal x) :
  Calls Tryz.prog 130 #[.pointer (some ⟨pb, 0, none⟩), keyP p, .int .i64 t] w fun e w' => e = .returned (.bool (decide (0 < x.2) && x.1 != t)) ∧ Ext w w' := by
 have HX := (show Hid (lookP (ho.map hoEnt) p (hoVal (0, 0)) = hoVal x) from hx)
 clear hx
 have hl12 := pagesR_len l
 go_enter Tryz.func130, Tryz.ntmps130
 go_wp2_with fail
 have C0 := Blk.new w w.heap.size #[.int .i64 p.1, .int .i64 p.2] 124 rfl
 have hE := (Ext.refl w).alloc (.cells #[.int .i64 p.1, .int .i64 p.2] 124)
 generalize w.alloc (.cells #[.int .i64 p.1, .int .i64 p.2] 124) = W at *
 have hB := h.ext hE
 have KL : Hid (∀ w', Ext W w' → (Instr.lookup 132 (.map (some mh)) (keyP p) false).run Tryz.prog w' = .ok (hoVal x) w') := fun w' e => by rw [run_lookP (hB.ext e).hos p, HX.out]
 have KC : Hid (∀ w', Ext W w' → (∀ o, w'.cell? ⟨w.heap.size, o, none⟩ = #[.int .i64 p.1, .int .i64 p.2][o]?) ∧ w'.cell? ⟨pb, 13, none⟩ = some (.map (some mh))) := fun w' e => ⟨(C0.ext e).cell, by rw [(hB.ext e).blk.cell]; exact (bookCells_12 _ mt mh _ hl12).2.1⟩
 go_cut [7] (fun s7 wx => ∃ b7 : Nat, s7 = .pointer (some ⟨b7, 0, none⟩) ∧ Blk wx b7 #[.int .i64 x.1, .int .i64 x.2] 196 ∧ Ext W wx)
 case first =>
  go_region_held3 (fun w' => Ext W w' ∧ ((∀ o, w'.cell? ⟨w.heap.size, o, none⟩ = #[.int .i64 p.1, .int .i64 p.2][o]?) ∧ w'.cell? ⟨pb, 13, none⟩ = some (.map (some mh))) ∧ (Instr.lookup 132 (.map (some mh)) (keyP p) false).run Tryz.prog w' = .ok (hoVal x) w')
   ((refine (fun e => ⟨e, KC.out _ e, KL.out _ e⟩ : Ext W _ → _) ?_; first | exact (Ext.refl W).drew | exact ((Ext.refl W).alloc _).drew | exact hy | exact hy.alloc _ | exact (hy.setCell hbx _).setCell hbx _))
   (first
   | (fail)
   | (fail))
  all_goals (go_wp2_with fail; go_meet; case rel => exact ⟨_, rfl, Blk.new _ _ _ _ rfl, ((Ext.refl W).alloc _).drew⟩)
 case rest =>
  obtain ⟨b7, rfl, C2, hx5⟩ := hcut
  have c2 := C2.cell
  have hE2 := hE.trans hx5
  clear C0 hB hE KL KC HX C2 hx5 h hl12
  by_cases h0 : 0 < x.2
  ·have HD : Hid (decide (0 < x.2) = true) := by unfold Hid; simpa using h0
   go_wp2_with fail
   go_ret
   exact ⟨by rw [HD.out]; rfl, hE2⟩
  ·have HD : Hid (decide (0 < x.2) = false) := by unfold Hid; simpa using h0
   go_wp2_with fail
   go_ret
   exact ⟨by rw [HD.out]; rfl, hE2⟩
theorem clash2 {base pb mt mh : Nat} {l : List Rc} {tx : List TxE} {ho : List ((Int × Int) × (Int × Int))} (x : Int × Int) (r : Rc) (bb br : Nat) (w : World) (h : BookOk w base pb mt mh l tx ho)
  (hx : lookP (ho.map hoEnt) (r.page, r.cell) (hoVal (0, 0)) = hoVal x) (B : Blk w bb #[.pointer (some ⟨pb, 0, none⟩)] 128) (R : Blk w br r.cs 81) :
  Calls Tryz.prog 217 #[.pointer (some ⟨bb, 0, none⟩), .pointer (some ⟨br, 0, none⟩)] w fun e w' => e = .returned (.bool (decide (0 < x.2) && x.1 != r.txn)) ∧ Ext w w' := by
 have c1 := B.cell
 have c2 := R.cell
 have HX := (show Hid (lookP (ho.map hoEnt) (r.page, r.cell) (hoVal (0, 0)) = hoVal x) from hx)
 clear hx
 go_enter Tryz.func217, Tryz.ntmps217
 go_wp2_with fail
 refine wp_region_calm (by kernel_rfl) (by kernel_rfl) (fun F hF => ?_)
 have d1 := hF.cell B
 have d2 := hF.cell R
 have HC1 : Hid (∀ y, Calls Tryz.prog 201 #[r.val] (F y) fun e w' => e = .returned (keyP (r.page, r.cell)) ∧ Ext (F y) w') := fun y => placeOf_any r (F y)
 have HC2 : Hid (∀ y, Calls Tryz.prog 130 #[.pointer (some ⟨pb, 0, none⟩), keyP (r.page, r.cell), .int .i64 r.txn] (F y) fun e w' => e = .returned (.bool (decide (0 < x.2) && x.1 != r.txn)) ∧ Ext (F y) w') := fun y => busy_any (r.page, r.cell) r.txn x (F y) (h.ext (hF.ext y)) HX.out
 repeat (go_big_quiet_step (first | (go_at_call 201; exact hF.call (HC1.out _)) | (go_at_call 130; exact hF.call (HC2.out _))))
 refine wpQuiet_nil ?_
 rintro _ ⟨v, rfl⟩
 go_wp2_with fail
 go_ret
 exact ⟨rfl, hF.ext v⟩
theorem clash2_ans {base pb mt mh : Nat} {l : List Rc} {tx : List TxE} {ho : List ((Int × Int) × (Int × Int))} (x : Int × Int) (r : Rc) (bb br : Nat) (w : World) (h : BookOk w base pb mt mh l tx ho)
  (hx : lookP (ho.map hoEnt) (r.page, r.cell) (hoVal (0, 0)) = hoVal x) (B : Blk w bb #[.pointer (some ⟨pb, 0, none⟩)] 128) (R : Blk w br r.cs 81) : Ans 217 #[.pointer (some ⟨bb, 0, none⟩), .pointer (some ⟨br, 0, none⟩)] w (decide (0 < x.2) && x.1 != r.txn) :=
 ⟨fun w => callFunc_enter _ w Tryz.func217 (by kernel_rfl) (by kernel_rfl), fun w' e => clash2 x r bb br w' (h.ext e) hx (B.ext e) (R.ext e)⟩
theorem clashes_any {base pb mt mh : Nat} {l : List Rc} {tx : List TxE} {ho : List ((Int × Int) × (Int × Int))} (r : Rc) (x : Int × Int) (w : World) (h : BookOk w base pb mt mh l tx ho)
  (hx : lookP (ho.map hoEnt) (r.page, r.cell) (hoVal (0, 0)) = hoVal x) (p0 : 0 ≤ r.page) (p2 : r.page ≤ 2) (q0 : 0 ≤ r.cell) (q2 : r.cell ≤ 2) :
  Calls Tryz.prog 197 #[.pointer (some ⟨pb, 0, none⟩), r.val] w fun e w' => e = .returned (.bool (clashB l r x)) ∧ Ext w w' := by
 have HX := (show Hid (lookP (ho.map hoEnt) (r.page, r.cell) (hoVal (0, 0)) = hoVal x) from hx)
 clear hx
 have hl12 := pagesR_len l
 go_enter Tryz.func197, Tryz.ntmps197
 go_wp2_with fail
 have D0 := ((Blk.new w w.heap.size #[.pointer (some ⟨pb, 0, none⟩)] 128 rfl).alloc (.cells r.cs 81))
 have D1 := (Blk.new (w.alloc (.cells #[.pointer (some ⟨pb, 0, none⟩)] 128)) (w.heap.size + 1) r.cs 81 (by simp))
 have hE := ((Ext.refl w).alloc (.cells #[.pointer (some ⟨pb, 0, none⟩)] 128)).alloc (.cells r.cs 81)
 have hB2 := h.ext hE
 refine (any2 216 217 #[.pointer (some ⟨w.heap.size + 1, 0, none⟩), .pointer (some ⟨w.heap.size, 0, none⟩)] #[.pointer (some ⟨w.heap.size, 0, none⟩), .pointer (some ⟨w.heap.size + 1, 0, none⟩)] _ _ (by simp [go_sem]) (by simp [go_sem])
  (clash1_ans (pagesR l) mt mh pb (l.length : Nat) r _ _ _ hl12 (hB2.blk.alloc _) (D0.alloc _) (D1.alloc _) p0 p2 q0 q2) (fun _ => clash2_ans x r _ _ _ (hB2.ext ((Ext.refl _).alloc _)) HX.out (D0.alloc _) (D1.alloc _))).mono ?_
 rintro e w2 ⟨rfl, hw2⟩
 go_wp2_with fail
 go_ret
 exact ⟨rfl, (hE.alloc _).trans hw2⟩
theorem may1 (s last : Int) (sv : Value) (r : Rc) (br bt : Nat) (w : World) (R : Blk w br r.cs 81) (T : Blk w bt #[.int .i64 s, .int .i64 last, sv] 150) :
  Calls Tryz.prog 193 #[.pointer (some ⟨br, 0, none⟩), .pointer (some ⟨bt, 0, none⟩)] w fun e w' => e = .returned (.bool (r.prev != last)) ∧ Ext w w' := by
 have c1 := R.cell
 have c2 := T.cell
 go_enter Tryz.func193, Tryz.ntmps193
 go_wp2_with fail
 go_ret
 exact ⟨rfl, Ext.refl w⟩
theorem may1_ans (s last : Int) (sv : Value) (r : Rc) (br bt : Nat) (w : World) (R : Blk w br r.cs 81) (T : Blk w bt #[.int .i64 s, .int .i64 last, sv] 150) : Ans 193 #[.pointer (some ⟨br, 0, none⟩), .pointer (some ⟨bt, 0, none⟩)] w (r.prev != last) :=
 ⟨fun w => callFunc_enter _ w Tryz.func193 (by kernel_rfl) (by kernel_rfl), fun w' h => may1 s last sv r br bt w' (R.ext h) (T.ext h)⟩
theorem may2 (s last : Int) (a : Option Addr) (n cap : Nat) (r : Rc) (br bt : Nat) (w : World) (R : Blk w br r.cs 81) (T : Blk w bt #[.int .i64 s, .int .i64 last, .slice a n cap] 150) (hn : n ≤ 1000) (hk : r.kind = 1 ∨ r.kind = 2 ∨ r.kind = 3 ∨ r.kind = 4) :
  Calls Tryz.prog 194 #[.pointer (some ⟨bt, 0, none⟩), .pointer (some ⟨br, 0, none⟩)] w fun e w' => e = .returned (.bool (!allowsB s n r.kind)) ∧ Ext w w' := by
 have c1 := R.cell
 have c2 := T.cell
 have HK := (show Hid _ from hk)
 clear hk
 go_enter Tryz.func194, Tryz.ntmps194
 go_wp2_with fail
 refine (allows_any s last a n cap r.kind _ hn HK.out).mono ?_
 rintro e w1 ⟨rfl, hw1⟩
 go_wp2_with fail
 go_ret
 exact ⟨rfl, hw1⟩
theorem may2_ans (s last : Int) (a : Option Addr) (n cap : Nat) (r : Rc) (br bt : Nat) (w : World) (R : Blk w br r.cs 81) (T : Blk w bt #[.int .i64 s, .int .i64 last, .slice a n cap] 150) (hn : n ≤ 1000) (hk : r.kind = 1 ∨ r.kind = 2 ∨ r.kind = 3 ∨ r.kind = 4) : Ans 194 #[.pointer (some ⟨bt, 0, none⟩), .pointer (some ⟨br, 0, none⟩)] w (!allowsB s n r.kind) :=
 ⟨fun w => callFunc_enter _ w Tryz.func194 (by kernel_rfl) (by kernel_rfl), fun w' h => may2 s last a n cap r br bt w' (R.ext h) (T.ext h) hn hk⟩
theorem may3 {base pb mt mh : Nat} {l : List Rc} {tx : List TxE} {ho : List ((Int × Int) × (Int × Int))} (r : Rc) (x : Int × Int) (br bb : Nat) (w : World) (h : BookOk w base pb mt mh l tx ho)
  (hx : lookP (ho.map hoEnt) (r.page, r.cell) (hoVal (0, 0)) = hoVal x) (R : Blk w br r.cs 81) (B : Blk w bb #[.pointer (some ⟨pb, 0, none⟩)] 128) (hf : turns r = true → 0 ≤ r.page ∧ r.page ≤ 2 ∧ 0 ≤ r.cell ∧ r.cell ≤ 2) :
  Calls Tryz.prog 196 #[.pointer (some ⟨br, 0, none⟩), .pointer (some ⟨bb, 0, none⟩)] w fun e w' => e = .returned (.bool (r.kind == 1 && clashB l r x)) ∧ Ext w w' := by
 have c1 := R.cell
 have c2 := B.cell
 have HX := (show Hid _ from hx)
 clear hx
 cases hk : (r.kind == 1)
 ·clear hf
  go_enter Tryz.func196, Tryz.ntmps196
  go_wp2_with fail
  go_ret
  exact ⟨rfl, Ext.refl w⟩
 ·obtain ⟨p0, p2, q0, q2⟩ := hf (by unfold turns; rw [hk]; rfl)
  clear hf
  go_enter Tryz.func196, Tryz.ntmps196
  go_wp2_with fail
  refine (clashes_any r x _ h HX.out p0 p2 q0 q2).mono ?_
  rintro e w1 ⟨rfl, hw1⟩
  go_wp2_with fail
  go_ret
  exact ⟨rfl, hw1⟩
theorem may3_ans {base pb mt mh : Nat} {l : List Rc} {tx : List TxE} {ho : List ((Int × Int) × (Int × Int))} (r : Rc) (x : Int × Int) (br bb : Nat) (w : World) (h : BookOk w base pb mt mh l tx ho)
  (hx : lookP (ho.map hoEnt) (r.page, r.cell) (hoVal (0, 0)) = hoVal x) (R : Blk w br r.cs 81) (B : Blk w bb #[.pointer (some ⟨pb, 0, none⟩)] 128) (hf : turns r = true → 0 ≤ r.page ∧ r.page ≤ 2 ∧ 0 ≤ r.cell ∧ r.cell ≤ 2) : Ans 196 #[.pointer (some ⟨br, 0, none⟩), .pointer (some ⟨bb, 0, none⟩)] w (r.kind == 1 && clashB l r x) :=
 ⟨fun w => callFunc_enter _ w Tryz.func196 (by kernel_rfl) (by kernel_rfl), fun w' e => may3 r x br bb w' (h.ext e) hx (R.ext e) (B.ext e) hf⟩
theorem may4 (s last : Int) (sv : Value) (st : List Rc) (base : Nat) (r : Rc) (br bt : Nat) (w : World) (R : Blk w br r.cs 81) (T : Blk w bt #[.int .i64 s, .int .i64 last, sv] 150) (ho : w.ownsRow base 81 8 sv st.length (flat st)) (hn : st.length ≤ 1000) :
  Calls Tryz.prog 198 #[.pointer (some ⟨br, 0, none⟩), .pointer (some ⟨bt, 0, none⟩)] w fun e w' => e = .returned (.bool (r.kind == 3 && !eqRc r (backB last st))) ∧ Ext w w' := by
 have c1 := R.cell
 have c2 := T.cell
 obtain ⟨a, m, cap, rfl⟩ : ∃ a m cap, sv = .slice a m cap := by
  rcases ho.2 with ⟨rfl, _⟩ | ⟨g, cap, cur, rfl, _⟩
  ·exact ⟨none, 0, 0, rfl⟩
  ·exact ⟨_, _, _, rfl⟩
 have HO := (show Hid (w.ownsRow base 81 8 (.slice a m cap) st.length (flat st)) from ho)
 clear ho
 have e1 := neq_rec r (backB last st)
 generalize hbk : backB last st = bk at *
 have HB := (show Hid _ from hbk)
 clear hbk
 cases hk : (r.kind == 3)
 ·go_enter Tryz.func198, Tryz.ntmps198
  go_wp2_with fail
  refine wp_region_calm (by kernel_rfl) (by kernel_rfl) (fun F hF => ?_)
  have d1 := hF.cell R
  have d2 := hF.cell T
  repeat (go_big_quiet_step (fail))
  refine wpQuiet_nil ?_
  rintro _ ⟨v, rfl⟩
  go_wp2_with fail
  go_ret
  exact ⟨rfl, hF.ext v⟩
 ·go_enter Tryz.func198, Tryz.ntmps198
  go_wp2_with fail
  refine wp_region_calm (by kernel_rfl) (by kernel_rfl) (fun F hF => ?_)
  have d1 := hF.cell R
  have d2 := hF.cell T
  have HC : Hid (∀ x, Calls Tryz.prog 165 #[txVal s last (.slice a m cap)] (F x) fun e w' => e = .returned (Rc.val bk) ∧ Ext (F x) w') := fun x => by have hh := back_any s last (.slice a m cap) st base (F x) (own_ext HO.out (hF.ext x)) hn; rw [HB.out] at hh; exact hh
  repeat (go_big_quiet_step ((go_at_call 165; exact hF.call (HC.out _))))
  refine wpQuiet_nil ?_
  rintro _ ⟨v, rfl⟩
  go_wp2_with fail
  go_ret
  exact ⟨rfl, hF.ext v⟩
theorem may4_ans (s last : Int) (sv : Value) (st : List Rc) (base : Nat) (r : Rc) (br bt : Nat) (w : World) (R : Blk w br r.cs 81) (T : Blk w bt #[.int .i64 s, .int .i64 last, sv] 150) (ho : w.ownsRow base 81 8 sv st.length (flat st)) (hn : st.length ≤ 1000) : Ans 198 #[.pointer (some ⟨br, 0, none⟩), .pointer (some ⟨bt, 0, none⟩)] w (r.kind == 3 && !eqRc r (backB last st)) :=
 ⟨fun w => callFunc_enter _ w Tryz.func198 (by kernel_rfl) (by kernel_rfl), fun w' e => may4 s last sv st base r br bt w' (R.ext e) (T.ext e) (own_ext ho e) hn⟩
theorem stand_len {l : List Rc} (h : Right l) (k : Int) : (standB l k).length ≤ 1000 := by
 have h1 := right_len l h
 by_cases h4 : stateR l k = 4
 ·rw [stand_of_4 h4]; simp
 ·rw [stand_of_n4 h4, standRecs_length]
  have := standsR_le l k
  omega
theorem own_slice {w : World} {base : Nat} {e : TypeId} {size n : Nat} {v : Value} {xs : List Value} (h : w.ownsRow base e size v n xs) : ∃ a m cap, v = .slice a m cap := by
 rcases h.2 with ⟨rfl, _⟩ | ⟨g, cap, cur, rfl, _⟩
 ·exact ⟨none, 0, 0, rfl⟩
 ·exact ⟨_, _, _, rfl⟩
theorem own_len {w : World} {base : Nat} {e : TypeId} {size n m cap : Nat} {a : Option Addr} {xs : List Value} (h : w.ownsRow base e size (.slice a m cap) n xs) : m = n := by
 rcases h.2 with ⟨e, h⟩ | ⟨g, cap, cur, e, _⟩ <;> injection e <;> omega
theorem mayNot_any {base pb mt mh : Nat} {l : List Rc} {tx : List TxE} {ho : List ((Int × Int) × (Int × Int))} (r : Rc) (w : World) (h : BookOk w base pb mt mh l tx ho)
  (hk : r.kind = 1 ∨ r.kind = 2 ∨ r.kind = 3 ∨ r.kind = 4) (hf : turns r = true → 0 ≤ r.page ∧ r.page ≤ 2 ∧ 0 ≤ r.cell ∧ r.cell ≤ 2) (x : Int × Int) (hx : lookP (ho.map hoEnt) (r.page, r.cell) (hoVal (0, 0)) = hoVal x) :
  Calls Tryz.prog 174 #[.pointer (some ⟨pb, 0, none⟩), r.val] w fun e w' => e = .returned (.bool (mayNotB l r x)) ∧ Ext w w' := by
 have HX := (show Hid (lookP (ho.map hoEnt) (r.page, r.cell) (hoVal (0, 0)) = hoVal x) from hx)
 have HK := (show Hid (r.kind = 1 ∨ r.kind = 2 ∨ r.kind = 3 ∨ r.kind = 4) from hk)
 have HF := (show Hid (turns r = true → 0 ≤ r.page ∧ r.page ≤ 2 ∧ 0 ≤ r.cell ∧ r.cell ≤ 2) from hf)
 clear hx hk hf
 go_enter Tryz.func174, Tryz.ntmps174
 go_wp2_with fail
 have C0 := (Blk.new w w.heap.size #[.pointer (some ⟨pb, 0, none⟩)] 128 rfl).alloc (.cells r.cs 81)
 have C1 := Blk.new (w.alloc (.cells #[.pointer (some ⟨pb, 0, none⟩)] 128)) (w.heap.size + 1) r.cs 81 (by simp)
 have hE := ((Ext.refl w).alloc (.cells #[.pointer (some ⟨pb, 0, none⟩)] 128)).alloc (.cells r.cs 81)
 generalize (w.alloc (.cells #[.pointer (some ⟨pb, 0, none⟩)] 128)).alloc (.cells r.cs 81) = W at *
 have hB := h.ext hE
 have hl12 := pagesR_len l
 obtain ⟨sv, hlk, hown, hwho⟩ := hB.look r.txn
 have hst := stand_len h.right r.txn
 obtain ⟨a, m, cap, rfl⟩ : ∃ a m cap, sv = .slice a m cap := own_slice hown
 have HO := (show Hid (W.ownsRow base 81 8 (.slice a m cap) (standB l r.txn).length (flat (standB l r.txn))) from hown)
 clear hown
 have KL : Hid (∀ w', Ext W w' → (Instr.lookup 131 (.map (some mt)) (.int .i64 r.txn) false).run Tryz.prog w' = .ok (txVal (stateR l r.txn) (lastR l r.txn : Nat) (.slice a m cap)) w') := fun w' e => by rw [run_lookI (hB.ext e).txs r.txn]; exact congrArg (fun v => Result.ok v w') hlk
 have KC : Hid (∀ w', Ext W w' → (∀ o, w'.cell? ⟨w.heap.size, o, none⟩ = #[.pointer (some ⟨pb, 0, none⟩)][o]?) ∧ (∀ o, w'.cell? ⟨w.heap.size + 1, o, none⟩ = r.cs[o]?) ∧ w'.cell? ⟨pb, 12, none⟩ = some (.map (some mt))) := fun w' e => ⟨(C0.ext e).cell, (C1.ext e).cell, by rw [(hB.ext e).blk.cell]; exact (bookCells_12 _ mt mh _ hl12).1⟩
 clear hlk hwho
 go_cut [5] (fun s5 wx => ∃ b5 : Nat, s5 = .pointer (some ⟨b5, 0, none⟩) ∧ Blk wx b5 #[.int .i64 (stateR l r.txn), .int .i64 (lastR l r.txn : Nat), .slice a m cap] 150 ∧ Ext W wx)
 case first =>
  go_region_held3 (fun w' => Ext W w' ∧ ((∀ o, w'.cell? ⟨w.heap.size, o, none⟩ = #[.pointer (some ⟨pb, 0, none⟩)][o]?) ∧ (∀ o, w'.cell? ⟨w.heap.size + 1, o, none⟩ = r.cs[o]?) ∧ w'.cell? ⟨pb, 12, none⟩ = some (.map (some mt))) ∧ (Instr.lookup 131 (.map (some mt)) (.int .i64 r.txn) false).run Tryz.prog w' = .ok (txVal (stateR l r.txn) (lastR l r.txn : Nat) (.slice a m cap)) w')
   ((refine (fun e => ⟨e, KC.out _ e, KL.out _ e⟩ : Ext W _ → _) ?_; first | exact (Ext.refl W).drew | exact ((Ext.refl W).alloc _).drew | exact hy | exact hy.alloc _ | exact (hy.setCell hbx _).setCell hbx _))
   (first
   | (fail)
   | (fail))
  all_goals (go_wp2_with fail; go_meet; case rel => exact ⟨_, rfl, Blk.new _ _ _ _ rfl, ((Ext.refl W).alloc _).drew⟩)
 case rest =>
  obtain ⟨b5, rfl, C2, hx5⟩ := hcut
  have D0 := C0.ext hx5
  have D1 := C1.ext hx5
  have hB2 := hB.ext hx5
  have hE2 := hE.trans hx5
  have hO2 := own_ext HO.out hx5
  have hfit : m = (standB l r.txn).length := own_len hO2
  clear C0 C1 hB hE KL KC HO
  go_wp2_with fail
  refine (any4 193 194 196 198 #[.pointer (some ⟨w.heap.size + 1, 0, none⟩), .pointer (some ⟨b5, 0, none⟩)] #[.pointer (some ⟨b5, 0, none⟩), .pointer (some ⟨w.heap.size + 1, 0, none⟩)] #[.pointer (some ⟨w.heap.size + 1, 0, none⟩), .pointer (some ⟨w.heap.size, 0, none⟩)] #[.pointer (some ⟨w.heap.size + 1, 0, none⟩), .pointer (some ⟨b5, 0, none⟩)]
   (r.prev != (lastR l r.txn : Nat)) (!allowsB (stateR l r.txn) (standB l r.txn).length r.kind) (r.kind == 1 && clashB l r x) (r.kind == 3 && !eqRc r (backB (lastR l r.txn : Nat) (standB l r.txn)))
   (by simp [go_sem]) (by simp [go_sem]) (by simp [go_sem]) (by simp [go_sem])
   (may1_ans (stateR l r.txn) (lastR l r.txn : Nat) _ r _ _ _ (D1.alloc _) (C2.alloc _))
   (fun _ => by rw [← hfit]; exact may2_ans (stateR l r.txn) (lastR l r.txn : Nat) a m cap r _ _ _ (D1.alloc _) (C2.alloc _) (by omega) HK.out)
   (fun _ _ => may3_ans r x _ _ _ (hB2.ext ((Ext.refl _).alloc _)) HX.out (D1.alloc _) (D0.alloc _) HF.out)
   (fun _ _ _ => may4_ans (stateR l r.txn) (lastR l r.txn : Nat) (.slice a m cap) (standB l r.txn) base r _ _ _ (D1.alloc _) (C2.alloc _) (own_ext hO2 ((Ext.refl _).alloc _)) hst)).mono ?_
  rintro e w2 ⟨rfl, hw2⟩
  go_wp2_with fail
  go_ret
  exact ⟨rfl, (hE2.alloc _).trans hw2⟩
end Go.Proofs.YtibfgbmhmdggmaaGreatDoor.B
namespace Go.Proofs.YtibfgbmhmdggmaaGreatDoor.B
set_option maxHeartbeats 32000000
set_option maxRecDepth 100000
abbrev HE : Type := (Int × Int) × (Int × Int)
def lookH : List HE → Int × Int → Int × Int
 | [], _ => (0, 0)
 | h :: ho, p => if p = h.1 then h.2 else lookH ho p
def putH : List HE → Int × Int → Int × Int → List HE
 | [], p, x => [(p, x)]
 | h :: ho, p, x => if p = h.1 then (p, x) :: ho else h :: putH ho p x
def dropH : List HE → Int × Int → List HE
 | [], _ => []
 | h :: ho, p => if p = h.1 then ho else h :: dropH ho p
def letGoH (ho : List HE) (p : Int × Int) : List HE := if 0 < (lookH ho p).2 - 1 then putH ho p ((lookH ho p).1, (lookH ho p).2 - 1) else dropH ho p
def writeH (ho : List HE) (p : Int × Int) (t : Int) : List HE := putH ho p (t, (lookH ho p).2 + 1)
theorem eqP (p q : Int × Int) : (p.1 == q.1 && p.2 == q.2) = decide (p = q) := by
 obtain ⟨a, b⟩ := p
 obtain ⟨c, d⟩ := q
 by_cases h : a = c <;> by_cases k : b = d <;> simp [h, k]
theorem lookH_eq (ho : List HE) (p : Int × Int) : lookP (ho.map hoEnt) p (hoVal (0, 0)) = hoVal (lookH ho p) := by
 have : ∀ i, (match findI (fun q => p.1 == q.1 && p.2 == q.2) (ho.map hoEnt) i with | some (_, v) => v | none => hoVal (0, 0)) = hoVal (lookH ho p) := by
  induction ho with
  | nil => intro i; rfl
  | cons h ho ih =>
   intro i
   simp only [List.map_cons, findI, lookH, eqP]
   by_cases e : p = h.1
   ·simp [e]
   ·simp only [e, decide_false, Bool.false_eq_true, if_false]
    have := ih (i + 1)
    simp only [eqP] at this
    exact this
 exact this 0
theorem putH_eq (ho : List HE) (p x : Int × Int) : putI (fun q : Int × Int => p.1 == q.1 && p.2 == q.2) p (hoVal x) (ho.map hoEnt) = (putH ho p x).map hoEnt := by
 induction ho with
 | nil => rfl
 | cons h ho ih =>
  simp only [List.map_cons, putI, putH]
  rw [eqP]
  by_cases e : p = h.1
  ·simp [e]
  ·simp only [e, decide_false, Bool.false_eq_true, if_false, List.map_cons]
   rw [ih]
theorem dropH_eq (ho : List HE) (p : Int × Int) : dropI (fun q : Int × Int => p.1 == q.1 && p.2 == q.2) (ho.map hoEnt) = (dropH ho p).map hoEnt := by
 induction ho with
 | nil => rfl
 | cons h ho ih =>
  simp only [List.map_cons, dropI, dropH]
  rw [eqP]
  by_cases e : p = h.1
  ·simp [e]
  ·simp only [e, decide_false, Bool.false_eq_true, if_false, List.map_cons]
   rw [ih]
theorem look_mem (ho : List HE) (p : Int × Int) : (p, lookH ho p) ∈ ho ∨ ((∀ g ∈ ho, g.1 ≠ p) ∧ lookH ho p = (0, 0)) := by
 induction ho with
 | nil => exact Or.inr ⟨(fun g hg => by cases hg), rfl⟩
 | cons h ho ih =>
  by_cases e : p = h.1
  ·left; subst e; simp [lookH]
  ·have hl : lookH (h :: ho) p = lookH ho p := by simp [lookH, e]
   rw [hl]
   rcases ih with ih | ⟨ih, h0⟩
   ·exact Or.inl (List.mem_cons_of_mem _ ih)
   ·refine Or.inr ⟨fun g hg => ?_, h0⟩
    rcases List.mem_cons.1 hg with rfl | hg
    ·exact fun k => e k.symm
    ·exact ih g hg
abbrev Once (ho : List HE) : Prop := ho.Pairwise fun g h => g.1 ≠ h.1
theorem mem_putH {ho : List HE} (ho1 : Once ho) (p x : Int × Int) (q : HE) : q ∈ putH ho p x ↔ q = (p, x) ∨ (q ∈ ho ∧ q.1 ≠ p) := by
 induction ho with
 | nil => simp [putH]
 | cons h ho ih =>
  have hp := List.pairwise_cons.1 ho1
  simp only [putH]
  by_cases e : p = h.1
  ·rw [if_pos e]
   constructor
   ·intro hq
    rcases List.mem_cons.1 hq with hq | hq
    ·exact Or.inl hq
    ·exact Or.inr ⟨List.mem_cons_of_mem _ hq, fun k => hp.1 q hq (by rw [k, e])⟩
   ·rintro (hq | ⟨hq, hn⟩)
    ·rw [hq]; exact List.mem_cons_self
    ·rcases List.mem_cons.1 hq with hq | hq
     ·exact absurd (by rw [hq, e]) hn
     ·exact List.mem_cons_of_mem _ hq
  ·rw [if_neg e, List.mem_cons, ih hp.2]
   constructor
   ·rintro (hq | hq | hq)
    ·exact Or.inr ⟨by rw [hq]; exact List.mem_cons_self, by rw [hq]; exact fun k => e k.symm⟩
    ·exact Or.inl hq
    ·exact Or.inr ⟨List.mem_cons_of_mem _ hq.1, hq.2⟩
   ·rintro (hq | ⟨hq, hn⟩)
    ·exact Or.inr (Or.inl hq)
    ·rcases List.mem_cons.1 hq with hq | hq
     ·exact Or.inl hq
     ·exact Or.inr (Or.inr ⟨hq, hn⟩)
theorem mem_dropH {ho : List HE} (ho1 : Once ho) (p : Int × Int) (q : HE) : q ∈ dropH ho p ↔ q ∈ ho ∧ q.1 ≠ p := by
 induction ho with
 | nil => simp [dropH]
 | cons h ho ih =>
  have hp := List.pairwise_cons.1 ho1
  simp only [dropH]
  by_cases e : p = h.1
  ·rw [if_pos e]
   constructor
   ·intro hq
    exact ⟨List.mem_cons_of_mem _ hq, fun k => hp.1 q hq (by rw [k, e])⟩
   ·rintro ⟨hq, hn⟩
    rcases List.mem_cons.1 hq with hq | hq
    ·exact absurd (by rw [hq, e]) hn
    ·exact hq
  ·rw [if_neg e, List.mem_cons, ih hp.2]
   constructor
   ·rintro (hq | hq)
    ·exact ⟨by rw [hq]; exact List.mem_cons_self, by rw [hq]; exact fun k => e k.symm⟩
    ·exact ⟨List.mem_cons_of_mem _ hq.1, hq.2⟩
   ·rintro ⟨hq, hn⟩
    rcases List.mem_cons.1 hq with hq | hq
    ·exact Or.inl hq
    ·exact Or.inr ⟨hq, hn⟩
theorem once_putH {ho : List HE} (ho1 : Once ho) (p x : Int × Int) : Once (putH ho p x) := by
 induction ho with
 | nil => simp [putH]
 | cons h ho ih =>
  have hp := List.pairwise_cons.1 ho1
  simp only [putH]
  by_cases e : p = h.1
  ·rw [if_pos e]
   exact List.pairwise_cons.2 ⟨fun g hg => by rw [e]; exact hp.1 g hg, hp.2⟩
  ·rw [if_neg e]
   refine List.pairwise_cons.2 ⟨fun g hg => ?_, ih hp.2⟩
   rcases (mem_putH hp.2 p x g).1 hg with hg | hg
   ·rw [hg]; exact fun k => e k.symm
   ·exact hp.1 g hg.1
theorem once_dropH {ho : List HE} (ho1 : Once ho) (p : Int × Int) : Once (dropH ho p) := by
 induction ho with
 | nil => simp [dropH]
 | cons h ho ih =>
  have hp := List.pairwise_cons.1 ho1
  simp only [dropH]
  by_cases e : p = h.1
  ·rw [if_pos e]; exact hp.2
  ·rw [if_neg e]
   exact List.pairwise_cons.2 ⟨fun g hg => hp.1 g ((mem_dropH hp.2 p g).1 hg).1, ih hp.2⟩
structure Holds (ho : List HE) (c : Int × Int → Int → Nat) : Prop where
 is : ∀ h ∈ ho, h.2.2 = (c h.1 h.2.1 : Nat) ∧ 0 < h.2.2
 all : ∀ p t, 0 < c p t → ∃ n, (p, (t, n)) ∈ ho
 once : Once ho
theorem once_eq {ho : List HE} (h : Once ho) {p x y : Int × Int} (hx : (p, x) ∈ ho) (hy : (p, y) ∈ ho) : x = y := by
 by_cases e : ((p, x) : HE) = (p, y)
 ·exact congrArg Prod.snd e
 ·exact absurd rfl (pairwise_mem (fun a b hab => Ne.symm hab) h (p, x) hx (p, y) hy e)
theorem Holds.look {ho : List HE} {c : Int × Int → Int → Nat} (h : Holds ho c) {p : Int × Int} {t : Int} (hc : 0 < c p t) : lookH ho p = (t, ((c p t : Nat) : Int)) ∧ (p, (t, ((c p t : Nat) : Int))) ∈ ho := by
 obtain ⟨n, hn⟩ := h.all p t hc
 have hi := (h.is _ hn).1
 dsimp only at hi
 rw [hi] at hn
 rcases look_mem ho p with hm | ⟨hm, _⟩
 ·exact ⟨once_eq h.once hm hn, hn⟩
 ·exact absurd rfl (hm _ hn)
theorem Holds.look0 {ho : List HE} {c : Int × Int → Int → Nat} (h : Holds ho c) {p : Int × Int} (hc : ∀ t, c p t = 0) : lookH ho p = (0, 0) ∧ ∀ g ∈ ho, g.1 ≠ p := by
 rcases look_mem ho p with hm | ⟨hm, h0⟩
 ·have := h.is _ hm
  dsimp only at this
  rw [hc] at this
  omega
 ·exact ⟨h0, hm⟩
theorem Holds.only {ho : List HE} {c : Int × Int → Int → Nat} (h : Holds ho c) {p : Int × Int} {t u : Int} (ht : 0 < c p t) (hu : 0 < c p u) : t = u := by
 have a := (h.look ht).1
 rw [(h.look hu).1] at a
 exact (congrArg Prod.fst a).symm
theorem Holds.write {ho : List HE} {c c' : Int × Int → Int → Nat} (h : Holds ho c) {p : Int × Int} {t : Int} (hu : ∀ u, u ≠ t → c p u = 0) (h1 : c' p t = c p t + 1) (h2 : ∀ q u, ¬ (q = p ∧ u = t) → c' q u = c q u) : Holds (writeH ho p t) c' := by
 have hl : (lookH ho p).2 = (c p t : Nat) := by
  by_cases hc : 0 < c p t
  ·rw [(h.look hc).1]
  ·rw [(h.look0 (fun u => by
    by_cases e : u = t
    ·rw [e]; omega
    ·exact hu u e)).1]; simp; omega
 refine ⟨fun g hg => ?_, fun q u hq => ?_, once_putH h.once _ _⟩
 ·rcases (mem_putH h.once _ _ g).1 hg with rfl | ⟨hg, hn⟩
  ·dsimp only; rw [h1, hl]; omega
  ·rw [h2 _ _ (fun k => hn k.1)]; exact h.is g hg
 ·by_cases e : q = p ∧ u = t
  ·obtain ⟨rfl, rfl⟩ := e
   exact ⟨_, (mem_putH h.once _ _ _).2 (Or.inl rfl)⟩
  ·rw [h2 q u e] at hq
   obtain ⟨n, hn⟩ := h.all q u hq
   refine ⟨n, (mem_putH h.once _ _ _).2 (Or.inr ⟨hn, fun k => ?_⟩)⟩
   dsimp only at k
   have : u ≠ t := fun k2 => e ⟨k, k2⟩
   rw [k, hu u this] at hq
   omega
theorem Holds.letGo {ho : List HE} {c c' : Int × Int → Int → Nat} (h : Holds ho c) {p : Int × Int} {t : Int} (hc : 0 < c p t) (h1 : c' p t = c p t - 1) (h2 : ∀ q u, ¬ (q = p ∧ u = t) → c' q u = c q u) : Holds (letGoH ho p) c' := by
 have hl := (h.look hc).1
 have hothers : ∀ u, u ≠ t → c p u = 0 := fun u hu => by
  by_cases e : 0 < c p u
  ·exact absurd (h.only e hc) hu
  ·omega
 unfold letGoH
 rw [hl]
 dsimp only
 split
 ·rename_i h0
  refine ⟨fun g hg => ?_, fun q u hq => ?_, once_putH h.once _ _⟩
  ·rcases (mem_putH h.once _ _ g).1 hg with rfl | ⟨hg, hn⟩
   ·dsimp only; rw [h1]; omega
   ·rw [h2 _ _ (fun k => hn k.1)]; exact h.is g hg
  ·by_cases e : q = p ∧ u = t
   ·obtain ⟨rfl, rfl⟩ := e
    exact ⟨_, (mem_putH h.once _ _ _).2 (Or.inl rfl)⟩
   ·rw [h2 q u e] at hq
    obtain ⟨n, hn⟩ := h.all q u hq
    refine ⟨n, (mem_putH h.once _ _ _).2 (Or.inr ⟨hn, fun k => ?_⟩)⟩
    dsimp only at k
    have : u ≠ t := fun k2 => e ⟨k, k2⟩
    rw [k, hothers u this] at hq
    omega
 ·rename_i h0
  refine ⟨fun g hg => ?_, fun q u hq => ?_, once_dropH h.once _⟩
  ·obtain ⟨hg, hn⟩ := (mem_dropH h.once _ g).1 hg
   rw [h2 _ _ (fun k => hn k.1)]; exact h.is g hg
  ·by_cases e : q = p ∧ u = t
   ·obtain ⟨rfl, rfl⟩ := e
    rw [h1] at hq; omega
   ·rw [h2 q u e] at hq
    obtain ⟨n, hn⟩ := h.all q u hq
    refine ⟨n, (mem_dropH h.once _ _).2 ⟨hn, fun k => ?_⟩⟩
    dsimp only at k
    have : u ≠ t := fun k2 => e ⟨k, k2⟩
    rw [k, hothers u this] at hq
    omega
end Go.Proofs.YtibfgbmhmdggmaaGreatDoor.B
