/- What == says of the arrays and structs of this program: just what it says of their numbers. What an index into an array that is a value gives. What a look-up, an update and a delete do in a map keyed by a number, and in one keyed by a place. -/
import Derived.Test.YtibfgbmhmdggmaaGreatDoorBaseA
import Derived.ChangeKeysEq
namespace Go.Proofs.YtibfgbmhmdggmaaGreatDoor.B
set_option maxHeartbeats 32000000
set_option maxRecDepth 100000
open Go.ChangeShapes Go.WideShapes Go.ChangeAt Go.RowKit
theorem cellsInt : Tryz.prog.cellsOf 3 = 1 := by kernel_rfl
theorem eq_arr3 (d : Nat) (w : World) (a0 a1 a2 b0 b1 b2 : Int) :
  (Op.equalIn (d + 2) 32 (.agg #[.int .i64 a0, .int .i64 a1, .int .i64 a2]) (.agg #[.int .i64 b0, .int .i64 b1, .int .i64 b2])).run Tryz.prog w = .ok (a0 == b0 && (a1 == b1 && a2 == b2)) w := by
 rw [run_equalIn_array (P := Tryz.prog) w (d + 1) _ _ Tryz.underlying32 (i := (Tryz.prog.info? 3).getD default) (by kernel_rfl)]
 simp [Op.eqItems, List.range_succ, go_sem, cellsInt, part, Tryz.underlying3]
 by_cases h0 : a0 = b0
 ·by_cases h1 : a1 = b1
  ·by_cases h2 : a2 = b2 <;> simp [h0, h1, h2]
  ·simp [h0, h1]
 ·simp [h0]
def eqPg (p q : Pg) : Bool := (p.c0 == q.c0 && (p.c1 == q.c1 && p.c2 == q.c2)) && p.last == q.last
theorem eqPg_refl (p : Pg) : eqPg p p = true := by simp [eqPg]
theorem eqPg_iff (p q : Pg) : eqPg p q = true ↔ p = q := by
 obtain ⟨a, b, c, d⟩ := p
 obtain ⟨a', b', c', d'⟩ := q
 simp [eqPg, and_assoc]
theorem eq_page (d : Nat) (w : World) (p q : Pg) : (Op.equalIn (d + 3) 34 p.val q.val).run Tryz.prog w = .ok (eqPg p q) w := by
 rw [run_equalIn_struct (P := Tryz.prog) w (d + 2) _ _ _ (by kernel_rfl) (by kernel_rfl)]
 simp [go_sem, part, Op.eqFields, Program.fieldsOf, Tryz.underlying34, eq_arr3]
 unfold eqPg
 by_cases h0 : p.c0 = q.c0
 ·by_cases h1 : p.c1 = q.c1
  ·by_cases h2 : p.c2 = q.c2
   ·by_cases h3 : p.last = q.last <;> simp [h0, h1, h2, h3]
   ·simp [h0, h1, h2]
  ·simp [h0, h1]
 ·simp [h0]
def eqRc (r s : Rc) : Bool := r.kind == s.kind && (r.txn == s.txn && (r.prev == s.prev && (r.page == s.page && (r.cell == s.cell && (r.old == s.old && (r.new == s.new && r.next == s.next))))))
theorem eq_rec (d : Nat) (w : World) (r s : Rc) : (Op.equalIn (d + 2) 81 r.val s.val).run Tryz.prog w = .ok (eqRc r s) w := by
 rw [run_equalIn_struct (P := Tryz.prog) w (d + 1) _ _ _ (by kernel_rfl) (by kernel_rfl)]
 simp [go_sem, part, Op.eqFields, Program.fieldsOf, Tryz.underlying81]
 unfold eqRc
 by_cases h0 : r.kind = s.kind
 ·rw [if_pos h0, beq_iff_eq.2 h0, Bool.true_and]
  by_cases h1 : r.txn = s.txn
  ·rw [if_pos h1, beq_iff_eq.2 h1, Bool.true_and]
   by_cases h2 : r.prev = s.prev
   ·rw [if_pos h2, beq_iff_eq.2 h2, Bool.true_and]
    by_cases h3 : r.page = s.page
    ·rw [if_pos h3, beq_iff_eq.2 h3, Bool.true_and]
     by_cases h4 : r.cell = s.cell
     ·rw [if_pos h4, beq_iff_eq.2 h4, Bool.true_and]
      by_cases h5 : r.old = s.old
      ·rw [if_pos h5, beq_iff_eq.2 h5, Bool.true_and]
       by_cases h6 : r.new = s.new
       ·rw [if_pos h6, beq_iff_eq.2 h6, Bool.true_and]
        by_cases h7 : r.next = s.next
        ·rw [if_pos h7, beq_iff_eq.2 h7]
        ·rw [if_neg h7, beq_eq_false_iff_ne.2 h7]
       ·rw [if_neg h6, beq_eq_false_iff_ne.2 h6, Bool.false_and]
      ·rw [if_neg h5, beq_eq_false_iff_ne.2 h5, Bool.false_and]
     ·rw [if_neg h4, beq_eq_false_iff_ne.2 h4, Bool.false_and]
    ·rw [if_neg h3, beq_eq_false_iff_ne.2 h3, Bool.false_and]
   ·rw [if_neg h2, beq_eq_false_iff_ne.2 h2, Bool.false_and]
  ·rw [if_neg h1, beq_eq_false_iff_ne.2 h1, Bool.false_and]
 ·rw [if_neg h0, beq_eq_false_iff_ne.2 h0, Bool.false_and]
abbrev val3 (p q r : Pg) : Value := .agg #[.int .i64 p.c0, .int .i64 p.c1, .int .i64 p.c2, .int .i64 p.last, .int .i64 q.c0, .int .i64 q.c1, .int .i64 q.c2, .int .i64 q.last, .int .i64 r.c0, .int .i64 r.c1, .int .i64 r.c2, .int .i64 r.last]
theorem neq_rec (p q : Rc) : ∀ w, (binOp .neq 81 p.val q.val).run Tryz.prog w = .ok (.bool (!eqRc p q)) w := by
 intro w; rw [run_neq_struct]; rw [show (10000 : Nat) = 9998 + 2 from rfl, eq_rec 9998 w p q]; rfl
theorem index_pages (cs : Array Value) (p : Int) (h0 : 0 ≤ p) (h3 : p < 3) : ∀ w, (Instr.index 35 (.agg cs) (.int .i64 p)).run Tryz.prog w = .ok (.agg (cs.extract (p.toNat * 4) (p.toNat * 4 + 4))) w := by
 intro w
 simp [Instr.index, go_sem, part, h0, h3]
theorem index_cells (cs : Array Value) (c : Int) (v : Value) (h0 : 0 ≤ c) (h3 : c < 3) (hv : cs[c.toNat]? = some v) : ∀ w, (Instr.index 32 (.agg cs) (.int .i64 c)).run Tryz.prog w = .ok v w := by
 intro w
 simp [Instr.index, go_sem, part, h0, h3, hv]
theorem field_cells (a b c d : Value) : ∀ w, (Instr.field 34 (.agg #[a, b, c, d]) 0).run Tryz.prog w = .ok (.agg #[a, b, c]) w := by
 intro w
 simp [Instr.field, go_sem, part, asAgg]
def findI {K : Type} (eq : K → Bool) : List (K × Value) → Nat → Option (Nat × Value)
 | [], _ => none
 | p :: al, i => if eq p.1 then some (i, p.2) else findI eq al (i + 1)
abbrev keyI (k : Int) : Value := .int .i64 k
abbrev keyP (k : Int × Int) : Value := .agg #[.int .i64 k.1, .int .i64 k.2]
def Ents {K : Type} (f : K → Value) (es : Array MapEntry) (al : List (K × Value)) : Prop := es.toList.map (fun e => (e.key, e.val)) = al.map (fun p => (f p.1, p.2))
def MapAt {K : Type} (f : K → Value) (w : World) (r : Nat) (al : List (K × Value)) : Prop := ∃ es clock, w.heap[r]? = some (.map es clock) ∧ Ents f es al
theorem MapAt.lt {K : Type} {f : K → Value} {w : World} {r : Nat} {al : List (K × Value)} (h : MapAt f w r al) : r < w.heap.size := by
 obtain ⟨es, c, h, _⟩ := h
 by_cases hb : r < w.heap.size
 ·exact hb
 ·have : w.heap[r]? = none := by simp; omega
  rw [this] at h; cases h
theorem MapAt.ext {K : Type} {f : K → Value} {w w' : World} {r : Nat} {al : List (K × Value)} (h : MapAt f w r al) (e : Ext w w') : MapAt f w' r al := by
 have hl := h.lt
 obtain ⟨es, c, h, he⟩ := h
 exact ⟨es, c, by rw [e.block r hl]; exact h, he⟩
theorem bool_or (b : Bool) : b = true ∨ b = false := by cases b <;> simp
theorem findNow_int (k : Int) : ∀ (es : List MapEntry) (al : List (Int × Value)) (i : Nat), es.map (fun e => (e.key, e.val)) = al.map (fun p => (keyI p.1, p.2)) →
  Instr.findNow (.int .i64) (.int .i64 k) es i = some (findI (fun q => k == q) al i) := by
 intro es
 induction es with
 | nil => intro al i h; cases al with
  | nil => rfl
  | cons p al => simp at h
 | cons e es ih =>
  intro al i h
  cases al with
  | nil => simp at h
  | cons p al =>
   simp only [List.map_cons, List.cons.injEq, Prod.mk.injEq] at h
   obtain ⟨⟨hk, hv⟩, ht⟩ := h
   simp only [Instr.findNow, hk, keyI, Instr.sameNow, if_true, findI]
   rcases bool_or (k == p.1) with hb | hb
   ·simp only [hb, if_true, hv]
   ·simp only [hb, Bool.false_eq_true, if_false]; exact ih al (i + 1) ht
theorem findAsking_place (k : Int × Int) (w : World) : ∀ (es : List MapEntry) (al : List ((Int × Int) × Value)) (i : Nat), es.map (fun e => (e.key, e.val)) = al.map (fun p => (keyP p.1, p.2)) →
  (Instr.findAsking 124 (keyP k) es i).run Tryz.prog w = .ok (findI (fun q => k.1 == q.1 && k.2 == q.2) al i) w := by
 have heq : ∀ q : Int × Int, (Op.equal 124 (keyP k) (keyP q)).run Tryz.prog w = .ok (k.1 == q.1 && k.2 == q.2) w := by
  intro q
  unfold Op.equal Op.maxDepth
  rw [show (10000 : Nat) = 9999 + 1 from rfl, run_equalIn_struct (P := Tryz.prog) w 9999 _ _ _ (by kernel_rfl) (by kernel_rfl)]
  simp [go_sem, part, Op.eqFields, Program.fieldsOf, Tryz.underlying124]
  by_cases h0 : k.1 = q.1
  ·by_cases h1 : k.2 = q.2 <;> simp [h0, h1]
  ·simp [h0]
 intro es
 induction es with
 | nil => intro al i h; cases al with
  | nil => simp [Instr.findAsking, findI, go_sem]
  | cons p al => simp at h
 | cons e es ih =>
  intro al i h
  cases al with
  | nil => simp at h
  | cons p al =>
   simp only [List.map_cons, List.cons.injEq, Prod.mk.injEq] at h
   obtain ⟨⟨hk, hv⟩, ht⟩ := h
   simp only [Instr.findAsking, Sem.run_bind, hk, heq, Result.andThen_ok, findI]
   rcases bool_or (k.1 == p.1.1 && k.2 == p.1.2) with hb | hb
   ·simp only [hb, if_true, hv, Sem.run_pure]
   ·simp only [hb, Bool.false_eq_true, if_false]; exact ih al (i + 1) ht
theorem findNow_place (k : Int × Int) (fs : Array Field) (es : List MapEntry) (al : List ((Int × Int) × Value)) (i : Nat) (h : es.map (fun e => (e.key, e.val)) = al.map (fun p => (keyP p.1, p.2))) :
  Instr.findNow (.struct fs) (keyP k) es i = some (findI (fun q => k.1 == q.1 && k.2 == q.2) al i) ∨ Instr.findNow (.struct fs) (keyP k) es i = none := by
 cases es with
 | nil => cases al with
  | nil => exact Or.inl rfl
  | cons p al => simp at h
 | cons e es => exact Or.inr rfl
theorem findKey_int (k : Int) (w : World) (es : Array MapEntry) (al : List (Int × Value)) (h : Ents keyI es al) :
  (Instr.findKey 3 (.int .i64 k) es.toList).run Tryz.prog w = .ok (findI (fun q => k == q) al 0) w := by
 simp [Instr.findKey, run_underlying Tryz.underlying3, findNow_int k es.toList al 0 h, go_sem]
theorem findKey_place (k : Int × Int) (w : World) (es : Array MapEntry) (al : List ((Int × Int) × Value)) (h : Ents keyP es al) :
  (Instr.findKey 124 (keyP k) es.toList).run Tryz.prog w = .ok (findI (fun q => k.1 == q.1 && k.2 == q.2) al 0) w := by
 simp only [Instr.findKey, Sem.run_bind, run_underlying Tryz.underlying124, Result.andThen_ok]
 rcases findNow_place k _ es.toList al 0 h with e | e <;> rw [e]
 ·simp [go_sem]
 ·exact findAsking_place k w es.toList al 0 h
theorem checkKey_int (b : Bool) (n : Nat) (k : Int) (w : World) : (Instr.checkKey b (n + 1) 3 (.int .i64 k)).run Tryz.prog w = .ok () w := by
 simp [Instr.checkKey, run_underlying Tryz.underlying3, go_sem]
theorem checkKey_place (b : Bool) (n : Nat) (k : Int × Int) (w : World) : (Instr.checkKey b (n + 2) 124 (keyP k)).run Tryz.prog w = .ok () w := by
 simp [Instr.checkKey, run_underlying Tryz.underlying124, go_sem, part]
def lookI (al : List (Int × Value)) (k : Int) (z : Value) : Value := match findI (fun q => k == q) al 0 with | some (_, v) => v | none => z
def lookP (al : List ((Int × Int) × Value)) (k : Int × Int) (z : Value) : Value := match findI (fun q => k.1 == q.1 && k.2 == q.2) al 0 with | some (_, v) => v | none => z
theorem run_lookI {w : World} {r : Nat} {al : List (Int × Value)} (h : MapAt keyI w r al) (k : Int) :
  (Instr.lookup 131 (.map (some r)) (.int .i64 k) false).run Tryz.prog w = .ok (lookI al k (.agg #[.int .i64 0, .int .i64 0, .slice none 0 0])) w := by
 obtain ⟨es, c, h, he⟩ := h
 have hck : (Instr.checkKey es.isEmpty 10000 3 (.int .i64 k)).run Tryz.prog w = .ok () w := checkKey_int es.isEmpty 9999 k w
 have hfk := findKey_int k w es al he
 have hz : ∀ w, (zeroValue 150).run Tryz.prog w = .ok (.agg #[.int .i64 0, .int .i64 0, .slice none 0 0]) w := by intro w; simp [go_sem]
 have ho : (getObj r).run Tryz.prog w = .ok (.map es c) w := by simp [getObj, Sem.run, h]
 unfold lookI
 simp only [Instr.lookup, Sem.run_bind, run_underlying Tryz.underlying131, Result.andThen_ok, ho, Sem.run_pure, hck, hfk]
 cases hf : findI (fun q => k == q) al 0 with
 | none => simp only [Sem.run_bind, hz, Result.andThen_ok, Sem.run_pure, Bool.false_eq_true, if_false]
 | some p => simp only [Sem.run_bind, Result.andThen_ok, Sem.run_pure, Bool.false_eq_true, if_false]
theorem run_lookP {w : World} {r : Nat} {al : List ((Int × Int) × Value)} (h : MapAt keyP w r al) (k : (Int × Int)) :
  (Instr.lookup 132 (.map (some r)) (keyP k) false).run Tryz.prog w = .ok (lookP al k (.agg #[.int .i64 0, .int .i64 0])) w := by
 obtain ⟨es, c, h, he⟩ := h
 have hck : (Instr.checkKey es.isEmpty 10000 124 (keyP k)).run Tryz.prog w = .ok () w := checkKey_place es.isEmpty 9998 k w
 have hfk := findKey_place k w es al he
 have hz : ∀ w, (zeroValue 196).run Tryz.prog w = .ok (.agg #[.int .i64 0, .int .i64 0]) w := by intro w; simp [go_sem]
 have ho : (getObj r).run Tryz.prog w = .ok (.map es c) w := by simp [getObj, Sem.run, h]
 unfold lookP
 simp only [Instr.lookup, Sem.run_bind, run_underlying Tryz.underlying132, Result.andThen_ok, ho, Sem.run_pure, hck, hfk]
 cases hf : findI (fun q => k.1 == q.1 && k.2 == q.2) al 0 with
 | none => simp only [Sem.run_bind, hz, Result.andThen_ok, Sem.run_pure, Bool.false_eq_true, if_false]
 | some p => simp only [Sem.run_bind, Result.andThen_ok, Sem.run_pure, Bool.false_eq_true, if_false]
def putI {K : Type} (eq : K → Bool) (k : K) (v : Value) : List (K × Value) → List (K × Value)
 | [] => [(k, v)]
 | p :: al => if eq p.1 then (k, v) :: al else p :: putI eq k v al
def dropI {K : Type} (eq : K → Bool) : List (K × Value) → List (K × Value)
 | [] => []
 | p :: al => if eq p.1 then al else p :: dropI eq al
theorem findI_shift {K : Type} (eq : K → Bool) : ∀ (al : List (K × Value)) (i j : Nat), findI eq al (i + j) = (findI eq al i).map fun p => (p.1 + j, p.2) := by
 intro al
 induction al with
 | nil => intro i j; rfl
 | cons p al ih =>
  intro i j
  simp only [findI]
  split
  ·rfl
  ·rw [show i + j + 1 = (i + 1) + j from by omega, ih]
theorem findI_none {K : Type} (eq : K → Bool) : ∀ (al : List (K × Value)) (i : Nat), findI eq al i = none → ∀ k v, putI eq k v al = al ++ [(k, v)] ∧ dropI eq al = al := by
 intro al
 induction al with
 | nil => intro i _ k v; exact ⟨rfl, rfl⟩
 | cons p al ih =>
  intro i h k v
  simp only [findI] at h
  split at h
  ·cases h
  ·rename_i hn
   have := ih (i + 1) h k v
   simp only [putI, dropI, if_neg hn, this.1, this.2, List.cons_append, and_self]
theorem findI_some {K : Type} (eq : K → Bool) : ∀ (al : List (K × Value)) (n : Nat) (v : Value), findI eq al 0 = some (n, v) → n < al.length ∧ (∀ k u, putI eq k u al = al.set n (k, u)) ∧ dropI eq al = al.eraseIdx n ∧ ∃ q, al[n]? = some (q, v) ∧ eq q = true := by
 intro al
 induction al with
 | nil => intro n v h; cases h
 | cons p al ih =>
  intro n v h
  simp only [findI] at h
  split at h
  ·rename_i hp
   simp only [Option.some.injEq, Prod.mk.injEq] at h
   obtain ⟨rfl, rfl⟩ := h
   exact ⟨by simp, fun k u => by simp [putI, hp], by simp [dropI, hp], p.1, by simp, hp⟩
  ·rename_i hp
   rw [show (0 : Nat) + 1 = 0 + 1 from rfl, findI_shift] at h
   cases hf : findI eq al 0 with
   | none => rw [hf] at h; cases h
   | some x =>
    rw [hf] at h
    simp only [Option.map_some, Option.some.injEq, Prod.mk.injEq] at h
    obtain ⟨rfl, rfl⟩ := h
    obtain ⟨h1, h2, h3, q, h4, h5⟩ := ih x.1 x.2 hf
    exact ⟨by simp; omega, fun k u => by simp [putI, hp, h2], by simp [dropI, hp, h3], q, by simpa using h4, h5⟩
structure Only (r : Nat) (w w' : World) : Prop where
 os : w'.os = w.os
 tape : w'.tape = w.tape
 output : w'.output = w.output
 size : w'.heap.size = w.heap.size
 block : ∀ j, j ≠ r → w'.heap[j]? = w.heap[j]?
theorem Only.ext {a w w' : World} {r : Nat} (h : Only r w w') (e : Ext a w) (hr : a.heap.size ≤ r) : Ext a w' :=
 Below.trans e ⟨h.os, h.tape, h.output, by rw [h.size]; exact Nat.le_refl _, fun k hk => h.block k (by omega)⟩
theorem only_set (w : World) (r : Nat) (o : Obj) : Only r w { w with heap := w.heap.setIfInBounds r o } :=
 ⟨rfl, rfl, rfl, by simp, fun j hj => by simp [Ne.symm hj]⟩
theorem run_getMap {w : World} {r : Nat} {es : Array MapEntry} {c : Nat} (h : w.heap[r]? = some (.map es c)) : (getObj r).run Tryz.prog w = .ok (.map es c) w := by simp [getObj, Sem.run, h]
theorem run_setMap {w : World} {r : Nat} {es es' : Array MapEntry} {c c' : Nat} (h : w.heap[r]? = some (.map es c)) : (setObj r (.map es' c')).run Tryz.prog w = .ok () { w with heap := w.heap.setIfInBounds r (.map es' c') } := by simp [setObj, Sem.run, h]
theorem heap_set {w : World} {r : Nat} {o o' : Obj} (h : w.heap[r]? = some o) : ({ w with heap := w.heap.setIfInBounds r o' } : World).heap[r]? = some o' := by
 have hr : r < w.heap.size := by
  by_cases hb : r < w.heap.size
  ·exact hb
  ·have : w.heap[r]? = none := by simp; omega
   rw [this] at h; cases h
 simp [hr]
theorem ents_modify {K : Type} {f : K → Value} {es : Array MapEntry} {al : List (K × Value)} (h : Ents f es al) (n : Nat) (k : K) (v : Value) : Ents f (es.modify n fun e => { e with key := f k, val := v }) (al.set n (k, v)) := by
 unfold Ents at *
 rw [Array.toList_modify, List.map_set, ← h]
 apply List.ext_getElem?
 intro i
 simp only [List.getElem?_map, List.getElem?_modify, List.getElem?_set, List.length_map]
 by_cases hi : n = i
 ·subst hi
  cases hx : es.toList[n]? with
  | none =>
   have : es.size ≤ n := by simpa using hx
   simp; omega
  | some e =>
   have : n < es.size := by
    by_cases hb : n < es.size
    ·exact hb
    ·have : es.toList[n]? = none := by simp; omega
     rw [this] at hx; cases hx
   simp [this]
 ·simp [hi]
theorem ents_push {K : Type} {f : K → Value} {es : Array MapEntry} {al : List (K × Value)} (h : Ents f es al) (k : K) (v : Value) (b : Nat) : Ents f (es.push { key := f k, val := v, born := b }) (al ++ [(k, v)]) := by
 unfold Ents at *
 simp [h]
theorem map_erase {α β : Type} (f : α → β) : ∀ (l : List α) (n : Nat), (l.eraseIdx n).map f = (l.map f).eraseIdx n := by
 intro l
 induction l with
 | nil => intro n; rfl
 | cons x l ih =>
  intro n
  cases n with
  | zero => rfl
  | succ n => simp [ih]
theorem ents_erase {K : Type} {f : K → Value} {es : Array MapEntry} {al : List (K × Value)} (h : Ents f es al) (n : Nat) : Ents f (es.eraseIdxIfInBounds n) (al.eraseIdx n) := by
 unfold Ents at *
 have e : (es.eraseIdxIfInBounds n).toList = es.toList.eraseIdx n := by simp
 rw [e, map_erase, h, ← map_erase]
theorem run_putI {w : World} {r : Nat} {al : List (Int × Value)} (h : MapAt keyI w r al) (k : Int) (v : Value) :
  ∃ w', (Instr.mapUpdate 131 (.map (some r)) (keyI k) v).run Tryz.prog w = .ok () w' ∧ MapAt keyI w' r (putI (fun q => k == q) k v al) ∧ Only r w w' := by
 obtain ⟨es, c, h, he⟩ := h
 have hck : (Instr.checkKey false 10000 3 (keyI k)).run Tryz.prog w = .ok () w := checkKey_int false 9999 k w
 have hfk := findKey_int k w es al he
 have ho := run_getMap h
 simp only [Instr.mapUpdate, Sem.run_bind, run_underlying Tryz.underlying131, Result.andThen_ok, ho, hck, hfk]
 cases hf : findI (fun q => k == q) al 0 with
 | none =>
  refine ⟨_, run_setMap h, ⟨_, _, heap_set h, ?_⟩, only_set w r _⟩
  rw [(findI_none _ al 0 hf k v).1]
  exact ents_push he k v c
 | some p =>
  obtain ⟨n, u⟩ := p
  obtain ⟨hn, hp, _, q, hq, hqe⟩ := findI_some _ al n u hf
  have hkq : q = k := by have := beq_iff_eq.1 hqe; exact this.symm
  subst hkq
  have hkey : ((es[n]?).map (·.key)).getD (keyI q) = keyI q := by
   have h1 : (es.toList.map (fun e => (e.key, e.val)))[n]? = some (keyI q, u) := by rw [he, List.getElem?_map, hq]; rfl
   rw [List.getElem?_map] at h1
   cases hx : es[n]? with
   | none => rfl
   | some e =>
    have hx' : es.toList[n]? = some e := by simpa using hx
    rw [hx'] at h1
    simp only [Option.map_some, Option.some.injEq, Prod.mk.injEq] at h1
    simp [h1.1]
  have hks : (Instr.keyThatStays (keyI q) (keyI q)).run Tryz.prog w = .ok (keyI q) w := by
   simp [Instr.keyThatStays, Instr.sameBits, go_sem]
  simp only [Sem.run_bind, hkey, hks, Result.andThen_ok]
  refine ⟨_, run_setMap h, ⟨_, _, heap_set h, ?_⟩, only_set w r _⟩
  rw [hp q v]
  exact ents_modify he n q v
theorem run_putP {w : World} {r : Nat} {al : List ((Int × Int) × Value)} (h : MapAt keyP w r al) (k : (Int × Int)) (v : Value) :
  ∃ w', (Instr.mapUpdate 132 (.map (some r)) (keyP k) v).run Tryz.prog w = .ok () w' ∧ MapAt keyP w' r (putI (fun q => k.1 == q.1 && k.2 == q.2) k v al) ∧ Only r w w' := by
 obtain ⟨es, c, h, he⟩ := h
 have hck : (Instr.checkKey false 10000 124 (keyP k)).run Tryz.prog w = .ok () w := checkKey_place false 9998 k w
 have hfk := findKey_place k w es al he
 have ho := run_getMap h
 simp only [Instr.mapUpdate, Sem.run_bind, run_underlying Tryz.underlying132, Result.andThen_ok, ho, hck, hfk]
 cases hf : findI (fun q => k.1 == q.1 && k.2 == q.2) al 0 with
 | none =>
  refine ⟨_, run_setMap h, ⟨_, _, heap_set h, ?_⟩, only_set w r _⟩
  rw [(findI_none _ al 0 hf k v).1]
  exact ents_push he k v c
 | some p =>
  obtain ⟨n, u⟩ := p
  obtain ⟨hn, hp, _, q, hq, hqe⟩ := findI_some _ al n u hf
  have hkq : q = k := by simp only [Bool.and_eq_true, beq_iff_eq] at hqe; exact Prod.ext hqe.1.symm hqe.2.symm
  subst hkq
  have hkey : ((es[n]?).map (·.key)).getD (keyP q) = keyP q := by
   have h1 : (es.toList.map (fun e => (e.key, e.val)))[n]? = some (keyP q, u) := by rw [he, List.getElem?_map, hq]; rfl
   rw [List.getElem?_map] at h1
   cases hx : es[n]? with
   | none => rfl
   | some e =>
    have hx' : es.toList[n]? = some e := by simpa using hx
    rw [hx'] at h1
    simp only [Option.map_some, Option.some.injEq, Prod.mk.injEq] at h1
    simp [h1.1]
  have hks : (Instr.keyThatStays (keyP q) (keyP q)).run Tryz.prog w = .ok (keyP q) w := by
   simp [Instr.keyThatStays, Instr.sameBits, go_sem]
  simp only [Sem.run_bind, hkey, hks, Result.andThen_ok]
  refine ⟨_, run_setMap h, ⟨_, _, heap_set h, ?_⟩, only_set w r _⟩
  rw [hp q v]
  exact ents_modify he n q v
theorem run_dropP {w : World} {r : Nat} {al : List ((Int × Int) × Value)} (h : MapAt keyP w r al) (k : (Int × Int)) (ty : TypeId) :
  ∃ w', (Builtin.delete_ #[132, 124] ty #[.map (some r), keyP k]).run Tryz.prog w = .ok (.tuple #[]) w' ∧ MapAt keyP w' r (dropI (fun q => k.1 == q.1 && k.2 == q.2) al) ∧ Only r w w' := by
 obtain ⟨es, c, h, he⟩ := h
 have hck : (Instr.checkKey es.isEmpty 10000 124 (keyP k)).run Tryz.prog w = .ok () w := checkKey_place es.isEmpty 9998 k w
 have hfk := findKey_place k w es al he
 have ho := run_getMap h
 unfold Builtin.delete_
 simp only [List.getElem?_toArray, List.getElem?_cons_zero, List.getElem?_cons_succ, Sem.run_bind, run_underlying Tryz.underlying132, Result.andThen_ok, ho, hck, hfk]
 cases hf : findI (fun q => k.1 == q.1 && k.2 == q.2) al 0 with
 | none =>
  refine ⟨{ w with heap := w.heap.setIfInBounds r (.map es c) }, by simp only [Sem.run_bind, run_setMap h, Result.andThen_ok, Sem.run_pure], ⟨_, _, heap_set h, ?_⟩, only_set w r _⟩
  rw [(findI_none _ al 0 hf k (.bool false)).2]
  exact he
 | some p =>
  obtain ⟨n, u⟩ := p
  obtain ⟨hn, _, hd, _⟩ := findI_some _ al n u hf
  refine ⟨{ w with heap := w.heap.setIfInBounds r (.map (es.eraseIdxIfInBounds n) c) }, by simp only [Sem.run_bind, run_setMap h, Result.andThen_ok, Sem.run_pure], ⟨_, _, heap_set h, ?_⟩, only_set w r _⟩
  rw [hd]
  exact ents_erase he n
end Go.Proofs.YtibfgbmhmdggmaaGreatDoor.B
