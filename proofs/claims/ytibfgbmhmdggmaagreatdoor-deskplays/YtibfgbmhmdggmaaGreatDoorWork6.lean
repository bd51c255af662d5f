/- Txns are gone through by a function: the contract of the book's InState, of whatever loop's body that keeps the book. · The contracts of the reference's OwnWorld and put. -/
import Derived.RangeFuncNested
import Derived.RangeFuncBound
import Derived.RangeFuncCalls
import Derived.RangeFuncLeaves
import Derived.Shelf.Abstract
import Derived.Shelf.RegionOpen
import Derived.OwnWalkIn
import Derived.TacticsInMore
import Derived.LoopNIn
import Derived.LoopIn
import Derived.Test.YtibfgbmhmdggmaaGreatDoorModA
import Derived.Test.YtibfgbmhmdggmaaGreatDoorWorkA
import Derived.Laws.AppendOwnNone
namespace Go.Proofs.YtibfgbmhmdggmaaGreatDoor.B
set_option maxHeartbeats 32000000
set_option maxRecDepth 100000
open Go.ChangeShapes Go.WideShapes Go.ChangeAt Go.RowKit Go.Shelf
attribute [local go_sem] Oper.semAt_some
structure Off (n : Nat) (X : List Nat) (W W' : World) : Prop where
 os : W'.os = W.os
 tape : W'.tape = W.tape
 output : W'.output = W.output
 size : W.heap.size ≤ W'.heap.size
 block : ∀ k, k < n → k ∉ X → W'.heap[k]? = W.heap[k]?
theorem Off.refl (n : Nat) (X : List Nat) (W : World) : Off n X W W := ⟨rfl, rfl, rfl, Nat.le_refl _, fun _ _ _ => rfl⟩
theorem Off.trans {n : Nat} {X : List Nat} {a b c : World} (h : Off n X a b) (k : Off n X b c) : Off n X a c := ⟨k.os.trans h.os, k.tape.trans h.tape, k.output.trans h.output, Nat.le_trans h.size k.size, fun i hi hx => (k.block i hi hx).trans (h.block i hi hx)⟩
theorem Off.ext {n : Nat} {X : List Nat} {a b c : World} (h : Off n X a b) (hn : n ≤ b.heap.size) (e : Ext b c) : Off n X a c := h.trans ⟨e.os, e.tape, e.output, e.size, fun i hi _ => e.block i (by omega)⟩
theorem Off.alloc {n : Nat} {X : List Nat} {a b : World} (h : Off n X a b) (hn : n ≤ b.heap.size) (o : Obj) : Off n X a (b.alloc o) := h.ext hn ((Ext.refl b).alloc o)
theorem Off.drew {n : Nat} {X : List Nat} {a b : World} (h : Off n X a b) : Off n X a b.drew := ⟨h.os, h.tape, h.output, h.size, h.block⟩
theorem Off.drewN {n : Nat} {X : List Nat} {a b : World} (h : Off n X a b) (m : Nat) : Off n X a (b.drewN m) := ⟨h.os, h.tape, h.output, h.size, h.block⟩
theorem Off.set {n : Nat} {X : List Nat} {a b : World} (h : Off n X a b) {p : Addr} (hp : p.block ∈ X ∨ n ≤ p.block) (v : Value) : Off n X a (b.setCell p v) :=
 h.trans ⟨rfl, rfl, rfl, by simp [World.setCell], fun i hi hx => Below.heap_setCell _ _ _ _ (fun e => by subst e; rcases hp with hp | hp; exact hx hp; omega)⟩
theorem Off.of_below {n : Nat} {X : List Nat} {a b : World} (h : Below n a b) : Off n X a b := ⟨h.os, h.tape, h.output, h.size, fun k hk _ => h.block k hk⟩
theorem Off.below {n : Nat} {a b : World} (h : Off n [] a b) : Below n a b := ⟨h.os, h.tape, h.output, h.size, fun k hk => h.block k hk (by simp)⟩
theorem Off.low {n m : Nat} {X : List Nat} {a b : World} (h : Off n X a b) (hm : m ≤ n) : Off m X a b := ⟨h.os, h.tape, h.output, h.size, fun k hk hx => h.block k (by omega) hx⟩
theorem offK_b {n : Nat} {X : List Nat} {w : World} (hn : n ≤ w.heap.size) (W : World) (l : Nat) (o o' : Obj) (hl : w.heap.size ≤ l) (h : W.heap[l]? = some o) (h1 : o.isCells = false) (h2 : o.isWalk = false) : Off n X W (W.putObj l o') := by
 have := belowK_b (n₀ := n) (w := w) hn W l o o' hl h h1 h2
 exact ⟨this.os, this.tape, this.output, this.size, fun k hk _ => this.block k hk⟩
theorem Blk.off {n : Nat} {X : List Nat} {W W' : World} {k : Nat} {c : Array Value} {t : TypeId} (h : Blk W k c t) (o : Off n X W W') (hk : k < n) (hx : k ∉ X) : Blk W' k c t := by
 unfold Blk at *; rw [o.block k hk hx]; exact h
theorem MapAt.off {K : Type} {f : K → Value} {n : Nat} {X : List Nat} {W W' : World} {k : Nat} {al : List (K × Value)} (h : MapAt f W k al) (o : Off n X W W') (hk : k < n) (hx : k ∉ X) : MapAt f W' k al := by
 obtain ⟨es, c, h, he⟩ := h
 exact ⟨es, c, by rw [o.block k hk hx]; exact h, he⟩
theorem ints_at {zs : List Int} {W : World} {sb : Nat} {t : TypeId} (h : Blk W sb (ints zs) t) : Ints sb W (some ⟨sb, 0, none⟩) zs := Or.inr ⟨sb, Nat.le_refl _, rfl, fun i hi => by rw [h.cell, ints_get, List.getElem?_eq_getElem hi]; rfl⟩
structure InSt (W : World) (bb bs sb cap pb mt mh : Nat) (ps : List Int) (sz : Int) (al : List (Int × Value)) (zs : List Int) : Prop where
 b1 : Blk W bb #[.pointer (some ⟨pb, 0, none⟩)] 128
 b2 : Blk W bs #[.slice (some ⟨sb, 0, none⟩) zs.length cap] 61
 b3 : Blk W sb (ints zs) 3
 b4 : Blk W pb (bookCells ps mt mh sz) 134
 b5 : MapAt keyI W mt al
theorem InSt.off {n : Nat} {X : List Nat} {W W' : World} {bb bs sb cap pb mt mh : Nat} {ps : List Int} {sz : Int} {al : List (Int × Value)} {zs : List Int} (h : InSt W bb bs sb cap pb mt mh ps sz al zs) (o : Off n X W W')
  (hx : ∀ k ∈ [bb, bs, sb, pb, mt], k < n ∧ k ∉ X) : InSt W' bb bs sb cap pb mt mh ps sz al zs :=
 ⟨h.b1.off o (hx bb (by simp)).1 (hx bb (by simp)).2, h.b2.off o (hx bs (by simp)).1 (hx bs (by simp)).2, h.b3.off o (hx sb (by simp)).1 (hx sb (by simp)).2, h.b4.off o (hx pb (by simp)).1 (hx pb (by simp)).2, h.b5.off o (hx mt (by simp)).1 (hx mt (by simp)).2⟩
theorem InSt.ext {W W' : World} {bb bs sb cap pb mt mh : Nat} {ps : List Int} {sz : Int} {al : List (Int × Value)} {zs : List Int} (h : InSt W bb bs sb cap pb mt mh ps sz al zs) (e : Ext W W') : InSt W' bb bs sb cap pb mt mh ps sz al zs :=
 ⟨h.b1.ext e, h.b2.ext e, h.b3.ext e, h.b4.ext e, h.b5.ext e⟩
def ofState (zs : List Int) (st : Int → Int) (k : Nat) : List Int := ((List.range k).map fun j : Nat => (j : Int) + 1).filter fun t => zs.contains (st t)
theorem ofState_succ (zs : List Int) (st : Int → Int) (k : Nat) : ofState zs st (k + 1) = if zs.contains (st ((k : Int) + 1)) then ofState zs st k ++ [(k : Int) + 1] else ofState zs st k := by
 unfold ofState
 rw [List.range_succ, List.map_append, List.filter_append]
 cases h : zs.contains (st ((k : Int) + 1)) <;> simp only [List.map_cons, List.map_nil, List.filter_cons, List.filter_nil, h] <;> simp
theorem ofState_len (zs : List Int) (st : Int → Int) (k : Nat) : (ofState zs st k).length ≤ k := by
 unfold ofState
 exact Nat.le_trans (List.length_filter_le _ _) (by simp)
abbrev txOf (st la : Int → Int) (sa : Int → Option Addr) (sm sc : Int → Nat) (t : Int) : Value := txVal (st t) (la t) (.slice (sa t) (sm t) (sc t))
theorem inState1_in (m l n : Nat) (X : List Nat) (bb bs sb cap pb mt mh : Nat) (ps : List Int) (sz : Int) (al : List (Int × Value)) (zs : List Int) (st la : Int → Int) (sa : Int → Option Addr) (sm sc : Int → Nat)
  (hl : ps.length = 12) (hz : zs.length ≤ 1000) (hlook : ∀ t, lookI al t (txVal 0 0 (.slice none 0 0)) = txOf st la sa sm sc t) (hX : ∀ k ∈ [bb, bs, sb, pb, mt], k < n ∧ k ∉ X)
  (J Jx : List Int → World → Prop) (W : World) (hm1 : 1 ≤ m) (hn : n ≤ W.heap.size) (hJ : AbidesFrom W.heap.size J)
  (hY : ∀ pre x W1, J pre W1 → pre.length < 9 → YieldAt Fence.wide (m - 1) Tryz.prog l #[.int .i64 x, txOf st la sa sm sc x] W1 fun e W' =>
   (e = .returned (.bool true) ∧ J (pre ++ [x]) W' ∧ Off n X W1 W') ∨ (e = .returned (.bool false) ∧ Jx (pre ++ [x]) W'))
  (hI : InSt W bb bs sb cap pb mt mh ps sz al zs) (h0 : J [] W) :
  CallsIn Fence.wide m Tryz.prog 189 #[.func (.yield l) #[] #[], .pointer (some ⟨bb, 0, none⟩), .pointer (some ⟨bs, 0, none⟩)] W fun e W' => (∃ v, e = .returned v) ∧
   ((∃ ys, ys = ofState zs st 9 ∧ J ys W') ∨ (∃ pre, (∃ k : Nat, k < 9 ∧ zs.contains (st ((k : Int) + 1)) = true ∧ pre = ofState zs st (k + 1)) ∧ Jx pre W')) := by
 refine callsIn_of_wp Tryz.func189 rfl trivial ?_ rfl
 simp only [Tryz.ntmps189, List.size_toArray, List.length_cons, List.length_nil, Nat.reduceAdd, Nat.reduceSub, Array.replicate_succ, Array.replicate_zero, List.push_toArray, List.append_toArray, List.nil_append, List.cons_append]
 gi_wp2
 gi_loopw [4] (fun i wr => ∃ k : Nat, k ≤ 9 ∧ i = .int .i64 ((k : Int) + 1) ∧ J (ofState zs st k) wr ∧ Off n X W wr) (fun i _ => 10 - (intOf i).toNat)
 case atStart => exact ⟨0, by omega, rfl, h0, Off.refl _ _ _⟩
 case round =>
  obtain ⟨k, hk, rfl, hJs, hO⟩ := hrel
  by_cases hlt : k < 9
  ·have hI' := hI.off hO hX
   have hnw : n ≤ wr.heap.size := Nat.le_trans hn hO.size
   have c1 : wr.cell? ⟨bb, 0, none⟩ = some (.pointer (some ⟨pb, 0, none⟩)) := by rw [hI'.b1.cell]; rfl
   have c12 : wr.cell? ⟨pb, 12, none⟩ = some (.map (some mt)) := by rw [hI'.b4.cell]; exact (bookCells_12 _ mt mh _ hl).1
   have hrun : (Instr.lookup 131 (.map (some mt)) (.int .i64 ((k : Int) + 1)) false).run Tryz.prog wr = .ok (txOf st la sa sm sc ((k : Int) + 1)) wr := by rw [run_lookI hI'.b5]; exact congrArg (fun v => Result.ok v _) (hlook _)
   have HS := (show Hid _ from ofState_succ zs st k)
   have hJ2 : J (ofState zs st k) (wr.alloc (.cells #[.int .i64 (st ((k : Int) + 1)), .int .i64 (la ((k : Int) + 1)), .slice (sa ((k : Int) + 1)) (sm ((k : Int) + 1)) (sc ((k : Int) + 1))] 150)) := hJ _ _ _ none hJs (World.grownBy_alloc wr _ none) (fun r e => by cases e)
   have hO2 := hO.alloc hnw (.cells #[.int .i64 (st ((k : Int) + 1)), .int .i64 (la ((k : Int) + 1)), .slice (sa ((k : Int) + 1)) (sm ((k : Int) + 1)) (sc ((k : Int) + 1))] 150)
   have hI2 := hI'.ext ((Ext.refl wr).alloc (.cells #[.int .i64 (st ((k : Int) + 1)), .int .i64 (la ((k : Int) + 1)), .slice (sa ((k : Int) + 1)) (sm ((k : Int) + 1)) (sc ((k : Int) + 1))] 150))
   have c2 : (wr.alloc (.cells #[.int .i64 (st ((k : Int) + 1)), .int .i64 (la ((k : Int) + 1)), .slice (sa ((k : Int) + 1)) (sm ((k : Int) + 1)) (sc ((k : Int) + 1))] 150)).cell? ⟨bs, 0, none⟩ = some (.slice (some ⟨sb, 0, none⟩) zs.length cap) := by rw [hI2.b2.cell]; rfl
   have hT := Blk.new wr wr.heap.size #[.int .i64 (st ((k : Int) + 1)), .int .i64 (la ((k : Int) + 1)), .slice (sa ((k : Int) + 1)) (sm ((k : Int) + 1)) (sc ((k : Int) + 1))] 150 rfl
   obtain ⟨fn, tmps, assign, body, hy, hR⟩ := hY _ ((k : Int) + 1) _ hJ2 (by have := ofState_len zs st k; omega)
   dsimp only [txOf, txVal] at hy hrun
   clear hY
   gi_wp2_with fail
   refine ⟨trivial, ?_⟩
   refine (callsIn_wide.2 (contains_any sb (some ⟨sb, 0, none⟩) cap zs (st ((k : Int) + 1)) _ (ints_at hI2.b3) hz)).mono ?_
   rintro e w' ⟨rfl, rfl⟩
   clear hI' c1 c12 hrun hJs hO hJ hI h0
   generalize hw' : wr.alloc (.cells #[.int .i64 (st ((k : Int) + 1)), .int .i64 (la ((k : Int) + 1)), .slice (sa ((k : Int) + 1)) (sm ((k : Int) + 1)) (sc ((k : Int) + 1))] 150) = W2 at *
   generalize hbt : wr.heap.size = bt at *
   have t2 := hT.cell
   cases hc : zs.contains (st ((k : Int) + 1))
   ·have HC := (show Hid (zs.contains (st ((k : Int) + 1)) = false) from hc)
    clear hc hR hy
    gi_wp2_with fail
    refine ⟨fun _ h => (by cases h), ?_⟩
    gi_wp2_with fail
    go_roundw
    case rel => exact ⟨k + 1, by omega, by go_num, by rw [HS.out, HC.out]; exact hJ2, hO2⟩
    case measure => simp [intOf]; omega
   ·have HC := (show Hid (zs.contains (st ((k : Int) + 1)) = true) from hc)
    have HSk : Hid (ofState zs st (k + 1) = ofState zs st k ++ [(k : Int) + 1]) := by rw [Hid, HS.out, hc]; rfl
    clear hc
    gi_wp2_with fail
    refine hR.mono ?_
    rintro e W3 (⟨rfl, hJ3, hk3⟩ | ⟨rfl, hJx3⟩)
    ·gi_wp2_with fail
     go_roundw
     case rel => exact ⟨k + 1, by omega, by go_num, by rw [HSk.out]; exact hJ3, hO2.trans hk3⟩
     case measure => simp [intOf]; omega
    ·gi_wp2_with fail
     refine bodyPost_ret (results_none rfl _ _ _) rfl ?_
     exact ⟨⟨_, rfl⟩, .inr ⟨_, ⟨k, hlt, HC.out, HSk.out.symm⟩, hJx3⟩⟩
  ·obtain rfl : k = 9 := by omega
   gi_wp2_with fail
   go_end0
   exact ⟨⟨_, rfl⟩, .inl ⟨_, rfl, hJs⟩⟩
theorem inState_stops (m n : Nat) (X : List Nat) (bb bs sb cap pb mt mh : Nat) (ps : List Int) (sz : Int) (al : List (Int × Value)) (zs : List Int) (st la : Int → Int) (sa : Int → Option Addr) (sm sc : Int → Nat)
  (hl : ps.length = 12) (hz : zs.length ≤ 1000) (hlook : ∀ t, lookI al t (txVal 0 0 (.slice none 0 0)) = txOf st la sa sm sc t) (hX : ∀ k ∈ [bb, bs, sb, pb, mt], k < n ∧ k ∉ X) (w : World) (hm1 : 1 ≤ m) (hn : n ≤ w.heap.size)
  (hI : InSt w bb bs sb cap pb mt mh ps sz al zs) :
  SeqStopsK Fence.wide m Tryz.prog 189 #[.pointer (some ⟨bb, 0, none⟩), .pointer (some ⟨bs, 0, none⟩)] (fun x : Int => #[Value.int .i64 x, txOf st la sa sm sc x]) (Off n X) (fun ys => ys = ofState zs st 9)
   (fun pre => ∃ k : Nat, k < 9 ∧ zs.contains (st ((k : Int) + 1)) = true ∧ pre = ofState zs st (k + 1)) 9 w := fun l J Jx W hW hJ _ hY h0 =>
 inState1_in m l n X bb bs sb cap pb mt mh ps sz al zs st la sa sm sc hl hz hlook hX J Jx W hm1 (Nat.le_trans hn hW.size) hJ hY (hI.ext hW) h0
theorem inState_any (pb sb len cap : Nat) (w : World) :
  Calls Tryz.prog 167 #[.pointer (some ⟨pb, 0, none⟩), .slice (some ⟨sb, 0, none⟩) len cap] w fun e w' => e = .returned (.func (.func 189) #[] #[.pointer (some ⟨w.heap.size, 0, none⟩), .pointer (some ⟨w.heap.size + 1, 0, none⟩)]) ∧
   w' = (w.alloc (.cells #[.pointer (some ⟨pb, 0, none⟩)] 128)).alloc (.cells #[.slice (some ⟨sb, 0, none⟩) len cap] 61) := by
 go_enter Tryz.func167, Tryz.ntmps167
 go_wp2_with fail
 go_ret
 exact ⟨rfl, rfl⟩
theorem BookOk.looks {w : World} {base pb mt mh : Nat} {l : List Rc} {tx : List TxE} {ho : List ((Int × Int) × (Int × Int))} (h : BookOk w base pb mt mh l tx ho) :
  ∃ (sa : Int → Option Addr) (sm sc : Int → Nat), ∀ t, lookI (tx.map TxE.ent) t (txVal 0 0 (.slice none 0 0)) = txOf (stateR l) (fun t => (lastR l t : Nat)) sa sm sc t := by
 have : ∀ t, ∃ y : Option Addr × Nat × Nat, lookI (tx.map TxE.ent) t (txVal 0 0 (.slice none 0 0)) = txVal (stateR l t) (lastR l t : Nat) (.slice y.1 y.2.1 y.2.2) := fun t => by
  obtain ⟨sv, h1, h2, _⟩ := h.look t
  obtain ⟨a, m, c, rfl⟩ := own_slice h2
  exact ⟨(a, m, c), h1⟩
 exact ⟨fun t => (Classical.choose (this t)).1, fun t => (Classical.choose (this t)).2.1, fun t => (Classical.choose (this t)).2.2, fun t => Classical.choose_spec (this t)⟩
end Go.Proofs.YtibfgbmhmdggmaaGreatDoor.B
namespace Go.Proofs.YtibfgbmhmdggmaaGreatDoor.B
set_option maxHeartbeats 32000000
set_option maxRecDepth 100000
open Go.ChangeShapes Go.WideShapes Go.ChangeAt Go.RowKit
def linkR (l : List Rc) (r : Rc) : Rc := ⟨r.kind, r.txn, (lastR l r.txn : Nat), r.page, r.cell, r.old, r.new, r.next⟩
theorem own_fresh (w : World) (o1 o2 : Obj) : (((w.alloc o1).alloc o2).alloc (.cells #[] 81)).ownsRow w.heap.size 81 8 (.slice (some ⟨w.heap.size + 1 + 1, 0, none⟩) 0 0) 0 [] := by
 have := World.ownsRow_lit (base := w.heap.size) (e := 81) (size := 8) ((w.alloc o1).alloc o2) #[] 0 (by simp; omega) (by decide) rfl
 simpa using this
theorem ownWorld_any (p q r : Pg) (a : Option Addr) (len cap : Nat) (l : List Rc) (safe : Int) (w : World) (h : LogIn w a len cap l) (hl : len ≤ 60) :
  Calls Tryz.prog 50 #[wdVal p q r (.slice a len cap) safe] w fun e w' => ∃ a' cap', e = .returned (wdVal p q r (.slice a' l.length cap') safe) ∧ Ext w w' ∧ w'.ownsRow w.heap.size 81 8 (.slice a' l.length cap') l.length (flat l) := by
 obtain ⟨i0, hi, hz0, hz1, hz2⟩ := info_parts infoRec
 have HI := (show Hid _ from hi)
 have Z0 := (show Hid _ from hz0)
 have Z1 := (show Hid _ from hz1)
 have Z2 := (show Hid _ from hz2)
 clear hi hz0 hz1 hz2
 have hll := h.recs.len
 have E0 := (((Ext.refl w).alloc (.cells (wdCells p q r (.slice a len cap) safe) 38)).alloc (.cells (wdCells noPg noPg noPg (.slice none 0 0) 0) 38)).alloc (.cells #[] 81)
 have B0 := ((Blk.new w w.heap.size (wdCells p q r (.slice a len cap) safe) 38 rfl).alloc (.cells (wdCells noPg noPg noPg (.slice none 0 0) 0) 38)).alloc (.cells #[] 81)
 have N0 := (Blk.new (w.alloc (.cells (wdCells p q r (.slice a len cap) safe) 38)) (w.heap.size + 1) (wdCells noPg noPg noPg (.slice none 0 0) 0) 38 (by simp)).alloc (.cells #[] 81)
 have hN := own_fresh w (.cells (wdCells p q r (.slice a len cap) safe) 38) (.cells (wdCells noPg noPg noPg (.slice none 0 0) 0) 38)
 have b0 := B0.cell
 cases a with
 | none =>
  obtain rfl := h.nil rfl
  have hl0 : len = 0 := by
   rcases h.recs.2 with ⟨_, h0⟩ | ⟨b, off, e, _⟩
   ·exact h0
   ·cases e
  subst hl0
  have hl1 : l = [] := List.length_eq_zero_iff.1 hll
  subst hl1
  go_enter Tryz.func50, Tryz.ntmps50
  go_wp2_with (at_builtin; refine wpList_append_own_none _ rfl _ _ 36 rfl w.heap.size 81 i0 8 Tryz.underlying36 HI.out (.slice (some ⟨w.heap.size + 1 + 1, 0, none⟩) 0 0) 0 [] rfl hN rfl ?_)
  refine bodyPost_ret (v := .agg (wdCells p q r (.slice (some ⟨w.heap.size + 1 + 1, 0, none⟩) 0 0) safe)) (by simp [results, Tryz.results50, go_sem]) rfl ⟨_, _, rfl, ?_, ?_⟩
  ·exact (((Ext.refl w).alloc _).alloc _).alloc _
  ·exact own_fresh w _ _
 | some ad =>
  obtain ⟨b, off, rfl⟩ : ∃ b off, ad = ⟨b, off, none⟩ := by
   rcases h.recs.2 with ⟨e, _⟩ | ⟨b, off, e, _⟩
   ·cases e
   ·injection e with e; exact ⟨b, off, e⟩
  have hcl := recs_cells (h.recs.ext E0)
  have HLen : Hid ((flat l).length = len * 8) := by rw [Hid, flat_len, hll]
  go_enter Tryz.func50, Tryz.ntmps50
  go_wp2_with (at_builtin; refine wpList_append_own _ rfl _ _ 36 rfl w.heap.size 81 i0 (.agg #[.int .i64 0, .int .i64 0, .int .i64 0, .int .i64 0, .int .i64 0, .int .i64 0, .int .i64 0, .int .i64 0]) 8 64 Tryz.underlying36 HI.out Z0.out Z1.out Z2.out rfl (by decide) (.slice (some ⟨w.heap.size + 1 + 1, 0, none⟩) 0 0) 0 [] rfl hN ⟨b, off, none⟩ len cap (flat l) rfl HLen.out hcl (flat_one l) (by unfold maxLen; omega) (by omega) (by simp; omega) ?_; intro v' w3 hown' hgrow hnil3; obtain ⟨sa, sm, sc, hvv⟩ := own_slice hown'; subst hvv; clear hnil3; have B3 := B0.gr hgrow (by simp [Value.ownBlock] <;> omega); have N3 := N0.gr hgrow (by simp [Value.ownBlock] <;> omega); have b3 := B3.cell; have f3 := B3.fr; have B4 := B3.set 12 (.slice sa sm sc); have b4 := B4.cell; have N4 := N3.other ⟨w.heap.size, 12, none⟩ (.slice sa sm sc) (by simp); have n4 := N4.cell; have g4 := N4.fr)
  have E3 : Ext w w3 := E0.grown hN hgrow
  rw [Nat.zero_add, List.nil_append, ← hll] at hown'
  have G4 : Gr (some w.heap.size) w3 (w3.setCell ⟨w.heap.size, 12, none⟩ (.slice sa sm sc)) := (Gr.refl (some w.heap.size) w3).set (p := ⟨w.heap.size, 12, none⟩) (Or.inr rfl) _
  have own4 := own_gr hown' G4 (fun k hk e => by injection e with e; exact own_notblk hown' B3 (by decide) k hk e)
  have E4 := E3.setCell (p := ⟨w.heap.size, 12, none⟩) (Nat.le_refl _) (.slice sa sm sc)
  have G5 := put14_gr (w3.setCell ⟨w.heap.size, 12, none⟩ (.slice sa sm sc)) (w.heap.size + 1) (.int .i64 p.c0) (.int .i64 p.c1) (.int .i64 p.c2) (.int .i64 p.last) (.int .i64 q.c0) (.int .i64 q.c1) (.int .i64 q.c2) (.int .i64 q.last) (.int .i64 r.c0) (.int .i64 r.c1) (.int .i64 r.c2) (.int .i64 r.last) (.slice sa sm sc) (.int .i64 safe)
  have own5 := own_gr own4 G5 (fun k hk e => by injection e with e; exact own_notblk own4 N4 (by decide) k hk e)
  have E5 := put14_ext E4 (w.heap.size + 1) (by omega) (.int .i64 p.c0) (.int .i64 p.c1) (.int .i64 p.c2) (.int .i64 p.last) (.int .i64 q.c0) (.int .i64 q.c1) (.int .i64 q.c2) (.int .i64 q.last) (.int .i64 r.c0) (.int .i64 r.c1) (.int .i64 r.c2) (.int .i64 r.last) (.slice sa sm sc) (.int .i64 safe)
  obtain rfl := own_len hown'
  refine bodyPost_ret (v := .agg (wdCells p q r (.slice sa l.length sc) safe)) (by simp [results, Tryz.results50, go_sem, n4]) rfl ⟨_, _, rfl, ?_, ?_⟩
  ·exact E5
  ·exact own5
theorem refPut_full (b : Nat) (p q s : Pg) (a : Option Addr) (cap : Nat) (l : List Rc) (safe : Int) (r : Rc) (w : World) (B : Blk w b (wdCells p q s (.slice a l.length cap) safe) 38) (hl : l.length = 60) :
  Calls Tryz.prog 51 #[.pointer (some ⟨b, 0, none⟩), r.val] w fun e w' => e = .returned (.bool false) ∧ Ext w w' := by
 have E0 := (Ext.refl w).alloc (.cells r.cs 81)
 have c := (B.ext E0).cell
 rw [hl] at c
 go_enter Tryz.func51, Tryz.ntmps51
 go_wp2_with fail
 go_ret
 exact ⟨rfl, E0⟩
theorem refPut_any (base b : Nat) (p q s : Pg) (a : Option Addr) (cap : Nat) (l : List Rc) (safe : Int) (r : Rc) (w : World) (B : Blk w b (wdCells p q s (.slice a l.length cap) safe) 38) (hown : w.ownsRow base 81 8 (.slice a l.length cap) l.length (flat l)) (hl : l.length < 60) (hb : base ≤ b) :
  Calls Tryz.prog 51 #[.pointer (some ⟨b, 0, none⟩), r.val] w fun e w' => e = .returned (.bool true) ∧ Below base w w' ∧ ∃ a' cap', Blk w' b (wdCells p q s (.slice a' (l.length + 1) cap') safe) 38 ∧ w'.ownsRow base 81 8 (.slice a' (l.length + 1) cap') (l ++ [linkR l r]).length (flat (l ++ [linkR l r])) := by
 obtain ⟨i0, hi, hz0, hz1, hz2⟩ := info_parts infoRec
 have HI := (show Hid _ from hi)
 have Z0 := (show Hid _ from hz0)
 have Z1 := (show Hid _ from hz1)
 have Z2 := (show Hid _ from hz2)
 clear hi hz0 hz1 hz2
 have hbl := B.lt
 have hbase : base ≤ w.heap.size := by omega
 have hrl : Recs w a l.length l := by
  obtain ⟨a2, c2, h1, h2, _⟩ := recs_own' hown
  injection h1 with h3 h4 h5
  subst h3
  exact h2
 have nlog : (Value.slice a l.length cap).ownBlock ≠ some b := fun e => own_notblk hown B (by decide) b e rfl
 have nrow : (Value.slice a l.length cap).ownBlock ≠ some w.heap.size := fun e => by have := own_lt hown _ e; omega
 have hrb : b ≠ w.heap.size := by omega
 have HRR : Hid (linkR l r = ⟨r.kind, r.txn, (lastR l r.txn : Nat), r.page, r.cell, r.old, r.new, r.next⟩) := rfl
 have hne : ((l.length : Int) == 60) = false := by simp; omega
 have E0 := (Ext.refl w).alloc (.cells r.cs 81)
 have B0 := B.ext E0
 have R0 := Blk.new w w.heap.size r.cs 81 rfl
 have hr0 := hrl.ext E0
 have own0 := own_ext hown E0
 have c := B0.cell
 go_enter Tryz.func51, Tryz.ntmps51
 go_wp2_with fail
 clear c
 generalize hW : w.alloc (.cells r.cs 81) = W at *
 have hWs : W.heap.size = w.heap.size + 1 := by rw [← hW]; simp
 clear hW
 have Ed := (Ext.refl W).drew
 have KC : Hid (∀ w', Blk w' b (wdCells p q s (.slice a l.length cap) safe) 38 → w'.cell? ⟨w.heap.size, 1, none⟩ = some (.int .i64 r.txn) → w'.cell? ⟨b, 12, none⟩ = some (.slice a l.length cap) ∧ w'.cell? ⟨w.heap.size, 1, none⟩ = some (.int .i64 r.txn)) := fun w' x y => ⟨by rw [x.cell]; rfl, y⟩
 refine wp_region_held_drew (S := fun w' => w'.cell? ⟨b, 12, none⟩ = some (.slice a l.length cap) ∧ w'.cell? ⟨w.heap.size, 1, none⟩ = some (.int .i64 r.txn)) (by kernel_rfl) (KC.out _ (B0.ext Ed) (by rw [(R0.ext Ed).cell]; rfl)) (fun hHeld => ?_)
 refine tkn 0 rfl hHeld ?_
 simp only [Act.put]
 refine tkn 1 rfl hHeld ?_
 simp only [Act.put]
 refine tkn 2 rfl hHeld ?_
 simp only [Act.put]
 refine tkn 3 rfl hHeld ?_
 simp only [Act.put]
 refine tkn 4 rfl hHeld ?_
 simp only [Act.put]
 refine tkn 5 rfl hHeld ?_
 simp only [Act.put]
 refine exn 6 rfl fun K hK => ?_
 go_simp
 refine (last_any a l.length cap l r.txn _ (hr0.ext Ed) (by omega)).mono ?_
 rintro e w1 ⟨rfl, rfl⟩
 go_wp2_with fail
 refine hK.out _ _ hHeld (fun hHeld => ?_)
 clear hK K
 refine tkn 7 rfl hHeld ?_
 simp only [Act.put]
 have c2 : W.cell? ⟨w.heap.size, 2, none⟩ = some (.int .i64 r.prev) := by rw [R0.cell]; rfl
 have f2 := R0.fr 2
 refine exn 8 rfl fun K hK => ?_
 go_simp
 have R1 := (R0.set 2 (.int .i64 (lastR l r.txn : Nat))).drew
 have B1 := (B0.other ⟨w.heap.size, 2, none⟩ (.int .i64 (lastR l r.txn : Nat)) hrb).drew
 have G1 : Gr (some w.heap.size) W (W.setCell ⟨w.heap.size, 2, none⟩ (.int .i64 (lastR l r.txn : Nat))).drew := ((Gr.refl (some w.heap.size) W).set (p := ⟨w.heap.size, 2, none⟩) (Or.inr rfl) _).drew
 have own1 := own_gr own0 G1 (fun k hk e => by injection e with e; rw [e] at hk; exact nrow hk)
 have bel1 : Below base w (W.setCell ⟨w.heap.size, 2, none⟩ (.int .i64 (lastR l r.txn : Nat))).drew := Below.drew (Below.setCell (Below.mono E0 hbase) hbase _)
 refine hK.out _ _ (KC.out _ B1 (by rw [R1.cell]; rfl)) (fun hHeld => ?_)
 clear hK K hHeld c2 f2
 refine wpAnyH_done (by kernel_rfl) ?_ _
 clear KC
 have R2 : Blk (W.setCell ⟨w.heap.size, 2, none⟩ (.int .i64 (lastR l r.txn : Nat))).drew w.heap.size (Rc.mk r.kind r.txn (lastR l r.txn : Nat) r.page r.cell r.old r.new r.next).cs 81 := R1
 have hsz2 : (W.setCell ⟨w.heap.size, 2, none⟩ (.int .i64 (lastR l r.txn : Nat))).drew.heap.size ≥ w.heap.size + 1 := by
  show (W.setCell ⟨w.heap.size, 2, none⟩ (.int .i64 (lastR l r.txn : Nat))).heap.size ≥ _
  rw [World.size_setCell]; omega
 generalize (W.setCell ⟨w.heap.size, 2, none⟩ (.int .i64 (lastR l r.txn : Nat))).drew = w2 at *
 obtain ⟨r', hr'⟩ : ∃ r' : Rc, r' = ⟨r.kind, r.txn, (lastR l r.txn : Nat), r.page, r.cell, r.old, r.new, r.next⟩ := ⟨_, rfl⟩
 rw [← hr'] at HRR R2
 clear hr'
 have D2 := B1
 have own2 := own1
 have bel2 := bel1
 clear R1 R0 B1 B0 own1 own0 bel1 G1 hr0 Ed E0 hWs
 go_wp2_with fail
 have E2d := (Ext.refl w2).drew
 have c13 : ∀ w', Ext w2 w' → w'.cell? ⟨b, 12, none⟩ = some (.slice a l.length cap) := fun w' e => by rw [(D2.ext e).cell]; rfl
 have C13 := (show Hid _ from c13)
 clear c13
 refine wp_region_held_drew (S := fun w' => ∀ o, w'.cell? ⟨w.heap.size, o, none⟩ = r'.cs[o]?) (by kernel_rfl) (R2.ext E2d).cell (fun hHeld => ?_)
 refine tkn 0 rfl hHeld ?_
 simp only [Act.put]
 refine tkn 1 rfl hHeld ?_
 simp only [Act.put]
 refine tkn 2 rfl hHeld ?_
 simp only [Act.put]
 refine tkn 3 rfl hHeld ?_
 simp only [Act.put]
 refine tkn 5 rfl hHeld ?_
 simp only [Act.put]
 have V0 := (Ext.refl w2).drew.alloc (.cells r'.cs 81)
 refine wpAnyH_ready (rs := [4, 6]) (by kernel_rfl) (by simp) ?_
 refine AllReadyH.cons rfl (fun K hK => ?_) (AllReadyH.cons rfl (fun K hK => ?_) AllReadyH.nil)
 ·have c := C13.out w2.drew E2d
  go_simp
  refine hK.out _ _ (R2.ext E2d).cell (fun hHeld => ?_)
  clear hK K
  refine exn 6 rfl fun K hK => ?_
  go_simp
  refine hK.out _ _ (R2.ext V0).cell (fun hHeld => ?_)
  clear hK K c
  refine wpAnyH_ready (rs := [7]) (by kernel_rfl) (by simp) ?_
  refine AllReadyH.cons rfl (fun K hK => ?_) AllReadyH.nil
  refine step_append_lies _ rfl _ _ 36 rfl base 81 i0 (.agg #[.int .i64 0, .int .i64 0, .int .i64 0, .int .i64 0, .int .i64 0, .int .i64 0, .int .i64 0, .int .i64 0]) 8 64 Tryz.underlying36 HI.out Z0.out Z1.out Z2.out rfl (by decide) (.slice a l.length cap) l.length (flat l) rfl (own_ext own2 V0) ⟨w2.heap.size, 0, none⟩ 1 1 r'.cs.toList rfl rfl (cells_new _ r'.cs.toList _ _ rfl) (cs_oneCell r') (by decide) (by unfold maxLen; omega) (by omega) (by simp; omega) _ rfl ?_
  intro g cap' w3 hown' hgrow hg hgl
  have G3 : Gr (Value.slice a l.length cap).ownBlock w2 w3 := (Gr.of_ext V0).trans hgrow
  have R3 := R2.gr G3 (fun e => nrow e.symm)
  have D3 := D2.gr G3 (fun e => nlog e.symm)
  refine hK.out _ _ R3.cell (fun hHeld => ?_)
  clear hK K
  refine tkn 8 rfl hHeld ?_
  simp only [Act.put]
  refine tkn 9 rfl hHeld ?_
  simp only [Act.put]
  have c13 : w3.cell? ⟨b, 12, none⟩ = some (.slice a l.length cap) := by rw [D3.cell]; rfl
  have f13 := D3.fr 12
  refine exn 10 rfl fun K hK => ?_
  go_simp
  have R4 := R3.other ⟨b, 12, none⟩ (.slice (some ⟨g, 0, none⟩) (l.length + 1) cap') (fun e => hrb e.symm)
  have D4 := D3.set 12 (.slice (some ⟨g, 0, none⟩) (l.length + 1) cap')
  have G4 : Gr (some b) w3 (w3.setCell ⟨b, 12, none⟩ (.slice (some ⟨g, 0, none⟩) (l.length + 1) cap')) := (Gr.refl (some b) w3).set (p := ⟨b, 12, none⟩) (Or.inr rfl) _
  have own4 := own_gr hown' G4 (fun k hk e => by injection e with e; exact own_notblk hown' D3 (by decide) k hk e)
  have bel3 := below_gr bel2 (by omega) G3 (fun k hk => own_from own2 k hk)
  have bel4 : Below base w (w3.setCell ⟨b, 12, none⟩ (.slice (some ⟨g, 0, none⟩) (l.length + 1) cap')) := Below.setCell bel3 hb _
  refine hK.out _ _ R4.cell (fun hHeld => ?_)
  clear hK K
  refine wpAnyH_done (by kernel_rfl) ?_ _
  clear hHeld c13 f13
  go_wp2_with fail
  go_ret
  exact ⟨rfl, bel4, _, _, D4, by rw [HRR.out, flat_snoc]; exact own4⟩
 ·go_simp
  refine hK.out _ _ (R2.ext V0).cell (fun hHeld => ?_)
  clear hK K
  have c : (w2.alloc (.cells #[.int .i64 r'.kind, .int .i64 r'.txn, .int .i64 r'.prev, .int .i64 r'.page, .int .i64 r'.cell, .int .i64 r'.old, .int .i64 r'.new, .int .i64 r'.next] 81)).cell? ⟨b, 12, none⟩ = some (.slice a l.length cap) := C13.out _ ((Ext.refl w2).alloc _)
  refine exn 4 rfl fun K hK => ?_
  go_simp
  refine hK.out _ _ (R2.ext V0).cell (fun hHeld => ?_)
  clear hK K c
  refine wpAnyH_ready (rs := [7]) (by kernel_rfl) (by simp) ?_
  refine AllReadyH.cons rfl (fun K hK => ?_) AllReadyH.nil
  refine step_append_lies _ rfl _ _ 36 rfl base 81 i0 (.agg #[.int .i64 0, .int .i64 0, .int .i64 0, .int .i64 0, .int .i64 0, .int .i64 0, .int .i64 0, .int .i64 0]) 8 64 Tryz.underlying36 HI.out Z0.out Z1.out Z2.out rfl (by decide) (.slice a l.length cap) l.length (flat l) rfl (own_ext own2 V0) ⟨w2.heap.size, 0, none⟩ 1 1 r'.cs.toList rfl rfl (cells_new _ r'.cs.toList _ _ rfl) (cs_oneCell r') (by decide) (by unfold maxLen; omega) (by omega) (by simp; omega) _ rfl ?_
  intro g cap' w3 hown' hgrow hg hgl
  have G3 : Gr (Value.slice a l.length cap).ownBlock w2 w3 := (Gr.of_ext V0).trans hgrow
  have R3 := R2.gr G3 (fun e => nrow e.symm)
  have D3 := D2.gr G3 (fun e => nlog e.symm)
  refine hK.out _ _ R3.cell (fun hHeld => ?_)
  clear hK K
  refine tkn 8 rfl hHeld ?_
  simp only [Act.put]
  refine tkn 9 rfl hHeld ?_
  simp only [Act.put]
  have c13 : w3.cell? ⟨b, 12, none⟩ = some (.slice a l.length cap) := by rw [D3.cell]; rfl
  have f13 := D3.fr 12
  refine exn 10 rfl fun K hK => ?_
  go_simp
  have R4 := R3.other ⟨b, 12, none⟩ (.slice (some ⟨g, 0, none⟩) (l.length + 1) cap') (fun e => hrb e.symm)
  have D4 := D3.set 12 (.slice (some ⟨g, 0, none⟩) (l.length + 1) cap')
  have G4 : Gr (some b) w3 (w3.setCell ⟨b, 12, none⟩ (.slice (some ⟨g, 0, none⟩) (l.length + 1) cap')) := (Gr.refl (some b) w3).set (p := ⟨b, 12, none⟩) (Or.inr rfl) _
  have own4 := own_gr hown' G4 (fun k hk e => by injection e with e; exact own_notblk hown' D3 (by decide) k hk e)
  have bel3 := below_gr bel2 (by omega) G3 (fun k hk => own_from own2 k hk)
  have bel4 : Below base w (w3.setCell ⟨b, 12, none⟩ (.slice (some ⟨g, 0, none⟩) (l.length + 1) cap')) := Below.setCell bel3 hb _
  refine hK.out _ _ R4.cell (fun hHeld => ?_)
  clear hK K
  refine wpAnyH_done (by kernel_rfl) ?_ _
  clear hHeld c13 f13
  go_wp2_with fail
  go_ret
  exact ⟨rfl, bel4, _, _, D4, by rw [HRR.out, flat_snoc]; exact own4⟩
end Go.Proofs.YtibfgbmhmdggmaaGreatDoor.B
