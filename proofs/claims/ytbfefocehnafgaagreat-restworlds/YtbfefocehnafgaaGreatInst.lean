/- Txns are gone through by a function: the contract of the book's InState, of whatever loop's body that keeps the book. -/
import Derived.RangeFuncNested
import Derived.RangeFuncBound
import Derived.RangeFuncCalls
import Derived.RangeFuncLeaves
import Derived.Shelf.Abstract
import Derived.Shelf.RegionOpen
import Derived.WalkKit
import Derived.OwnWalkIn
import Derived.TacticsInMore
import Derived.LoopNIn
import Derived.LoopIn
import Derived.Test.YtbfefocehnafgaaGreatModA
import Derived.Test.YtbfefocehnafgaaGreatDeskA
namespace Go.Proofs.YtbfefocehnafgaaGreat.B
set_option maxRecDepth 100000
open Go.ChangeShapes Go.WideShapes Go.ChangeAt Go.RowKit Go.Shelf
attribute [local go_sem] Oper.semAt_some

/-- Whatever lay below n, but for those blocks, lies as it lay. -/
structure Off (n : Nat) (X : List Nat) (W W' : World) : Prop where
  os : W'.os = W.os
  tape : W'.tape = W.tape
  output : W'.output = W.output
  size : W.heap.size ≤ W'.heap.size
  block : ∀ k, k < n → k ∉ X → W'.heap[k]? = W.heap[k]?
theorem Off.refl (n : Nat) (X : List Nat) (W : World) : Off n X W W := ⟨rfl, rfl, rfl, Nat.le_refl _, fun _ _ _ => rfl⟩
theorem Off.trans {n : Nat} {X : List Nat} {a b c : World} (h : Off n X a b) (k : Off n X b c) : Off n X a c := ⟨k.os.trans h.os, k.tape.trans h.tape, k.output.trans h.output, Nat.le_trans h.size k.size, fun i hi hx => (k.block i hi hx).trans (h.block i hi hx)⟩
theorem Off.ext {n : Nat} {X : List Nat} {a b c : World} (h : Off n X a b) (hn : n ≤ b.heap.size) (e : Ext b c) : Off n X a c := h.trans ⟨e.os, e.tape, e.output, e.size, fun i hi _ => e.block i (by omega)⟩
theorem Off.alloc {n : Nat} {X : List Nat} {a b : World} (h : Off n X a b) (hn : n ≤ b.heap.size) (o : Obj) : Off n X a (b.alloc o) := h.ext hn ((Ext.refl b).alloc o)
theorem Off.drew {n : Nat} {X : List Nat} {a b : World} (h : Off n X a b) : Off n X a b.drew := ⟨h.os, h.tape, h.output, h.size, h.block⟩
theorem Off.drewN {n : Nat} {X : List Nat} {a b : World} (h : Off n X a b) (m : Nat) : Off n X a (b.drewN m) := ⟨h.os, h.tape, h.output, h.size, h.block⟩
theorem Off.set {n : Nat} {X : List Nat} {a b : World} (h : Off n X a b) {p : Addr} (hp : p.block ∈ X ∨ n ≤ p.block) (v : Value) : Off n X a (b.setCell p v) :=
  h.trans ⟨rfl, rfl, rfl, by simp [World.setCell], fun i hi hx => Below.heap_setCell _ _ _ _ (fun e => by subst e; rcases hp with hp | hp; exact hx hp; omega)⟩
theorem Off.of_below {n : Nat} {X : List Nat} {a b : World} (h : Below n a b) : Off n X a b := ⟨h.os, h.tape, h.output, h.size, fun k hk _ => h.block k hk⟩
theorem Off.below {n : Nat} {a b : World} (h : Off n [] a b) : Below n a b := ⟨h.os, h.tape, h.output, h.size, fun k hk => h.block k hk (by simp)⟩
theorem Off.low {n m : Nat} {X : List Nat} {a b : World} (h : Off n X a b) (hm : m ≤ n) : Off m X a b := ⟨h.os, h.tape, h.output, h.size, fun k hk hx => h.block k (by omega) hx⟩
theorem offK_b {n : Nat} {X : List Nat} {w : World} (hn : n ≤ w.heap.size) (W : World) (l : Nat) (o o' : Obj) (hl : w.heap.size ≤ l) (h : W.heap[l]? = some o) (h1 : o.isCells = false) (h2 : o.isWalk = false) : Off n X W (W.putObj l o') := by
  have := belowK_b (n₀ := n) (w := w) hn W l o o' hl h h1 h2
  exact ⟨this.os, this.tape, this.output, this.size, fun k hk _ => this.block k hk⟩
theorem Blk.off {n : Nat} {X : List Nat} {W W' : World} {k : Nat} {c : Array Value} {t : TypeId} (h : Blk W k c t) (o : Off n X W W') (hk : k < n) (hx : k ∉ X) : Blk W' k c t := by
  unfold Blk at *; rw [o.block k hk hx]; exact h
theorem MapAt.off {K : Type} {f : K → Value} {n : Nat} {X : List Nat} {W W' : World} {k : Nat} {al : List (K × Value)} (h : MapAt f W k al) (o : Off n X W W') (hk : k < n) (hx : k ∉ X) : MapAt f W' k al := by
  obtain ⟨es, c, h, he⟩ := h
  exact ⟨es, c, by rw [o.block k hk hx]; exact h, he⟩
theorem ints_at {zs : List Int} {W : World} {sb : Nat} {t : TypeId} (h : Blk W sb (ints zs) t) : Ints sb W (some ⟨sb, 0, none⟩) zs := Or.inr ⟨sb, Nat.le_refl _, rfl, fun i hi => by rw [h.cell, ints_get, List.getElem?_eq_getElem hi]; rfl⟩

/-- 'out = append(out, ..)' in a loop's body, where the row is newer than the loop. -/
theorem boxed_off {W w1 : World} {n B : Nat} {t e : TypeId} {size : Nat} {v v' : Value} {k m : Nat} {xs ys : List Value} {tmp : Obj}
    (hv : Boxed W B t v) (hte : t ≠ e) (hrow : W.ownsRow n e size v k xs) (hn : n ≤ W.heap.size) (hB : B ≤ n)
    (hown' : w1.ownsRow n e size v' m ys) (hgrow : (W.alloc tmp).grownBy w1 v.ownBlock) :
    Boxed w1 B t v ∧ Boxed (w1.setCell ⟨B, 0, none⟩ v') B t v' ∧ (w1.setCell ⟨B, 0, none⟩ v').ownsRow n e size v' m ys ∧ KeepsOthers W (w1.setCell ⟨B, 0, none⟩ v') ∧ Below B W (w1.setCell ⟨B, 0, none⟩ v') ∧ Off n [B] W (w1.setCell ⟨B, 0, none⟩ v') := by
  obtain ⟨h1, h2, _, h4, h5⟩ := hv.appended hte (own_base hrow hB) (by omega) (Nat.le_refl _) (own_base hown' hB) hgrow
  refine ⟨h1, h2, hown'.kept (grownBy_setCell' w1 B v') (.inr (h1.not_row hte hown').symm), h4, h5, ?_⟩
  have g1 : Off n [B] W (W.alloc tmp) := (Off.refl n [B] W).alloc hn tmp
  have g2 : Off n [B] (W.alloc tmp) w1 := ⟨hgrow.os, hgrow.tape, hgrow.output, hgrow.size, fun k hk _ => hgrow.block k (by simp; omega) (fun e => by have := own_from hrow k e.symm; omega)⟩
  exact (g1.trans g2).set (Or.inl (by simp)) _
/-- What InState's function reads: its two boxes, the states, the book and its map of Txns. -/
structure InSt (W : World) (bb bs sb cap pb mt mh : Nat) (ps : List Int) (sz : Int) (al : List (Int × Value)) (zs : List Int) : Prop where
  b1 : Blk W bb #[.pointer (some ⟨pb, 0, none⟩)] 87
  b2 : Blk W bs #[.slice (some ⟨sb, 0, none⟩) zs.length cap] 45
  b3 : Blk W sb (ints zs) 3
  b4 : Blk W pb (bookCells ps mt mh sz) 93
  b5 : MapAt keyI W mt al
theorem InSt.off {n : Nat} {X : List Nat} {W W' : World} {bb bs sb cap pb mt mh : Nat} {ps : List Int} {sz : Int} {al : List (Int × Value)} {zs : List Int} (h : InSt W bb bs sb cap pb mt mh ps sz al zs) (o : Off n X W W')
    (hx : ∀ k ∈ [bb, bs, sb, pb, mt], k < n ∧ k ∉ X) : InSt W' bb bs sb cap pb mt mh ps sz al zs :=
  ⟨h.b1.off o (hx bb (by simp)).1 (hx bb (by simp)).2, h.b2.off o (hx bs (by simp)).1 (hx bs (by simp)).2, h.b3.off o (hx sb (by simp)).1 (hx sb (by simp)).2, h.b4.off o (hx pb (by simp)).1 (hx pb (by simp)).2, h.b5.off o (hx mt (by simp)).1 (hx mt (by simp)).2⟩
theorem InSt.ext {W W' : World} {bb bs sb cap pb mt mh : Nat} {ps : List Int} {sz : Int} {al : List (Int × Value)} {zs : List Int} (h : InSt W bb bs sb cap pb mt mh ps sz al zs) (e : Ext W W') : InSt W' bb bs sb cap pb mt mh ps sz al zs :=
  ⟨h.b1.ext e, h.b2.ext e, h.b3.ext e, h.b4.ext e, h.b5.ext e⟩
/-- The Txns up to k whose state is one of these. -/
def ofState (zs : List Int) (st : Int → Int) (k : Nat) : List Int := ((List.range k).map fun j : Nat => (j : Int) + 1).filter fun t => zs.contains (st t)
theorem ofState_succ (zs : List Int) (st : Int → Int) (k : Nat) : ofState zs st (k + 1) = if zs.contains (st ((k : Int) + 1)) then ofState zs st k ++ [(k : Int) + 1] else ofState zs st k := by
  unfold ofState
  rw [List.range_succ, List.map_append, List.filter_append]
  cases h : zs.contains (st ((k : Int) + 1)) <;> simp only [List.map_cons, List.map_nil, List.filter_cons, List.filter_nil, h] <;> simp
theorem ofState_len (zs : List Int) (st : Int → Int) (k : Nat) : (ofState zs st k).length ≤ k := by
  unfold ofState
  exact Nat.le_trans (List.length_filter_le _ _) (by simp)
/-- The three values of a Txn. -/
abbrev txOf (st la : Int → Int) (sa : Int → Option Addr) (sm sc : Int → Nat) (t : Int) : Value := txVal (st t) (la t) (.slice (sa t) (sm t) (sc t))
set_option maxRecDepth 100000 in
set_option maxHeartbeats 4000000 in
theorem inState1_in (m l n : Nat) (X : List Nat) (bb bs sb cap pb mt mh : Nat) (ps : List Int) (sz : Int) (al : List (Int × Value)) (zs : List Int) (st la : Int → Int) (sa : Int → Option Addr) (sm sc : Int → Nat)
    (hl : ps.length = 12) (hz : zs.length ≤ 1000) (hlook : ∀ t, lookI al t (txVal 0 0 (.slice none 0 0)) = txOf st la sa sm sc t) (hX : ∀ k ∈ [bb, bs, sb, pb, mt], k < n ∧ k ∉ X)
    (J Jx : List Int → World → Prop) (W : World) (hm1 : 1 ≤ m) (hn : n ≤ W.heap.size) (hJ : AbidesFrom W.heap.size J)
    (hY : ∀ pre x W1, J pre W1 → pre.length < 9 → YieldAt Fence.wide (m - 1) Tryz.prog l #[.int .i64 x, txOf st la sa sm sc x] W1 fun e W' =>
      (e = .returned (.bool true) ∧ J (pre ++ [x]) W' ∧ Off n X W1 W') ∨ (e = .returned (.bool false) ∧ Jx (pre ++ [x]) W'))
    (hI : InSt W bb bs sb cap pb mt mh ps sz al zs) (h0 : J [] W) :
    CallsIn Fence.wide m Tryz.prog 90 #[.func (.yield l) #[] #[], .pointer (some ⟨bb, 0, none⟩), .pointer (some ⟨bs, 0, none⟩)] W fun e W' => (∃ v, e = .returned v) ∧
      ((∃ ys, ys = ofState zs st 9 ∧ J ys W') ∨ (∃ pre, (∃ k : Nat, k < 9 ∧ zs.contains (st ((k : Int) + 1)) = true ∧ pre = ofState zs st (k + 1)) ∧ Jx pre W')) := by
  refine callsIn_of_wp Tryz.func90 rfl trivial ?_ rfl
  simp only [Tryz.ntmps90, List.size_toArray, List.length_cons, List.length_nil, Nat.reduceAdd, Nat.reduceSub, Array.replicate_succ, Array.replicate_zero, List.push_toArray, List.append_toArray, List.nil_append, List.cons_append]
  gi_wp2
  gi_loopw [4] (fun i wr => ∃ k : Nat, k ≤ 9 ∧ i = .int .i64 ((k : Int) + 1) ∧ J (ofState zs st k) wr ∧ Off n X W wr) (fun i _ => 10 - (intOf i).toNat)
  case atStart => exact ⟨0, by omega, rfl, h0, Off.refl _ _ _⟩
  case round =>
    obtain ⟨k, hk, rfl, hJs, hO⟩ := hrel
    by_cases hlt : k < 9
    · have hI' := hI.off hO hX
      have hnw : n ≤ wr.heap.size := Nat.le_trans hn hO.size
      have c1 : wr.cell? ⟨bb, 0, none⟩ = some (.pointer (some ⟨pb, 0, none⟩)) := by rw [hI'.b1.cell]; rfl
      have c12 : wr.cell? ⟨pb, 12, none⟩ = some (.map (some mt)) := by rw [hI'.b4.cell]; exact (bookCells_12 _ mt mh _ hl).1
      have hrun : (Instr.lookup 90 (.map (some mt)) (.int .i64 ((k : Int) + 1)) false).run Tryz.prog wr = .ok (txOf st la sa sm sc ((k : Int) + 1)) wr := by rw [run_lookI hI'.b5]; exact congrArg (fun v => Result.ok v _) (hlook _)
      have HS := (show Hid _ from ofState_succ zs st k)
      have hJ2 : J (ofState zs st k) (wr.alloc (.cells #[.int .i64 (st ((k : Int) + 1)), .int .i64 (la ((k : Int) + 1)), .slice (sa ((k : Int) + 1)) (sm ((k : Int) + 1)) (sc ((k : Int) + 1))] 98)) := hJ _ _ _ none hJs (World.grownBy_alloc wr _ none) (fun r e => by cases e)
      have hO2 := hO.alloc hnw (.cells #[.int .i64 (st ((k : Int) + 1)), .int .i64 (la ((k : Int) + 1)), .slice (sa ((k : Int) + 1)) (sm ((k : Int) + 1)) (sc ((k : Int) + 1))] 98)
      have hI2 := hI'.ext ((Ext.refl wr).alloc (.cells #[.int .i64 (st ((k : Int) + 1)), .int .i64 (la ((k : Int) + 1)), .slice (sa ((k : Int) + 1)) (sm ((k : Int) + 1)) (sc ((k : Int) + 1))] 98))
      have c2 : (wr.alloc (.cells #[.int .i64 (st ((k : Int) + 1)), .int .i64 (la ((k : Int) + 1)), .slice (sa ((k : Int) + 1)) (sm ((k : Int) + 1)) (sc ((k : Int) + 1))] 98)).cell? ⟨bs, 0, none⟩ = some (.slice (some ⟨sb, 0, none⟩) zs.length cap) := by rw [hI2.b2.cell]; rfl
      have hT := Blk.new wr wr.heap.size #[.int .i64 (st ((k : Int) + 1)), .int .i64 (la ((k : Int) + 1)), .slice (sa ((k : Int) + 1)) (sm ((k : Int) + 1)) (sc ((k : Int) + 1))] 98 rfl
      obtain ⟨fn, tmps, assign, body, hy, hR⟩ := hY _ ((k : Int) + 1) _ hJ2 (by have := ofState_len zs st k; omega)
      dsimp only [txOf, txVal] at hy hrun
      clear hY
      gi_wp2_with fail
      refine ⟨trivial, ?_⟩
      refine (callsIn_wide.2 (contains_any sb (some ⟨sb, 0, none⟩) cap zs (st ((k : Int) + 1)) _ (ints_at hI2.b3) hz)).mono ?_
      rintro e w' ⟨rfl, rfl⟩
      clear hI' c1 c12 hrun hJs hO hJ hI h0
      generalize hw' : wr.alloc (.cells #[.int .i64 (st ((k : Int) + 1)), .int .i64 (la ((k : Int) + 1)), .slice (sa ((k : Int) + 1)) (sm ((k : Int) + 1)) (sc ((k : Int) + 1))] 98) = W2 at *
      generalize hbt : wr.heap.size = bt at *
      have t2 := hT.cell
      cases hc : zs.contains (st ((k : Int) + 1))
      · have HC := (show Hid (zs.contains (st ((k : Int) + 1)) = false) from hc)
        clear hc hR hy
        gi_wp2_with fail
        refine ⟨fun _ h => (by cases h), ?_⟩
        gi_wp2_with fail
        go_roundw
        case rel => exact ⟨k + 1, by omega, by go_num, by rw [HS.out, HC.out]; exact hJ2, hO2⟩
        case measure => simp [intOf]; omega
      · have HC := (show Hid (zs.contains (st ((k : Int) + 1)) = true) from hc)
        have HSk : Hid (ofState zs st (k + 1) = ofState zs st k ++ [(k : Int) + 1]) := by rw [Hid, HS.out, hc]; rfl
        clear hc
        gi_wp2_with fail
        refine hR.mono ?_
        rintro e W3 (⟨rfl, hJ3, hk3⟩ | ⟨rfl, hJx3⟩)
        · gi_wp2_with fail
          go_roundw
          case rel => exact ⟨k + 1, by omega, by go_num, by rw [HSk.out]; exact hJ3, hO2.trans hk3⟩
          case measure => simp [intOf]; omega
        · gi_wp2_with fail
          refine bodyPost_ret (results_none rfl _ _ _) rfl ?_
          exact ⟨⟨_, rfl⟩, .inr ⟨_, ⟨k, hlt, HC.out, HSk.out.symm⟩, hJx3⟩⟩
    · obtain rfl : k = 9 := by omega
      gi_wp2_with fail
      go_end0
      exact ⟨⟨_, rfl⟩, .inl ⟨_, rfl, hJs⟩⟩
/-- InState hands back a function that goes through them. -/
theorem inState_stops (m n : Nat) (X : List Nat) (bb bs sb cap pb mt mh : Nat) (ps : List Int) (sz : Int) (al : List (Int × Value)) (zs : List Int) (st la : Int → Int) (sa : Int → Option Addr) (sm sc : Int → Nat)
    (hl : ps.length = 12) (hz : zs.length ≤ 1000) (hlook : ∀ t, lookI al t (txVal 0 0 (.slice none 0 0)) = txOf st la sa sm sc t) (hX : ∀ k ∈ [bb, bs, sb, pb, mt], k < n ∧ k ∉ X) (w : World) (hm1 : 1 ≤ m) (hn : n ≤ w.heap.size)
    (hI : InSt w bb bs sb cap pb mt mh ps sz al zs) :
    SeqStopsK Fence.wide m Tryz.prog 90 #[.pointer (some ⟨bb, 0, none⟩), .pointer (some ⟨bs, 0, none⟩)] (fun x : Int => #[Value.int .i64 x, txOf st la sa sm sc x]) (Off n X) (fun ys => ys = ofState zs st 9)
      (fun pre => ∃ k : Nat, k < 9 ∧ zs.contains (st ((k : Int) + 1)) = true ∧ pre = ofState zs st (k + 1)) 9 w := fun l J Jx W hW hJ _ hY h0 =>
  inState1_in m l n X bb bs sb cap pb mt mh ps sz al zs st la sa sm sc hl hz hlook hX J Jx W hm1 (Nat.le_trans hn hW.size) hJ hY (hI.ext hW) h0
set_option maxHeartbeats 1000000 in
theorem inState_any (pb sb len cap : Nat) (w : World) :
    Calls Tryz.prog 58 #[.pointer (some ⟨pb, 0, none⟩), .slice (some ⟨sb, 0, none⟩) len cap] w fun e w' => e = .returned (.func (.func 90) #[] #[.pointer (some ⟨w.heap.size, 0, none⟩), .pointer (some ⟨w.heap.size + 1, 0, none⟩)]) ∧
      w' = (w.alloc (.cells #[.pointer (some ⟨pb, 0, none⟩)] 87)).alloc (.cells #[.slice (some ⟨sb, 0, none⟩) len cap] 45) := by
  go_enter Tryz.func58, Tryz.ntmps58
  go_wp2_with fail
  go_ret
  exact ⟨rfl, rfl⟩
/-- A book tells of each Txn how far it is, and its last record. -/
theorem BookOk.looks {w : World} {base pb mt mh : Nat} {l : List Rc} {tx : List TxE} {ho : List ((Int × Int) × (Int × Int))} (h : BookOk w base pb mt mh l tx ho) :
    ∃ (sa : Int → Option Addr) (sm sc : Int → Nat), ∀ t, lookI (tx.map TxE.ent) t (txVal 0 0 (.slice none 0 0)) = txOf (stateR l) (fun t => (lastR l t : Nat)) sa sm sc t := by
  have : ∀ t, ∃ y : Option Addr × Nat × Nat, lookI (tx.map TxE.ent) t (txVal 0 0 (.slice none 0 0)) = txVal (stateR l t) (lastR l t : Nat) (.slice y.1 y.2.1 y.2.2) := fun t => by
    obtain ⟨sv, h1, h2, _⟩ := h.look t
    obtain ⟨a, m, c, rfl⟩ := own_slice h2
    exact ⟨(a, m, c), h1⟩
  exact ⟨fun t => (Classical.choose (this t)).1, fun t => (Classical.choose (this t)).2.1, fun t => (Classical.choose (this t)).2.2, fun t => Classical.choose_spec (this t)⟩
end Go.Proofs.YtbfefocehnafgaaGreat.B
