/- Bytes in a row of the call's own; the contract of the tape's put. -/
import Derived.Test.YtbfefocehnafgaaDoorWire0
import Derived.Test.YtbfefocehnafgaaDoorDeskB
import Derived.Laws.IdiomStrings
namespace Go.Proofs.YtbfefocehnafgaaDoor.B
set_option maxRecDepth 100000
open Go.ChangeShapes Go.WideShapes Go.ChangeAt Go.RowKit

/-- Bytes as values. -/
def bvs (bs : List UInt8) : List Value := bs.map fun b => Value.int .u8 (b.toNat : Int)
theorem bvs_len (bs : List UInt8) : (bvs bs).length = bs.length := by simp [bvs]
theorem bvs_app (a b : List UInt8) : bvs (a ++ b) = bvs a ++ bvs b := by simp [bvs]
theorem byt_nat (x : Int) : (((byt x).toNat : Nat) : Int) = x % 256 := by
  unfold byt
  rw [UInt8.toNat_ofNat']
  omega
theorem bvs_snoc (bs : List UInt8) (x : Int) : bvs (bs ++ [byt x]) = bvs bs ++ [.int .u8 (x % 256)] := by rw [bvs_app]; simp [bvs, byt_nat]
theorem infoByte : (Tryd.prog.info? 5).map (fun i => (i.zero, i.size, i.bytes)) = some (some (.int .u8 0), 1, 1) := by kernel_rfl
/-- A block that is no row of bytes. -/
def Not8 (w : World) (k : Nat) : Prop := ∀ c f, w.heap[k]? ≠ some (.cells c 5 f)
theorem Blk.not8 {w : World} {k : Nat} {c : Array Value} {t : TypeId} (h : Blk w k c t) (ht : (t == 5) = false) : Not8 w k := fun c' f e => by
  unfold Blk at h
  rw [h] at e
  injection e with e
  injection e with _ e _
  rw [e] at ht
  simp at ht
/-- But for the tape's box and rows of bytes from base on, all that lay there is as it was. -/
structure Tp (base bt : Nat) (w w' : World) : Prop where
  os : w'.os = w.os
  tape : w'.tape = w.tape
  output : w'.output = w.output
  size : w.heap.size ≤ w'.heap.size
  low : ∀ k, k < base → w'.heap[k]? = w.heap[k]?
  block : ∀ k, k < w.heap.size → k ≠ bt → Not8 w k → w'.heap[k]? = w.heap[k]?
theorem Tp.refl (base bt : Nat) (w : World) : Tp base bt w w := ⟨rfl, rfl, rfl, Nat.le_refl _, fun _ _ => rfl, fun _ _ _ _ => rfl⟩
theorem Tp.trans {base bt : Nat} {a b c : World} (h : Tp base bt a b) (k : Tp base bt b c) : Tp base bt a c :=
  ⟨k.os.trans h.os, k.tape.trans h.tape, k.output.trans h.output, Nat.le_trans h.size k.size, fun i hi => (k.low i hi).trans (h.low i hi), fun i hi hb ho => by
    have e := h.block i hi hb ho
    rw [k.block i (by have := h.size; omega) hb (fun c f => by rw [e]; exact ho c f), e]⟩
theorem Tp.ext {base bt : Nat} {a b c : World} (h : Tp base bt a b) (hb : base ≤ b.heap.size) (e : Ext b c) : Tp base bt a c :=
  h.trans ⟨e.os, e.tape, e.output, e.size, fun i hi => e.block i (by omega), fun i hi _ _ => e.block i hi⟩
theorem Tp.below {base bt : Nat} {w w' : World} (h : Tp base bt w w') : Below base w w' := ⟨h.os, h.tape, h.output, h.size, h.low⟩
theorem Blk.tp {base bt : Nat} {w w' : World} {k : Nat} {c : Array Value} {t : TypeId} (h : Blk w k c t) (p : Tp base bt w w') (h1 : k ≠ bt) (ht : (t == 5) = false) : Blk w' k c t := by
  unfold Blk; rw [p.block k h.lt h1 (h.not8 ht)]; exact h
/-- Numbers in memory, from a place on. -/
def NumsIn (w : World) (nb no : Nat) (ns : List Int) : Prop := ∀ i, (h : i < ns.length) → w.cell? ⟨nb, no + i, none⟩ = some (.int .i64 ns[i])
theorem own_other {w : World} {base : Nat} {e : TypeId} {size : Nat} {v : Value} {n : Nat} {xs : List Value} (h : w.ownsRow base e size v n xs) {p : Addr} (hp : v.ownBlock ≠ some p.block) (u : Value) : (w.setCell p u).ownsRow base e size v n xs := by
  refine ⟨h.1, ?_⟩
  rcases h.2 with h0 | ⟨g, cap, cur, rfl, hg, hb, h1, h2, h3, h4⟩
  · exact Or.inl h0
  · refine Or.inr ⟨g, cap, cur, rfl, hg, ?_, h1, h2, h3, h4⟩
    rw [Below.heap_setCell _ _ _ _ (fun e => hp (by simp [Value.ownBlock, e]))]
    exact hb
theorem slice_of {w : World} {base n : Nat} {e : TypeId} {v : Value} {xs : List Value} (h : w.ownsRow base e 1 v n xs) : ∃ a cap, v = .slice a n cap := by
  rcases h.2 with ⟨rfl, h0⟩ | ⟨g, cap, cur, rfl, _⟩
  · exact ⟨none, 0, by rw [h0]⟩
  · exact ⟨_, _, rfl⟩
theorem Blk.grown {w w' : World} {row : Option Nat} {k : Nat} {c : Array Value} {t : TypeId} (h : Blk w k c t) (g : w.grownBy w' row) (hn : row ≠ some k) : Blk w' k c t := by
  unfold Blk; rw [g.block k h.lt (fun e => hn e.symm)]; exact h
/-- A row of bytes is no block of another kind. -/
theorem own_not {w : World} {base n k : Nat} {v : Value} {xs : List Value} (h : w.ownsRow base 5 1 v n xs) (hk : Not8 w k) : v.ownBlock ≠ some k := fun e => by
  rcases h.2 with ⟨rfl, _⟩ | ⟨g, cap, cur, rfl, _, hb, _⟩
  · simp [Value.ownBlock] at e
  · simp [Value.ownBlock] at e
    subst e
    exact hk _ _ hb
/-- The tape: its box, and the bytes that it leads to. -/
structure Tape (base bt : Nat) (bs : List UInt8) (w : World) : Prop where
  ge : base ≤ bt
  there : ∃ v, Blk w bt #[v] 57 ∧ w.ownsRow base 5 1 v bs.length (bvs bs)
theorem Tape.lt {base bt : Nat} {bs : List UInt8} {w : World} (h : Tape base bt bs w) : bt < w.heap.size := by obtain ⟨v, h, _⟩ := h.there; exact h.lt
theorem Tape.ext {base bt : Nat} {bs : List UInt8} {w w' : World} (h : Tape base bt bs w) (e : Ext w w') : Tape base bt bs w' := by
  obtain ⟨v, h1, h2⟩ := h.there
  exact ⟨h.ge, v, h1.ext e, own_ext h2 e⟩
set_option maxHeartbeats 4000000 in
theorem tapePut_any (base bt : Nat) (bs : List UInt8) (nb no n c : Nat) (ns : List Int) (w : World) (T : Tape base bt bs w)
    (hn : NumsIn w nb no ns) (hnl : ns.length = n) (hnb : nb < w.heap.size) (h1 : nb ≠ bt) (h2 : Not8 w nb) (hl : bs.length + n ≤ 100000) :
    Calls Tryd.prog 23 #[.pointer (some ⟨bt, 0, none⟩), .slice (some ⟨nb, no, none⟩) n c] w fun e w' => e = .returned (.tuple #[]) ∧ Tape base bt (bs ++ ns.map byt) w' ∧ Tp base bt w w' := by
  obtain ⟨i0, hi, hz0, hz1, hz2⟩ := info_parts infoByte
  have HI := (show Hid _ from hi)
  have Z0 := (show Hid _ from hz0)
  have Z1 := (show Hid _ from hz1)
  have Z2 := (show Hid _ from hz2)
  clear hi hz0 hz1 hz2
  have hbt := T.lt
  have hge := T.ge
  go_enter Tryd.func23, Tryd.ntmps23
  go_wp2_with fail
  go_loopw [8] (fun i wr => ∃ (k : Nat), k ≤ n ∧ i = .int .i64 k ∧ Tape base bt (bs ++ (ns.take k).map byt) wr ∧ Tp base bt w wr) (fun i _ => n - (intOf i).toNat)
  case atStart => exact ⟨0, Nat.zero_le _, rfl, by simpa using T, Tp.refl _ _ _⟩
  case round =>
    obtain ⟨k, hk, rfl, hTp, hT⟩ := hrel
    by_cases hlt : k < n
    · have hkl : k < ns.length := by omega
      have hc : wr.cell? ⟨nb, no + k, none⟩ = some (.int .i64 ns[k]) := by
        have := hn k hkl
        rw [← this]
        simp only [World.cell?, hT.block nb hnb h1 h2]
      have HS : Hid ((ns.take (k + 1)).map byt = (ns.take k).map byt ++ [byt ns[k]]) := by show _ = _; rw [List.take_succ_eq_append_getElem hkl, List.map_append]; rfl
      have HL : (bs ++ (ns.take k).map byt).length ≤ 100000 := by simp; omega
      generalize ns[k] = x at *
      generalize hcs : bs ++ (ns.take k).map byt = cs at *
      have HC : Hid (bs ++ (ns.take (k + 1)).map byt = cs ++ [byt x]) := by show _ = _; rw [HS.out, ← List.append_assoc, hcs]
      clear hcs HS
      obtain ⟨v1, T1, own1⟩ := hTp.there
      obtain ⟨av, cv, rfl⟩ := slice_of own1
      have t1 := T1.cell
      have T2 := T1.alloc (.cells #[.int .u8 (x % 256)] 5)
      have HB1 := (show Hid _ from own_not own1 (T1.not8 (by decide)))
      have hsz := hT.size
      have hbr : base ≤ wr.heap.size := by omega
      clear hTp
      go_wp2_with (at_builtin; refine wpList_append_own _ rfl _ _ 57 rfl base 5 i0 (.int .u8 0) 1 1 Tryd.underlying57 HI.out Z0.out Z1.out Z2.out rfl (by decide) (.slice av cs.length cv) cs.length (bvs cs) rfl (own1.alloc _) ⟨wr.heap.size, 0, none⟩ 1 1 [.int .u8 (x % 256)] rfl rfl (cells_new _ [.int .u8 (x % 256)] _ _ rfl) (fun x hx => by simp at hx; subst hx; rfl) (by unfold maxLen; omega) (by omega) (by simp; omega) ?_; intro v' w3 hown' hgrow3 _; obtain ⟨av', cv', rfl⟩ := slice_of hown'; have T3 := T2.grown hgrow3 HB1.out; have f3 := T3.fr; have c3 := T3.cell)
      have HO := own_not hown' (T3.not8 (by decide))
      have T4 := T3.set 0 (.slice av' (cs.length + 1) cv')
      have O4 := own_other hown' (p := ⟨bt, 0, none⟩) HO (.slice av' (cs.length + 1) cv')
      have P4 : Tp base bt wr (w3.setCell ⟨bt, 0, none⟩ (.slice av' (cs.length + 1) cv')) := by
        have hs3 := hgrow3.size
        simp at hs3
        refine ⟨hgrow3.os, hgrow3.tape, hgrow3.output, by simp; omega, fun k hk => ?_, fun k hk hkb hk8 => ?_⟩
        · rw [Below.heap_setCell _ _ _ _ (show k ≠ bt by omega), hgrow3.block k (by simp; omega) (fun e => by have := own_ge own1 k e.symm; omega)]
          exact ((Ext.refl wr).alloc _).block k (by omega)
        · rw [Below.heap_setCell _ _ _ _ hkb, hgrow3.block k (by simp; omega) (fun e => own_not own1 hk8 e.symm)]
          exact ((Ext.refl wr).alloc _).block k hk
      go_roundw
      case rel =>
        refine ⟨k + 1, by omega, by go_num, ⟨hge, _, T4, ?_⟩, hT.trans P4⟩
        rw [HC.out, bvs_snoc, List.length_append]
        exact O4
      case measure => simp [intOf]; omega
    · have HF : Hid (ns.take k = ns) := List.take_of_length_le (by omega)
      rw [HF.out] at hTp
      go_wp2_with fail
      refine bodyPost_end (results_none rfl _ _ _) rfl ?_
      exact ⟨rfl, hTp, hT⟩
end Go.Proofs.YtbfefocehnafgaaDoor.B
