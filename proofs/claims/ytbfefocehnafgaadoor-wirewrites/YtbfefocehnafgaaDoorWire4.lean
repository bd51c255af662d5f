/- Numbers taken off the tape: the contract of take. -/
import Derived.Test.YtbfefocehnafgaaDoorWire3
namespace Go.Proofs.YtbfefocehnafgaaDoor.B
set_option maxRecDepth 100000
open Go.ChangeShapes Go.WideShapes Go.ChangeAt Go.RowKit

/-- But for two blocks all that lay there is as it was. -/
structure Fr2 (x y : Nat) (w w' : World) : Prop where
  os : w'.os = w.os
  tape : w'.tape = w.tape
  output : w'.output = w.output
  size : w.heap.size ≤ w'.heap.size
  block : ∀ k, k < w.heap.size → k ≠ x → k ≠ y → w'.heap[k]? = w.heap[k]?
theorem Fr2.refl (x y : Nat) (w : World) : Fr2 x y w w := ⟨rfl, rfl, rfl, Nat.le_refl _, fun _ _ _ _ => rfl⟩
theorem Fr2.trans {x y : Nat} {a b c : World} (h : Fr2 x y a b) (k : Fr2 x y b c) : Fr2 x y a c :=
  ⟨k.os.trans h.os, k.tape.trans h.tape, k.output.trans h.output, Nat.le_trans h.size k.size, fun i hi h1 h2 => by rw [k.block i (by have := h.size; omega) h1 h2, h.block i hi h1 h2]⟩
theorem Fr2.ext {x y : Nat} {a b c : World} (h : Fr2 x y a b) (e : Ext b c) : Fr2 x y a c := h.trans ⟨e.os, e.tape, e.output, e.size, fun i hi _ _ => e.block i hi⟩
theorem Fr2.set {x y : Nat} {a b : World} (h : Fr2 x y a b) {p : Addr} (hp : p.block = x ∨ p.block = y) (v : Value) : Fr2 x y a (b.setCell p v) :=
  h.trans ⟨rfl, rfl, rfl, by simp, fun i _ h1 h2 => Below.heap_setCell _ _ _ _ (by rcases hp with e | e <;> omega)⟩
theorem Fr2.below {x y base : Nat} {a b : World} (h : Fr2 x y a b) (hx : base ≤ x) (hy : base ≤ y) (hb : base ≤ a.heap.size) : Below base a b := ⟨h.os, h.tape, h.output, h.size, fun k hk => h.block k (by omega) (by omega) (by omega)⟩
theorem Blk.fr2 {x y : Nat} {a b : World} {k : Nat} {c : Array Value} {t : TypeId} (h : Blk a k c t) (f : Fr2 x y a b) (h1 : k ≠ x) (h2 : k ≠ y) : Blk b k c t := by
  unfold Blk; rw [f.block k h.lt h1 h2]; exact h
/-- A row of bytes. -/
def Is8 (w : World) (k : Nat) : Prop := ∃ c f, w.heap[k]? = some (.cells c 5 f)
theorem Is8.lt {w : World} {k : Nat} (h : Is8 w k) : k < w.heap.size := by
  obtain ⟨c, f, h⟩ := h
  by_cases hb : k < w.heap.size
  · exact hb
  · have : w.heap[k]? = none := by simp; omega
    rw [this] at h; cases h
theorem Is8.ne {w : World} {k j : Nat} (h : Is8 w k) (hj : Not8 w j) : k ≠ j := fun e => by
  obtain ⟨c, f, h⟩ := h
  rw [e] at h
  exact hj c f h
/-- The tape: what is still to be read. -/
structure Rd (bt : Nat) (bs : List UInt8) (w : World) : Prop where
  there : ∃ bb off cap, Blk w bt #[.slice (some ⟨bb, off, none⟩) bs.length cap] 57 ∧ bs.length ≤ cap ∧ cap ≤ maxLen ∧ Is8 w bb ∧ ∀ i, (h : i < bs.length) → w.cell? ⟨bb, off + i, none⟩ = some (.int .u8 (bs[i].toNat : Int))
theorem Rd.lt {bt : Nat} {bs : List UInt8} {w : World} (h : Rd bt bs w) : bt < w.heap.size := by obtain ⟨_, _, _, h, _⟩ := h.there; exact h.lt
theorem Rd.ext {bt : Nat} {bs : List UInt8} {w w' : World} (h : Rd bt bs w) (e : Ext w w') : Rd bt bs w' := by
  obtain ⟨bb, off, cap, h1, h2, h3, h4, h5⟩ := h.there
  have hl := h4.lt
  obtain ⟨c, f, h4⟩ := h4
  exact ⟨bb, off, cap, h1.ext e, h2, h3, ⟨c, f, by rw [e.block bb hl]; exact h4⟩, fun i hi => e.cell (h5 i hi)⟩
theorem Rd.set {bt bq : Nat} {bs : List UInt8} {w : World} (h : Rd bt bs w) (hq : bq ≠ bt) (hn : Not8 w bq) (o : Nat) (v : Value) : Rd bt bs (w.setCell ⟨bq, o, none⟩ v) := by
  obtain ⟨bb, off, cap, h1, h2, h3, h4, h5⟩ := h.there
  have hne := h4.ne hn
  obtain ⟨c, f, h4⟩ := h4
  have he : (w.setCell ⟨bq, o, none⟩ v).heap[bb]? = w.heap[bb]? := Below.heap_setCell _ _ _ _ hne
  refine ⟨bb, off, cap, h1.other _ _ (Ne.symm hq), h2, h3, ⟨c, f, by rw [he]; exact h4⟩, fun i hi => ?_⟩
  have := h5 i hi
  simp only [World.cell?, he] at this ⊢
  exact this
/-- Cells that are laid, one behind the other. -/
def setN (c : Array Value) (o : Nat) : List UInt8 → Array Value
  | [] => c
  | b :: bs => setN (c.setIfInBounds o (.int .i64 (b.toNat : Int))) (o + 1) bs
theorem setN_snoc (b : UInt8) : ∀ (bs : List UInt8) (c : Array Value) (o : Nat), setN c o (bs ++ [b]) = (setN c o bs).setIfInBounds (o + bs.length) (.int .i64 (b.toNat : Int)) := by
  intro bs
  induction bs with
  | nil => intro c o; rfl
  | cons x xs ih => intro c o; show setN _ (o + 1) (xs ++ [b]) = _; rw [ih]; show _ = (setN _ (o + 1) xs).setIfInBounds (o + (xs.length + 1)) _; rw [show o + 1 + xs.length = o + (xs.length + 1) from by omega]
theorem setN_size : ∀ (bs : List UInt8) (c : Array Value) (o : Nat), (setN c o bs).size = c.size := by
  intro bs
  induction bs with
  | nil => intro c o; rfl
  | cons x xs ih => intro c o; show (setN _ (o + 1) xs).size = _; rw [ih]; simp
theorem setN_app : ∀ (bs cs : List UInt8) (c : Array Value) (o : Nat), setN c o (bs ++ cs) = setN (setN c o bs) (o + bs.length) cs := by
  intro bs
  induction bs with
  | nil => intro cs c o; rfl
  | cons x xs ih => intro cs c o; show setN _ (o + 1) (xs ++ cs) = setN (setN _ (o + 1) xs) (o + (xs.length + 1)) cs; rw [ih, show o + 1 + xs.length = o + (xs.length + 1) from by omega]
theorem drop_cons (bs : List UInt8) (k : Nat) (h : k < bs.length) : bs.drop k = bs[k] :: bs.drop (k + 1) := List.drop_eq_getElem_cons h
theorem rd_cons {bt : Nat} {u : UInt8} {rest : List UInt8} {w : World} (h : Rd bt (u :: rest) w) : ∃ bb off cap, Blk w bt #[.slice (some ⟨bb, off, none⟩) (rest.length + 1) cap] 57 ∧ rest.length + 1 ≤ cap ∧ cap ≤ maxLen ∧ Is8 w bb ∧ w.cell? ⟨bb, off, none⟩ = some (.int .u8 (u.toNat : Int)) ∧ ∀ i, (h : i < rest.length) → w.cell? ⟨bb, off + 1 + i, none⟩ = some (.int .u8 (rest[i].toNat : Int)) := by
  obtain ⟨bb, off, cap, h1, h2, h3, h4, h5⟩ := h.there
  refine ⟨bb, off, cap, h1, h2, h3, h4, h5 0 (by simp), fun i hi => ?_⟩
  have := h5 (i + 1) (by simpa using hi)
  rw [show off + 1 + i = off + (i + 1) from by omega, this]
  rfl
theorem setN_get : ∀ (bs : List UInt8) (c : Array Value) (o j : Nat), (setN c o bs)[o + bs.length + j]? = c[o + bs.length + j]? := by
  intro bs
  induction bs with
  | nil => intro c o j; rfl
  | cons x xs ih =>
    intro c o j
    have := ih (c.setIfInBounds o (.int .i64 (x.toNat : Int))) (o + 1) j
    rw [show o + (x :: xs).length + j = o + 1 + xs.length + j from by rw [List.length_cons]; omega]
    show (setN _ (o + 1) xs)[_]? = _
    rw [this, Array.getElem?_setIfInBounds_ne (by omega)]
theorem setN_at (bs : List UInt8) (c : Array Value) (o k : Nat) (h : k ≤ bs.length) : (setN c o (bs.take k))[o + k]? = c[o + k]? := by
  have := setN_get (bs.take k) c o 0
  rw [List.length_take, Nat.min_eq_left h] at this
  exact this
theorem rd_next {bt bb off cap : Nat} {v : Value} {rest : List UInt8} {W : World} (T : Blk W bt #[v] 57) (h8 : Is8 W bb) (hl : rest.length + 1 ≤ cap) (hm : cap ≤ maxLen) (hc : ∀ i, (h : i < rest.length) → W.cell? ⟨bb, off + 1 + i, none⟩ = some (.int .u8 (rest[i].toNat : Int))) :
    Rd bt rest (W.setCell ⟨bt, 0, none⟩ (.slice (if cap = 1 then some ⟨bb, off, none⟩ else some ⟨bb, off + 1, none⟩) rest.length (cap - 1))) := by
  have hne := h8.ne (T.not8 (by decide))
  have he : ∀ v, (W.setCell ⟨bt, 0, none⟩ v).heap[bb]? = W.heap[bb]? := fun v => Below.heap_setCell _ _ _ _ hne
  obtain ⟨c, f, h8⟩ := h8
  have ha : (if cap = 1 then some (⟨bb, off, none⟩ : Addr) else some ⟨bb, off + 1, none⟩) = some ⟨bb, if cap = 1 then off else off + 1, none⟩ := by split <;> rfl
  rw [ha]
  refine ⟨bb, _, cap - 1, T.set 0 _, by omega, by omega, ⟨c, f, by rw [he]; exact h8⟩, fun i hi => ?_⟩
  have h1 : ¬ cap = 1 := by omega
  rw [if_neg h1]
  have := hc i hi
  simp only [World.cell?, he] at this ⊢
  exact this
/-- What lies in the variable that is thrown where the bytes end too early. -/
def Early (w : World) : Prop := ∃ t v, w.cell? ⟨0, 0, none⟩ = some (.iface t v)
theorem Early.ext {w w' : World} (h : Early w) (e : Ext w w') : Early w' := by obtain ⟨t, v, h⟩ := h; exact ⟨t, v, e.cell h⟩
theorem Early.below {w w' : World} {n : Nat} (h : Early w) (e : Below n w w') (hn : 0 < n) : Early w' := by
  obtain ⟨t, v, h⟩ := h
  refine ⟨t, v, ?_⟩
  rw [Below.cell e (p := ⟨0, 0, none⟩) hn]; exact h
theorem Early.fr2 {w w' : World} {x y : Nat} (h : Early w) (f : Fr2 x y w w') (hx : 0 < x) (hy : 0 < y) : Early w' := by
  obtain ⟨t, v, h⟩ := h
  have hl := cell_lt h
  refine ⟨t, v, ?_⟩
  simp only [World.cell?, f.block 0 hl (by omega) (by omega)] at h ⊢
  exact h
set_option maxHeartbeats 4000000 in
theorem tapeTake_any (bt : Nat) (bs : List UInt8) (pb po n pc bq o : Nat) (c : Array Value) (tq : TypeId) (w : World) (T : Rd bt bs w) (hE : Early w)
    (hp : ∀ i, i < n → w.cell? ⟨pb, po + i, none⟩ = some (.pointer (some ⟨bq, o + i, none⟩))) (B : Blk w bq c tq) (hc : ∀ i, i < n → ∃ x, c[o + i]? = some (.int .i64 x)) (htq : (tq == 5) = false)
    (hqt : bq ≠ bt) (hqp : bq ≠ pb) (hpt : pb ≠ bt) (hpl : pb < w.heap.size) (h0t : 0 < bt) (h0q : 0 < bq) (hn : n ≤ 100) :
    Calls Tryd.prog 28 #[.pointer (some ⟨bt, 0, none⟩), .slice (some ⟨pb, po, none⟩) n pc] w fun e w' => Fr2 bt bq w w' ∧
      ((n ≤ bs.length ∧ e = .returned (.tuple #[]) ∧ Rd bt (bs.drop n) w' ∧ Blk w' bq (setN c o (bs.take n)) tq) ∨
        (bs.length < n ∧ (∃ t v, e = .panicked [{ v := .iface t v, recovered := false }]) ∧ Blk w' bq (setN c o bs) tq)) := by
  go_enter Tryd.func28, Tryd.ntmps28
  go_wp2_with fail
  go_loopw [8] (fun i wr => ∃ (k : Nat), k ≤ n ∧ k ≤ bs.length ∧ i = .int .i64 k ∧ Rd bt (bs.drop k) wr ∧ Blk wr bq (setN c o (bs.take k)) tq ∧ Fr2 bt bq w wr) (fun i _ => n - (intOf i).toNat)
  case atStart => exact ⟨0, Nat.zero_le _, Nat.zero_le _, rfl, by simpa using T, B, Fr2.refl _ _ _⟩
  case round =>
    obtain ⟨k, hk, hkb, rfl, hR, hB, hF⟩ := hrel
    by_cases hlt : k < n
    · have hpk : wr.cell? ⟨pb, po + k, none⟩ = some (.pointer (some ⟨bq, o + k, none⟩)) := by
        have := hp k hlt
        rw [← this]
        simp only [World.cell?, hF.block pb hpl hpt (Ne.symm hqp)]
      by_cases hlb : k < bs.length
      · rw [drop_cons bs k hlb] at hR
        have HT : Hid (setN c o (bs.take (k + 1)) = (setN c o (bs.take k)).setIfInBounds (o + k) (.int .i64 (bs[k].toNat : Int))) := by
          show _ = _
          rw [List.take_succ_eq_append_getElem hlb, setN_snoc, List.length_take, Nat.min_eq_left (by omega)]
        obtain ⟨y, hy⟩ := hc k hlt
        have hyc : (setN c o (bs.take k))[o + k]? = some (.int .i64 y) := by rw [setN_at bs c o k hkb]; exact hy
        obtain ⟨bb, off, cap, T1, g1, g2, g3, h8, hrest⟩ := rd_cons hR
        have hu := (bs[k]).toNat_lt
        obtain ⟨x, hx⟩ : ∃ x : Int, ((bs[k].toNat : Nat) : Int) = x := ⟨_, rfl⟩
        rw [hx] at h8 HT
        have hxr : 0 ≤ x ∧ x < 256 := by omega
        have HRest := (show Hid _ from hrest)
        clear hR hrest hx hu hy
        generalize hrs : bs.drop (k + 1) = rest at *
        have HR2 := (show Hid _ from hrs)
        clear hrs
        generalize setN c o (bs.take k) = cc at *
        have q0 : wr.cell? ⟨bq, o + k, none⟩ = some (.int .i64 y) := by rw [hB.cell]; exact hyc
        have T2 := T1.other ⟨bq, o + k, none⟩ (.int .i64 x) (Ne.symm hqt)
        have t2 := T2.cell
        have f2 := T2.fr
        have t1 := T1.cell
        have f1 := T1.fr
        have q2 := hB.fr
        unfold maxLen at g2
        go_wp2_with fail
        have hbq := g3.ne (hB.not8 htq)
        have he : (wr.setCell ⟨bq, o + k, none⟩ (.int .i64 x)).heap[bb]? = wr.heap[bb]? := Below.heap_setCell _ _ _ _ hbq
        go_roundw
        case rel =>
          refine ⟨k + 1, by omega, by omega, by go_num, ?_, ?_, (hF.set (Or.inr rfl) _).set (Or.inl rfl) _⟩
          · rw [HR2.out]
            refine rd_next T2 ?_ g1 (by unfold maxLen; omega) fun i hi => ?_
            · obtain ⟨c8, f8, g3⟩ := g3
              exact ⟨c8, f8, by rw [he]; exact g3⟩
            · have := HRest.out i hi
              simp only [World.cell?, he] at this ⊢
              exact this
          · rw [HT.out]
            exact (hB.set (o + k) (.int .i64 x)).other _ _ hqt
        case measure => simp [intOf]; omega
      · have hke : k = bs.length := by omega
        subst hke
        obtain ⟨bb, off, cap, T1, _⟩ := hR.there
        rw [List.drop_length] at T1
        rw [List.take_length] at hB
        have HB := (show Hid _ from hB)
        have t1 := T1.cell
        obtain ⟨te, ve, hev⟩ := hE.fr2 hF h0t h0q
        clear hR hB
        go_wp2_with fail
        exact ⟨rfl, hF, Or.inr ⟨hlt, ⟨te, ve, rfl⟩, HB.out⟩⟩
    · have hkn : k = n := by omega
      subst hkn
      go_wp2_with fail
      refine bodyPost_end (results_none rfl _ _ _) rfl ?_
      exact ⟨hF, Or.inl ⟨hkb, rfl, hR, hB⟩⟩
end Go.Proofs.YtbfefocehnafgaaDoor.B
