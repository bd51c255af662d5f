/- A record taken off the tape: the contract of takeRec. -/
import Derived.Test.YtbfefocehnafgaaDoorWire4
namespace Go.Proofs.YtbfefocehnafgaaDoor.B
set_option maxRecDepth 100000
open Go.ChangeShapes Go.WideShapes Go.ChangeAt Go.RowKit

theorem ptrs_blk {w : World} {b bq o : Nat} {t : TypeId} {n : Nat} {c : Array Value} (h : Blk w b c t) (hc : ∀ i, i < n → c[i]? = some (.pointer (some ⟨bq, o + i, none⟩))) : ∀ i, i < n → w.cell? ⟨b, 0 + i, none⟩ = some (.pointer (some ⟨bq, o + i, none⟩)) := fun i hi => by
  rw [h.cell, Nat.zero_add]; exact hc i hi
theorem lt1 {i : Nat} (h : i < 1) : i = 0 := by omega
theorem lt3 {i : Nat} (h : i < 3) : i = 0 ∨ i = 1 ∨ i = 2 := by omega
theorem lt4 {i : Nat} (h : i < 4) : i = 0 ∨ i = 1 ∨ i = 2 ∨ i = 3 := by omega
/-- What takeRec answers: the record, or the bytes end too early. -/
def RecAns (bt : Nat) (bs : List UInt8) (w' : World) (e : Ending) : Prop :=
  (recLen (byteAt bs 0) ≤ bs.length ∧ e = .returned (rdRec bs).val ∧ Rd bt (bs.drop (recLen (byteAt bs 0))) w') ∨ (bs.length < recLen (byteAt bs 0) ∧ ∃ t v, e = .panicked [{ v := .iface t v, recovered := false }])
theorem rd_3 (u0 u1 u2 v0 v1 v2 v3 y : UInt8) (rest : List UInt8) (h : (u0.toNat : Int) = 3) : recLen (byteAt (u0 :: u1 :: u2 :: v0 :: v1 :: v2 :: v3 :: y :: rest) 0) = 8 ∧ rdRec (u0 :: u1 :: u2 :: v0 :: v1 :: v2 :: v3 :: y :: rest) = ⟨u0.toNat, u1.toNat, u2.toNat, v0.toNat, v1.toNat, v2.toNat, v3.toNat, y.toNat⟩ := by
  have hb : byteAt (u0 :: u1 :: u2 :: v0 :: v1 :: v2 :: v3 :: y :: rest) 0 = 3 := h
  unfold recLen rdRec
  rw [if_pos hb, if_pos hb]
  exact ⟨rfl, rfl⟩
theorem rd_1 (u0 u1 u2 v0 v1 v2 v3 : UInt8) (rest : List UInt8) (h : (u0.toNat : Int) = 1) : recLen (byteAt (u0 :: u1 :: u2 :: v0 :: v1 :: v2 :: v3 :: rest) 0) = 7 ∧ rdRec (u0 :: u1 :: u2 :: v0 :: v1 :: v2 :: v3 :: rest) = ⟨u0.toNat, u1.toNat, u2.toNat, v0.toNat, v1.toNat, v2.toNat, v3.toNat, 0⟩ := by
  have hb : byteAt (u0 :: u1 :: u2 :: v0 :: v1 :: v2 :: v3 :: rest) 0 = 1 := h
  unfold recLen rdRec
  rw [if_neg (by rw [hb]; decide), if_pos hb, if_neg (by rw [hb]; decide), if_pos hb]
  exact ⟨rfl, rfl⟩
theorem rd_0 (u0 u1 u2 : UInt8) (rest : List UInt8) (h3 : (u0.toNat : Int) ≠ 3) (h1 : (u0.toNat : Int) ≠ 1) : recLen (byteAt (u0 :: u1 :: u2 :: rest) 0) = 3 ∧ rdRec (u0 :: u1 :: u2 :: rest) = ⟨u0.toNat, u1.toNat, u2.toNat, 0, 0, 0, 0, 0⟩ := by
  have hb3 : ¬ byteAt (u0 :: u1 :: u2 :: rest) 0 = 3 := h3
  have hb1 : ¬ byteAt (u0 :: u1 :: u2 :: rest) 0 = 1 := h1
  unfold recLen rdRec
  rw [if_neg hb3, if_neg hb1, if_neg hb3, if_neg hb1]
  exact ⟨rfl, rfl⟩
theorem len_3 (u0 : UInt8) (bs : List UInt8) : (recLen (byteAt (u0 :: bs) 0) = 8 ↔ (u0.toNat : Int) = 3) ∧ ((u0.toNat : Int) = 1 → recLen (byteAt (u0 :: bs) 0) = 7) := by
  have hb : byteAt (u0 :: bs) 0 = (u0.toNat : Int) := rfl
  rw [hb]
  unfold recLen
  constructor
  · constructor
    · intro h
      by_cases e : (u0.toNat : Int) = 3
      · exact e
      · rw [if_neg e] at h
        split at h <;> cases h
    · intro h; rw [if_pos h]
  · intro h
    rw [if_neg (by omega), if_pos h]
/-- Below n, but for one block, all that lay there is as it was. -/
structure Low (n bt : Nat) (w w' : World) : Prop where
  os : w'.os = w.os
  tape : w'.tape = w.tape
  output : w'.output = w.output
  size : w.heap.size ≤ w'.heap.size
  block : ∀ k, k < n → k ≠ bt → w'.heap[k]? = w.heap[k]?
theorem Low.refl (n bt : Nat) (w : World) : Low n bt w w := ⟨rfl, rfl, rfl, Nat.le_refl _, fun _ _ _ => rfl⟩
theorem Low.trans {n bt : Nat} {a b c : World} (h : Low n bt a b) (k : Low n bt b c) : Low n bt a c := ⟨k.os.trans h.os, k.tape.trans h.tape, k.output.trans h.output, Nat.le_trans h.size k.size, fun i hi hb => (k.block i hi hb).trans (h.block i hi hb)⟩
theorem Low.ext {n bt : Nat} {a b c : World} (h : Low n bt a b) (hn : n ≤ b.heap.size) (e : Ext b c) : Low n bt a c := h.trans ⟨e.os, e.tape, e.output, e.size, fun i hi _ => e.block i (by omega)⟩
theorem Low.of_fr2 {n bt bx : Nat} {a b : World} (f : Fr2 bt bx a b) (hx : n ≤ bx) (hn : n ≤ a.heap.size) : Low n bt a b := ⟨f.os, f.tape, f.output, f.size, fun i hi hb => f.block i (by omega) hb (by omega)⟩
theorem Low.set {n bt : Nat} {a b : World} (h : Low n bt a b) {p : Addr} (hp : n ≤ p.block) (v : Value) : Low n bt a (b.setCell p v) := h.trans ⟨rfl, rfl, rfl, by simp, fun i hi _ => Below.heap_setCell _ _ _ _ (by omega)⟩
theorem Not8.set {w : World} {k : Nat} (h : Not8 w k) (p : Addr) (v : Value) : Not8 (w.setCell p v) k := fun c f e => by
  by_cases hk : k = p.block
  · subst hk
    simp only [World.setCell, Array.getElem?_modify, if_true] at e
    cases ho : w.heap[p.block]? with
    | none => rw [ho] at e; cases e
    | some ob =>
      rw [ho] at e
      simp only [Option.map_some, Option.some.injEq] at e
      cases ob with
      | cells c0 t0 f0 =>
        simp at e
        obtain ⟨_, e2, _⟩ := e
        subst e2
        exact h c0 f0 ho
      | _ => simp at e
  · rw [Below.heap_setCell _ _ _ _ hk] at e
    exact h c f e
abbrev put8 (w : World) (b : Nat) (x0 x1 x2 x3 x4 x5 x6 x7 : Value) : World := (((((((w.setCell ⟨b, 0, none⟩ x0).setCell ⟨b, 1, none⟩ x1).setCell ⟨b, 2, none⟩ x2).setCell ⟨b, 3, none⟩ x3).setCell ⟨b, 4, none⟩ x4).setCell ⟨b, 5, none⟩ x5).setCell ⟨b, 6, none⟩ x6).setCell ⟨b, 7, none⟩ x7
theorem put8_low {n bt : Nat} {a w : World} (h : Low n bt a w) {b : Nat} (hb : n ≤ b) (x0 x1 x2 x3 x4 x5 x6 x7 : Value) : Low n bt a (put8 w b x0 x1 x2 x3 x4 x5 x6 x7) := (((((((h.set (p := ⟨b, 0, none⟩) hb x0).set (p := ⟨b, 1, none⟩) hb x1).set (p := ⟨b, 2, none⟩) hb x2).set (p := ⟨b, 3, none⟩) hb x3).set (p := ⟨b, 4, none⟩) hb x4).set (p := ⟨b, 5, none⟩) hb x5).set (p := ⟨b, 6, none⟩) hb x6).set (p := ⟨b, 7, none⟩) hb x7
theorem put8_rd {bt : Nat} {bs : List UInt8} {w : World} (h : Rd bt bs w) {b : Nat} (hb : b ≠ bt) (hn : Not8 w b) (x0 x1 x2 x3 x4 x5 x6 x7 : Value) : Rd bt bs (put8 w b x0 x1 x2 x3 x4 x5 x6 x7) := ((((((((h.set hb hn 0 x0).set hb (hn.set ⟨b, 0, none⟩ x0) 1 x1).set hb ((hn.set ⟨b, 0, none⟩ x0).set ⟨b, 1, none⟩ x1) 2 x2).set hb (((hn.set ⟨b, 0, none⟩ x0).set ⟨b, 1, none⟩ x1).set ⟨b, 2, none⟩ x2) 3 x3).set hb ((((hn.set ⟨b, 0, none⟩ x0).set ⟨b, 1, none⟩ x1).set ⟨b, 2, none⟩ x2).set ⟨b, 3, none⟩ x3) 4 x4).set hb (((((hn.set ⟨b, 0, none⟩ x0).set ⟨b, 1, none⟩ x1).set ⟨b, 2, none⟩ x2).set ⟨b, 3, none⟩ x3).set ⟨b, 4, none⟩ x4) 5 x5).set hb ((((((hn.set ⟨b, 0, none⟩ x0).set ⟨b, 1, none⟩ x1).set ⟨b, 2, none⟩ x2).set ⟨b, 3, none⟩ x3).set ⟨b, 4, none⟩ x4).set ⟨b, 5, none⟩ x5) 6 x6).set hb (((((((hn.set ⟨b, 0, none⟩ x0).set ⟨b, 1, none⟩ x1).set ⟨b, 2, none⟩ x2).set ⟨b, 3, none⟩ x3).set ⟨b, 4, none⟩ x4).set ⟨b, 5, none⟩ x5).set ⟨b, 6, none⟩ x6) 7 x7)
set_option maxHeartbeats 8000000 in
theorem takeRec_short (bt : Nat) (bs : List UInt8) (hs : bs.length < 3) (w : World) (T : Rd bt bs w) (hE : Early w) (h0 : 0 < bt) :
    Calls Tryd.prog 29 #[.pointer (some ⟨bt, 0, none⟩)] w fun e w' => Low w.heap.size bt w w' ∧ RecAns bt bs w' e := by
  have hbt := T.lt
  have h0t : 0 < bt := h0
  obtain ⟨w1, hw1⟩ : ∃ w1, ((w.alloc (.cells #[.int .i64 0, .int .i64 0, .int .i64 0, .int .i64 0, .int .i64 0, .int .i64 0, .int .i64 0, .int .i64 0] 46)).alloc (.cells #[.int .i64 0, .int .i64 0, .int .i64 0, .int .i64 0, .int .i64 0, .int .i64 0, .int .i64 0, .int .i64 0] 46)) = w1 := ⟨_, rfl⟩
  have e1 : Ext w w1 := by rw [← hw1]; exact ((Ext.refl w).alloc _).alloc _
  have R1 : Blk w1 w.heap.size #[.int .i64 0, .int .i64 0, .int .i64 0, .int .i64 0, .int .i64 0, .int .i64 0, .int .i64 0, .int .i64 0] 46 := by rw [← hw1]; exact (Blk.new w _ _ _ rfl).alloc _
  have B1 : Blk w1 (w.heap.size + 1) #[.int .i64 0, .int .i64 0, .int .i64 0, .int .i64 0, .int .i64 0, .int .i64 0, .int .i64 0, .int .i64 0] 46 := by rw [← hw1]; exact Blk.new _ _ _ _ (by simp)
  have hw1s : w1.heap.size = w.heap.size + 1 + 1 := by rw [← hw1]; simp
  have T1 := T.ext e1
  have hE1 := hE.ext e1
  have F1 := (Low.refl w.heap.size bt w).ext (Nat.le_refl _) e1
  clear T hE e1
  have HS : Hid (bs.length < recLen (byteAt bs 0)) := Nat.lt_of_lt_of_le hs (recLen_pos _).1
  have N1 := Blk.new w1 (w.heap.size + 1 + 1) #[.pointer (some ⟨w.heap.size + 1, 0, none⟩), .pointer (some ⟨w.heap.size + 1, 1, none⟩), .pointer (some ⟨w.heap.size + 1, 2, none⟩)] 65 hw1s.symm
  have o1 := (Ext.refl w1).alloc (.cells #[.pointer (some ⟨w.heap.size + 1, 0, none⟩), .pointer (some ⟨w.heap.size + 1, 1, none⟩), .pointer (some ⟨w.heap.size + 1, 2, none⟩)] 65)
  have U1 := T1.ext o1
  have C1 := B1.ext o1
  have Y1 := hE1.ext o1
  go_enter Tryd.func29, Tryd.ntmps29
  go_wp2_with fail

  have hzt : w.heap.size ≠ bt := by omega
  refine (tapeTake_any bt bs (w.heap.size + 1 + 1) 0 3 3 (w.heap.size + 1) 0 #[.int .i64 0, .int .i64 0, .int .i64 0, .int .i64 0, .int .i64 0, .int .i64 0, .int .i64 0, .int .i64 0] 46 _ U1 Y1 (ptrs_blk N1 (fun i hi => by rcases lt3 hi with rfl | rfl | rfl <;> rfl)) C1 (fun i hi => by rcases lt3 hi with rfl | rfl | rfl <;> exact ⟨_, rfl⟩) (by decide) (by omega) (by omega) (by omega) N1.lt (by omega) (by omega) (by decide)).mono ?_
  rintro e w2 ⟨f1, ⟨hx, _⟩ | ⟨_, ⟨te, ve, rfl⟩, _⟩⟩
  · exact absurd hx (by omega)
  have F2 := (F1.ext (by omega) o1).trans (Low.of_fr2 f1 (by omega) (by have := o1.size; omega))
  go_wp2_with fail
  exact ⟨rfl, F2, Or.inr ⟨HS.out, te, ve, rfl⟩⟩
set_option maxHeartbeats 8000000 in
theorem takeRec_0 (bt : Nat) (u0 u1 u2 : UInt8) (rest : List UInt8) (h3 : (u0.toNat : Int) ≠ 3) (h1 : (u0.toNat : Int) ≠ 1) (w : World) (T : Rd bt (u0 :: u1 :: u2 :: rest) w) (hE : Early w) (h0 : 0 < bt) :
    Calls Tryd.prog 29 #[.pointer (some ⟨bt, 0, none⟩)] w fun e w' => Low w.heap.size bt w w' ∧ RecAns bt (u0 :: u1 :: u2 :: rest) w' e := by
  have hbt := T.lt
  have h0t : 0 < bt := h0
  obtain ⟨w1, hw1⟩ : ∃ w1, ((w.alloc (.cells #[.int .i64 0, .int .i64 0, .int .i64 0, .int .i64 0, .int .i64 0, .int .i64 0, .int .i64 0, .int .i64 0] 46)).alloc (.cells #[.int .i64 0, .int .i64 0, .int .i64 0, .int .i64 0, .int .i64 0, .int .i64 0, .int .i64 0, .int .i64 0] 46)) = w1 := ⟨_, rfl⟩
  have e1 : Ext w w1 := by rw [← hw1]; exact ((Ext.refl w).alloc _).alloc _
  have R1 : Blk w1 w.heap.size #[.int .i64 0, .int .i64 0, .int .i64 0, .int .i64 0, .int .i64 0, .int .i64 0, .int .i64 0, .int .i64 0] 46 := by rw [← hw1]; exact (Blk.new w _ _ _ rfl).alloc _
  have B1 : Blk w1 (w.heap.size + 1) #[.int .i64 0, .int .i64 0, .int .i64 0, .int .i64 0, .int .i64 0, .int .i64 0, .int .i64 0, .int .i64 0] 46 := by rw [← hw1]; exact Blk.new _ _ _ _ (by simp)
  have hw1s : w1.heap.size = w.heap.size + 1 + 1 := by rw [← hw1]; simp
  have T1 := T.ext e1
  have hE1 := hE.ext e1
  have F1 := (Low.refl w.heap.size bt w).ext (Nat.le_refl _) e1
  clear T hE e1
  have ht : turns (⟨u0.toNat, u1.toNat, u2.toNat, 0, 0, 0, 0, 0⟩ : Rc) = false := by unfold turns; simp [h3, h1]
  have hk : ((u0.toNat : Int) == 3) = false := by simpa using h3
  have HL := (show Hid _ from rd_0 u0 u1 u2 rest h3 h1)
  clear h3 h1
  have N1 := Blk.new w1 (w.heap.size + 1 + 1) #[.pointer (some ⟨w.heap.size + 1, 0, none⟩), .pointer (some ⟨w.heap.size + 1, 1, none⟩), .pointer (some ⟨w.heap.size + 1, 2, none⟩)] 65 hw1s.symm
  have o1 := (Ext.refl w1).alloc (.cells #[.pointer (some ⟨w.heap.size + 1, 0, none⟩), .pointer (some ⟨w.heap.size + 1, 1, none⟩), .pointer (some ⟨w.heap.size + 1, 2, none⟩)] 65)
  have U1 := T1.ext o1
  have C1 := B1.ext o1
  have Y1 := hE1.ext o1
  go_enter Tryd.func29, Tryd.ntmps29
  go_wp2_with fail

  have hzt : w.heap.size ≠ bt := by omega
  refine (tapeTake_any bt (u0 :: u1 :: u2 :: rest) (w.heap.size + 1 + 1) 0 3 3 (w.heap.size + 1) 0 #[.int .i64 0, .int .i64 0, .int .i64 0, .int .i64 0, .int .i64 0, .int .i64 0, .int .i64 0, .int .i64 0] 46 _ U1 Y1 (ptrs_blk N1 (fun i hi => by rcases lt3 hi with rfl | rfl | rfl <;> rfl)) C1 (fun i hi => by rcases lt3 hi with rfl | rfl | rfl <;> exact ⟨_, rfl⟩) (by decide) (by omega) (by omega) (by omega) N1.lt (by omega) (by omega) (by decide)).mono ?_
  rintro e w2 ⟨f1, ⟨_, rfl, T2, B2⟩ | ⟨hx, _⟩⟩
  rotate_left
  · exact absurd hx (by simp)
  replace T2 : Rd bt rest w2 := T2
  replace B2 : Blk w2 (w.heap.size + 1) #[.int .i64 (u0.toNat : Int), .int .i64 (u1.toNat : Int), .int .i64 (u2.toNat : Int), .int .i64 0, .int .i64 0, .int .i64 0, .int .i64 0, .int .i64 0] 46 := B2
  have R2 := (R1.ext o1).fr2 f1 hzt (by omega)
  have hE2 := Y1.fr2 f1 h0t (by omega)
  have F2 := (F1.ext (by omega) o1).trans (Low.of_fr2 f1 (by omega) (by have := o1.size; omega))
  have hs2 := F2.size
  clear N1 o1 U1 C1 Y1 f1 T1 B1 R1 hE1 F1 hw1 hw1s
  obtain ⟨bx, hbx⟩ : ∃ bx, w.heap.size + 1 = bx := ⟨_, rfl⟩
  rw [hbx] at B2 ⊢
  have hzx : w.heap.size ≠ bx := by omega
  have h0x : 0 < bx := by omega
  have hbx2 : w.heap.size ≤ bx := by omega
  clear hbx
  have c2 := B2.cell
  go_wp2_with fail
  refine (turns_any ⟨u0.toNat, u1.toNat, u2.toNat, 0, 0, 0, 0, 0⟩ _).mono ?_
  rintro e w3 ⟨rfl, hw⟩
  have T3 := T2.ext hw
  have B3 := B2.ext hw
  have R3 := R2.ext hw
  have hE3 := hE2.ext hw
  have F3 := F2.ext (by have := B2.lt; omega) hw
  clear c2 T2 B2 R2 hE2 F2 hw
  rw [ht]
  have c3 := B3.cell
  have z3 := R3.cell
  have y3 := R3.fr
  have K9 := put8_rd T3 hzt (R3.not8 (by decide)) (.int .i64 (u0.toNat : Int)) (.int .i64 (u1.toNat : Int)) (.int .i64 (u2.toNat : Int)) (.int .i64 0) (.int .i64 0) (.int .i64 0) (.int .i64 0) (.int .i64 0)
  have F9 := put8_low F3 (b := w.heap.size) (Nat.le_refl _) (.int .i64 (u0.toNat : Int)) (.int .i64 (u1.toNat : Int)) (.int .i64 (u2.toNat : Int)) (.int .i64 0) (.int .i64 0) (.int .i64 0) (.int .i64 0) (.int .i64 0)
  have HV := (show Hid _ from HL.out)
  clear B3 hE3 F3 T3
  go_wp2_with fail
  refine bodyPost_ret (v := .agg #[.int .i64 (u0.toNat : Int), .int .i64 (u1.toNat : Int), .int .i64 (u2.toNat : Int), .int .i64 0, .int .i64 0, .int .i64 0, .int .i64 0, .int .i64 0]) (by simp [results, Tryd.results29, go_sem, z3]) rfl ⟨F9, Or.inl ⟨?_, ?_, ?_⟩⟩
  · rw [HV.out.1]; simp
  · rw [HV.out.2]
  · rw [HV.out.1]; exact K9
set_option maxHeartbeats 8000000 in
theorem takeRec_1s (bt : Nat) (u0 u1 u2 : UInt8) (rest : List UInt8) (h1 : (u0.toNat : Int) = 1) (hs : rest.length < 4) (w : World) (T : Rd bt (u0 :: u1 :: u2 :: rest) w) (hE : Early w) (h0 : 0 < bt) :
    Calls Tryd.prog 29 #[.pointer (some ⟨bt, 0, none⟩)] w fun e w' => Low w.heap.size bt w w' ∧ RecAns bt (u0 :: u1 :: u2 :: rest) w' e := by
  have hbt := T.lt
  have h0t : 0 < bt := h0
  obtain ⟨w1, hw1⟩ : ∃ w1, ((w.alloc (.cells #[.int .i64 0, .int .i64 0, .int .i64 0, .int .i64 0, .int .i64 0, .int .i64 0, .int .i64 0, .int .i64 0] 46)).alloc (.cells #[.int .i64 0, .int .i64 0, .int .i64 0, .int .i64 0, .int .i64 0, .int .i64 0, .int .i64 0, .int .i64 0] 46)) = w1 := ⟨_, rfl⟩
  have e1 : Ext w w1 := by rw [← hw1]; exact ((Ext.refl w).alloc _).alloc _
  have R1 : Blk w1 w.heap.size #[.int .i64 0, .int .i64 0, .int .i64 0, .int .i64 0, .int .i64 0, .int .i64 0, .int .i64 0, .int .i64 0] 46 := by rw [← hw1]; exact (Blk.new w _ _ _ rfl).alloc _
  have B1 : Blk w1 (w.heap.size + 1) #[.int .i64 0, .int .i64 0, .int .i64 0, .int .i64 0, .int .i64 0, .int .i64 0, .int .i64 0, .int .i64 0] 46 := by rw [← hw1]; exact Blk.new _ _ _ _ (by simp)
  have hw1s : w1.heap.size = w.heap.size + 1 + 1 := by rw [← hw1]; simp
  have T1 := T.ext e1
  have hE1 := hE.ext e1
  have F1 := (Low.refl w.heap.size bt w).ext (Nat.le_refl _) e1
  clear T hE e1
  have ht : turns (⟨u0.toNat, u1.toNat, u2.toNat, 0, 0, 0, 0, 0⟩ : Rc) = true := by unfold turns; simp [h1]
  have hk : ((u0.toNat : Int) == 3) = false := by simp [h1]
  have HS : Hid (((u0 :: u1 :: u2 :: rest)).length < recLen (byteAt (u0 :: u1 :: u2 :: rest) 0)) := by show _ < _; rw [(len_3 u0 _).2 h1]; simp; omega
  clear h1
  have N1 := Blk.new w1 (w.heap.size + 1 + 1) #[.pointer (some ⟨w.heap.size + 1, 0, none⟩), .pointer (some ⟨w.heap.size + 1, 1, none⟩), .pointer (some ⟨w.heap.size + 1, 2, none⟩)] 65 hw1s.symm
  have o1 := (Ext.refl w1).alloc (.cells #[.pointer (some ⟨w.heap.size + 1, 0, none⟩), .pointer (some ⟨w.heap.size + 1, 1, none⟩), .pointer (some ⟨w.heap.size + 1, 2, none⟩)] 65)
  have U1 := T1.ext o1
  have C1 := B1.ext o1
  have Y1 := hE1.ext o1
  go_enter Tryd.func29, Tryd.ntmps29
  go_wp2_with fail

  have hzt : w.heap.size ≠ bt := by omega
  refine (tapeTake_any bt (u0 :: u1 :: u2 :: rest) (w.heap.size + 1 + 1) 0 3 3 (w.heap.size + 1) 0 #[.int .i64 0, .int .i64 0, .int .i64 0, .int .i64 0, .int .i64 0, .int .i64 0, .int .i64 0, .int .i64 0] 46 _ U1 Y1 (ptrs_blk N1 (fun i hi => by rcases lt3 hi with rfl | rfl | rfl <;> rfl)) C1 (fun i hi => by rcases lt3 hi with rfl | rfl | rfl <;> exact ⟨_, rfl⟩) (by decide) (by omega) (by omega) (by omega) N1.lt (by omega) (by omega) (by decide)).mono ?_
  rintro e w2 ⟨f1, ⟨_, rfl, T2, B2⟩ | ⟨hx, _⟩⟩
  rotate_left
  · exact absurd hx (by simp)
  replace T2 : Rd bt rest w2 := T2
  replace B2 : Blk w2 (w.heap.size + 1) #[.int .i64 (u0.toNat : Int), .int .i64 (u1.toNat : Int), .int .i64 (u2.toNat : Int), .int .i64 0, .int .i64 0, .int .i64 0, .int .i64 0, .int .i64 0] 46 := B2
  have R2 := (R1.ext o1).fr2 f1 hzt (by omega)
  have hE2 := Y1.fr2 f1 h0t (by omega)
  have F2 := (F1.ext (by omega) o1).trans (Low.of_fr2 f1 (by omega) (by have := o1.size; omega))
  have hs2 := F2.size
  clear N1 o1 U1 C1 Y1 f1 T1 B1 R1 hE1 F1 hw1 hw1s
  obtain ⟨bx, hbx⟩ : ∃ bx, w.heap.size + 1 = bx := ⟨_, rfl⟩
  rw [hbx] at B2 ⊢
  have hzx : w.heap.size ≠ bx := by omega
  have h0x : 0 < bx := by omega
  have hbx2 : w.heap.size ≤ bx := by omega
  clear hbx
  have c2 := B2.cell
  go_wp2_with fail
  refine (turns_any ⟨u0.toNat, u1.toNat, u2.toNat, 0, 0, 0, 0, 0⟩ _).mono ?_
  rintro e w3 ⟨rfl, hw⟩
  have T3 := T2.ext hw
  have B3 := B2.ext hw
  have R3 := R2.ext hw
  have hE3 := hE2.ext hw
  have F3 := F2.ext (by have := B2.lt; omega) hw
  clear c2 T2 B2 R2 hE2 F2 hw
  rw [ht]
  have N3 := Blk.new w3 w3.heap.size #[.pointer (some ⟨bx, 3, none⟩), .pointer (some ⟨bx, 4, none⟩), .pointer (some ⟨bx, 5, none⟩), .pointer (some ⟨bx, 6, none⟩)] 65 rfl
  have o3 := (Ext.refl w3).alloc (.cells #[.pointer (some ⟨bx, 3, none⟩), .pointer (some ⟨bx, 4, none⟩), .pointer (some ⟨bx, 5, none⟩), .pointer (some ⟨bx, 6, none⟩)] 65)
  have U3 := T3.ext o3
  have C3 := B3.ext o3
  have Y3 := hE3.ext o3
  have hl3 := B3.lt
  have ht3 := T3.lt
  go_wp2_with fail
  refine (tapeTake_any bt rest w3.heap.size 0 4 4 bx 3 #[.int .i64 (u0.toNat : Int), .int .i64 (u1.toNat : Int), .int .i64 (u2.toNat : Int), .int .i64 0, .int .i64 0, .int .i64 0, .int .i64 0, .int .i64 0] 46 _ U3 Y3 (ptrs_blk N3 (fun i hi => by rcases lt4 hi with rfl | rfl | rfl | rfl <;> rfl)) C3 (fun i hi => by rcases lt4 hi with rfl | rfl | rfl | rfl <;> exact ⟨_, rfl⟩) (by decide) (by omega) (by omega) (by omega) N3.lt (by omega) (by omega) (by decide)).mono ?_
  rintro e w4 ⟨f3, ⟨hx, _⟩ | ⟨_, ⟨te, ve, rfl⟩, _⟩⟩
  · exact absurd hx (by first | (simp; done) | (simp at hs ⊢; omega))
  have F4 := (F3.ext (by omega) o3).trans (Low.of_fr2 f3 (by omega) (by have := o3.size; omega))
  go_wp2_with fail
  exact ⟨rfl, F4, Or.inr ⟨HS.out, te, ve, rfl⟩⟩
set_option maxHeartbeats 8000000 in
theorem takeRec_3s (bt : Nat) (u0 u1 u2 : UInt8) (rest : List UInt8) (h3 : (u0.toNat : Int) = 3) (hs : rest.length < 4) (w : World) (T : Rd bt (u0 :: u1 :: u2 :: rest) w) (hE : Early w) (h0 : 0 < bt) :
    Calls Tryd.prog 29 #[.pointer (some ⟨bt, 0, none⟩)] w fun e w' => Low w.heap.size bt w w' ∧ RecAns bt (u0 :: u1 :: u2 :: rest) w' e := by
  have hbt := T.lt
  have h0t : 0 < bt := h0
  obtain ⟨w1, hw1⟩ : ∃ w1, ((w.alloc (.cells #[.int .i64 0, .int .i64 0, .int .i64 0, .int .i64 0, .int .i64 0, .int .i64 0, .int .i64 0, .int .i64 0] 46)).alloc (.cells #[.int .i64 0, .int .i64 0, .int .i64 0, .int .i64 0, .int .i64 0, .int .i64 0, .int .i64 0, .int .i64 0] 46)) = w1 := ⟨_, rfl⟩
  have e1 : Ext w w1 := by rw [← hw1]; exact ((Ext.refl w).alloc _).alloc _
  have R1 : Blk w1 w.heap.size #[.int .i64 0, .int .i64 0, .int .i64 0, .int .i64 0, .int .i64 0, .int .i64 0, .int .i64 0, .int .i64 0] 46 := by rw [← hw1]; exact (Blk.new w _ _ _ rfl).alloc _
  have B1 : Blk w1 (w.heap.size + 1) #[.int .i64 0, .int .i64 0, .int .i64 0, .int .i64 0, .int .i64 0, .int .i64 0, .int .i64 0, .int .i64 0] 46 := by rw [← hw1]; exact Blk.new _ _ _ _ (by simp)
  have hw1s : w1.heap.size = w.heap.size + 1 + 1 := by rw [← hw1]; simp
  have T1 := T.ext e1
  have hE1 := hE.ext e1
  have F1 := (Low.refl w.heap.size bt w).ext (Nat.le_refl _) e1
  clear T hE e1
  have ht : turns (⟨u0.toNat, u1.toNat, u2.toNat, 0, 0, 0, 0, 0⟩ : Rc) = true := by unfold turns; simp [h3]
  have hk : ((u0.toNat : Int) == 3) = true := by simp [h3]
  have HS : Hid (((u0 :: u1 :: u2 :: rest)).length < recLen (byteAt (u0 :: u1 :: u2 :: rest) 0)) := by show _ < _; rw [(len_3 u0 _).1.2 h3]; simp; omega
  clear h3
  have N1 := Blk.new w1 (w.heap.size + 1 + 1) #[.pointer (some ⟨w.heap.size + 1, 0, none⟩), .pointer (some ⟨w.heap.size + 1, 1, none⟩), .pointer (some ⟨w.heap.size + 1, 2, none⟩)] 65 hw1s.symm
  have o1 := (Ext.refl w1).alloc (.cells #[.pointer (some ⟨w.heap.size + 1, 0, none⟩), .pointer (some ⟨w.heap.size + 1, 1, none⟩), .pointer (some ⟨w.heap.size + 1, 2, none⟩)] 65)
  have U1 := T1.ext o1
  have C1 := B1.ext o1
  have Y1 := hE1.ext o1
  go_enter Tryd.func29, Tryd.ntmps29
  go_wp2_with fail

  have hzt : w.heap.size ≠ bt := by omega
  refine (tapeTake_any bt (u0 :: u1 :: u2 :: rest) (w.heap.size + 1 + 1) 0 3 3 (w.heap.size + 1) 0 #[.int .i64 0, .int .i64 0, .int .i64 0, .int .i64 0, .int .i64 0, .int .i64 0, .int .i64 0, .int .i64 0] 46 _ U1 Y1 (ptrs_blk N1 (fun i hi => by rcases lt3 hi with rfl | rfl | rfl <;> rfl)) C1 (fun i hi => by rcases lt3 hi with rfl | rfl | rfl <;> exact ⟨_, rfl⟩) (by decide) (by omega) (by omega) (by omega) N1.lt (by omega) (by omega) (by decide)).mono ?_
  rintro e w2 ⟨f1, ⟨_, rfl, T2, B2⟩ | ⟨hx, _⟩⟩
  rotate_left
  · exact absurd hx (by simp)
  replace T2 : Rd bt rest w2 := T2
  replace B2 : Blk w2 (w.heap.size + 1) #[.int .i64 (u0.toNat : Int), .int .i64 (u1.toNat : Int), .int .i64 (u2.toNat : Int), .int .i64 0, .int .i64 0, .int .i64 0, .int .i64 0, .int .i64 0] 46 := B2
  have R2 := (R1.ext o1).fr2 f1 hzt (by omega)
  have hE2 := Y1.fr2 f1 h0t (by omega)
  have F2 := (F1.ext (by omega) o1).trans (Low.of_fr2 f1 (by omega) (by have := o1.size; omega))
  have hs2 := F2.size
  clear N1 o1 U1 C1 Y1 f1 T1 B1 R1 hE1 F1 hw1 hw1s
  obtain ⟨bx, hbx⟩ : ∃ bx, w.heap.size + 1 = bx := ⟨_, rfl⟩
  rw [hbx] at B2 ⊢
  have hzx : w.heap.size ≠ bx := by omega
  have h0x : 0 < bx := by omega
  have hbx2 : w.heap.size ≤ bx := by omega
  clear hbx
  have c2 := B2.cell
  go_wp2_with fail
  refine (turns_any ⟨u0.toNat, u1.toNat, u2.toNat, 0, 0, 0, 0, 0⟩ _).mono ?_
  rintro e w3 ⟨rfl, hw⟩
  have T3 := T2.ext hw
  have B3 := B2.ext hw
  have R3 := R2.ext hw
  have hE3 := hE2.ext hw
  have F3 := F2.ext (by have := B2.lt; omega) hw
  clear c2 T2 B2 R2 hE2 F2 hw
  rw [ht]
  have N3 := Blk.new w3 w3.heap.size #[.pointer (some ⟨bx, 3, none⟩), .pointer (some ⟨bx, 4, none⟩), .pointer (some ⟨bx, 5, none⟩), .pointer (some ⟨bx, 6, none⟩)] 65 rfl
  have o3 := (Ext.refl w3).alloc (.cells #[.pointer (some ⟨bx, 3, none⟩), .pointer (some ⟨bx, 4, none⟩), .pointer (some ⟨bx, 5, none⟩), .pointer (some ⟨bx, 6, none⟩)] 65)
  have U3 := T3.ext o3
  have C3 := B3.ext o3
  have Y3 := hE3.ext o3
  have hl3 := B3.lt
  have ht3 := T3.lt
  go_wp2_with fail
  refine (tapeTake_any bt rest w3.heap.size 0 4 4 bx 3 #[.int .i64 (u0.toNat : Int), .int .i64 (u1.toNat : Int), .int .i64 (u2.toNat : Int), .int .i64 0, .int .i64 0, .int .i64 0, .int .i64 0, .int .i64 0] 46 _ U3 Y3 (ptrs_blk N3 (fun i hi => by rcases lt4 hi with rfl | rfl | rfl | rfl <;> rfl)) C3 (fun i hi => by rcases lt4 hi with rfl | rfl | rfl | rfl <;> exact ⟨_, rfl⟩) (by decide) (by omega) (by omega) (by omega) N3.lt (by omega) (by omega) (by decide)).mono ?_
  rintro e w4 ⟨f3, ⟨hx, _⟩ | ⟨_, ⟨te, ve, rfl⟩, _⟩⟩
  · exact absurd hx (by first | (simp; done) | (simp at hs ⊢; omega))
  have F4 := (F3.ext (by omega) o3).trans (Low.of_fr2 f3 (by omega) (by have := o3.size; omega))
  go_wp2_with fail
  exact ⟨rfl, F4, Or.inr ⟨HS.out, te, ve, rfl⟩⟩
set_option maxHeartbeats 8000000 in
theorem takeRec_1 (bt : Nat) (u0 u1 u2 v0 v1 v2 v3 : UInt8) (rest : List UInt8) (h1 : (u0.toNat : Int) = 1) (w : World) (T : Rd bt (u0 :: u1 :: u2 :: v0 :: v1 :: v2 :: v3 :: rest) w) (hE : Early w) (h0 : 0 < bt) :
    Calls Tryd.prog 29 #[.pointer (some ⟨bt, 0, none⟩)] w fun e w' => Low w.heap.size bt w w' ∧ RecAns bt (u0 :: u1 :: u2 :: v0 :: v1 :: v2 :: v3 :: rest) w' e := by
  have hbt := T.lt
  have h0t : 0 < bt := h0
  obtain ⟨w1, hw1⟩ : ∃ w1, ((w.alloc (.cells #[.int .i64 0, .int .i64 0, .int .i64 0, .int .i64 0, .int .i64 0, .int .i64 0, .int .i64 0, .int .i64 0] 46)).alloc (.cells #[.int .i64 0, .int .i64 0, .int .i64 0, .int .i64 0, .int .i64 0, .int .i64 0, .int .i64 0, .int .i64 0] 46)) = w1 := ⟨_, rfl⟩
  have e1 : Ext w w1 := by rw [← hw1]; exact ((Ext.refl w).alloc _).alloc _
  have R1 : Blk w1 w.heap.size #[.int .i64 0, .int .i64 0, .int .i64 0, .int .i64 0, .int .i64 0, .int .i64 0, .int .i64 0, .int .i64 0] 46 := by rw [← hw1]; exact (Blk.new w _ _ _ rfl).alloc _
  have B1 : Blk w1 (w.heap.size + 1) #[.int .i64 0, .int .i64 0, .int .i64 0, .int .i64 0, .int .i64 0, .int .i64 0, .int .i64 0, .int .i64 0] 46 := by rw [← hw1]; exact Blk.new _ _ _ _ (by simp)
  have hw1s : w1.heap.size = w.heap.size + 1 + 1 := by rw [← hw1]; simp
  have T1 := T.ext e1
  have hE1 := hE.ext e1
  have F1 := (Low.refl w.heap.size bt w).ext (Nat.le_refl _) e1
  clear T hE e1
  have ht : turns (⟨u0.toNat, u1.toNat, u2.toNat, 0, 0, 0, 0, 0⟩ : Rc) = true := by unfold turns; simp [h1]
  have hk : ((u0.toNat : Int) == 3) = false := by simp [h1]
  have HL := (show Hid _ from rd_1 u0 u1 u2 v0 v1 v2 v3 rest h1)
  clear h1
  have N1 := Blk.new w1 (w.heap.size + 1 + 1) #[.pointer (some ⟨w.heap.size + 1, 0, none⟩), .pointer (some ⟨w.heap.size + 1, 1, none⟩), .pointer (some ⟨w.heap.size + 1, 2, none⟩)] 65 hw1s.symm
  have o1 := (Ext.refl w1).alloc (.cells #[.pointer (some ⟨w.heap.size + 1, 0, none⟩), .pointer (some ⟨w.heap.size + 1, 1, none⟩), .pointer (some ⟨w.heap.size + 1, 2, none⟩)] 65)
  have U1 := T1.ext o1
  have C1 := B1.ext o1
  have Y1 := hE1.ext o1
  go_enter Tryd.func29, Tryd.ntmps29
  go_wp2_with fail

  have hzt : w.heap.size ≠ bt := by omega
  refine (tapeTake_any bt (u0 :: u1 :: u2 :: v0 :: v1 :: v2 :: v3 :: rest) (w.heap.size + 1 + 1) 0 3 3 (w.heap.size + 1) 0 #[.int .i64 0, .int .i64 0, .int .i64 0, .int .i64 0, .int .i64 0, .int .i64 0, .int .i64 0, .int .i64 0] 46 _ U1 Y1 (ptrs_blk N1 (fun i hi => by rcases lt3 hi with rfl | rfl | rfl <;> rfl)) C1 (fun i hi => by rcases lt3 hi with rfl | rfl | rfl <;> exact ⟨_, rfl⟩) (by decide) (by omega) (by omega) (by omega) N1.lt (by omega) (by omega) (by decide)).mono ?_
  rintro e w2 ⟨f1, ⟨_, rfl, T2, B2⟩ | ⟨hx, _⟩⟩
  rotate_left
  · exact absurd hx (by simp)
  replace T2 : Rd bt (v0 :: v1 :: v2 :: v3 :: rest) w2 := T2
  replace B2 : Blk w2 (w.heap.size + 1) #[.int .i64 (u0.toNat : Int), .int .i64 (u1.toNat : Int), .int .i64 (u2.toNat : Int), .int .i64 0, .int .i64 0, .int .i64 0, .int .i64 0, .int .i64 0] 46 := B2
  have R2 := (R1.ext o1).fr2 f1 hzt (by omega)
  have hE2 := Y1.fr2 f1 h0t (by omega)
  have F2 := (F1.ext (by omega) o1).trans (Low.of_fr2 f1 (by omega) (by have := o1.size; omega))
  have hs2 := F2.size
  clear N1 o1 U1 C1 Y1 f1 T1 B1 R1 hE1 F1 hw1 hw1s
  obtain ⟨bx, hbx⟩ : ∃ bx, w.heap.size + 1 = bx := ⟨_, rfl⟩
  rw [hbx] at B2 ⊢
  have hzx : w.heap.size ≠ bx := by omega
  have h0x : 0 < bx := by omega
  have hbx2 : w.heap.size ≤ bx := by omega
  clear hbx
  have c2 := B2.cell
  go_wp2_with fail
  refine (turns_any ⟨u0.toNat, u1.toNat, u2.toNat, 0, 0, 0, 0, 0⟩ _).mono ?_
  rintro e w3 ⟨rfl, hw⟩
  have T3 := T2.ext hw
  have B3 := B2.ext hw
  have R3 := R2.ext hw
  have hE3 := hE2.ext hw
  have F3 := F2.ext (by have := B2.lt; omega) hw
  clear c2 T2 B2 R2 hE2 F2 hw
  rw [ht]
  have N3 := Blk.new w3 w3.heap.size #[.pointer (some ⟨bx, 3, none⟩), .pointer (some ⟨bx, 4, none⟩), .pointer (some ⟨bx, 5, none⟩), .pointer (some ⟨bx, 6, none⟩)] 65 rfl
  have o3 := (Ext.refl w3).alloc (.cells #[.pointer (some ⟨bx, 3, none⟩), .pointer (some ⟨bx, 4, none⟩), .pointer (some ⟨bx, 5, none⟩), .pointer (some ⟨bx, 6, none⟩)] 65)
  have U3 := T3.ext o3
  have C3 := B3.ext o3
  have Y3 := hE3.ext o3
  have hl3 := B3.lt
  have ht3 := T3.lt
  go_wp2_with fail
  refine (tapeTake_any bt (v0 :: v1 :: v2 :: v3 :: rest) w3.heap.size 0 4 4 bx 3 #[.int .i64 (u0.toNat : Int), .int .i64 (u1.toNat : Int), .int .i64 (u2.toNat : Int), .int .i64 0, .int .i64 0, .int .i64 0, .int .i64 0, .int .i64 0] 46 _ U3 Y3 (ptrs_blk N3 (fun i hi => by rcases lt4 hi with rfl | rfl | rfl | rfl <;> rfl)) C3 (fun i hi => by rcases lt4 hi with rfl | rfl | rfl | rfl <;> exact ⟨_, rfl⟩) (by decide) (by omega) (by omega) (by omega) N3.lt (by omega) (by omega) (by decide)).mono ?_
  rintro e w4 ⟨f3, ⟨_, rfl, T4, B4⟩ | ⟨hx, _⟩⟩
  rotate_left
  · exact absurd hx (by simp)
  replace T4 : Rd bt rest w4 := T4
  replace B4 : Blk w4 bx #[.int .i64 (u0.toNat : Int), .int .i64 (u1.toNat : Int), .int .i64 (u2.toNat : Int), .int .i64 (v0.toNat : Int), .int .i64 (v1.toNat : Int), .int .i64 (v2.toNat : Int), .int .i64 (v3.toNat : Int), .int .i64 0] 46 := B4
  have R4 := (R3.ext o3).fr2 f3 hzt hzx
  have hE4 := Y3.fr2 f3 h0t h0x
  have F4 := (F3.ext (by omega) o3).trans (Low.of_fr2 f3 (by omega) (by have := o3.size; omega))
  clear N3 o3 U3 C3 Y3 f3 T3 B3 R3 hE3 F3 hl3 ht3
  have c4a := B4.cell
  have c4 := B4.cell
  have z4 := R4.cell
  have y4 := R4.fr
  have K9 := put8_rd T4 hzt (R4.not8 (by decide)) (.int .i64 (u0.toNat : Int)) (.int .i64 (u1.toNat : Int)) (.int .i64 (u2.toNat : Int)) (.int .i64 (v0.toNat : Int)) (.int .i64 (v1.toNat : Int)) (.int .i64 (v2.toNat : Int)) (.int .i64 (v3.toNat : Int)) (.int .i64 0)
  have F9 := put8_low F4 (b := w.heap.size) (Nat.le_refl _) (.int .i64 (u0.toNat : Int)) (.int .i64 (u1.toNat : Int)) (.int .i64 (u2.toNat : Int)) (.int .i64 (v0.toNat : Int)) (.int .i64 (v1.toNat : Int)) (.int .i64 (v2.toNat : Int)) (.int .i64 (v3.toNat : Int)) (.int .i64 0)
  have HV := (show Hid _ from HL.out)
  clear B4 hE4 F4 T4
  go_wp2_with fail
  refine bodyPost_ret (v := .agg #[.int .i64 (u0.toNat : Int), .int .i64 (u1.toNat : Int), .int .i64 (u2.toNat : Int), .int .i64 (v0.toNat : Int), .int .i64 (v1.toNat : Int), .int .i64 (v2.toNat : Int), .int .i64 (v3.toNat : Int), .int .i64 0]) (by simp [results, Tryd.results29, go_sem, z4]) rfl ⟨F9, Or.inl ⟨?_, ?_, ?_⟩⟩
  · rw [HV.out.1]; simp
  · rw [HV.out.2]
  · rw [HV.out.1]; exact K9
set_option maxHeartbeats 8000000 in
theorem takeRec_3t (bt : Nat) (u0 u1 u2 v0 v1 v2 v3 : UInt8) (h3 : (u0.toNat : Int) = 3) (w : World) (T : Rd bt [u0, u1, u2, v0, v1, v2, v3] w) (hE : Early w) (h0 : 0 < bt) :
    Calls Tryd.prog 29 #[.pointer (some ⟨bt, 0, none⟩)] w fun e w' => Low w.heap.size bt w w' ∧ RecAns bt [u0, u1, u2, v0, v1, v2, v3] w' e := by
  have hbt := T.lt
  have h0t : 0 < bt := h0
  obtain ⟨w1, hw1⟩ : ∃ w1, ((w.alloc (.cells #[.int .i64 0, .int .i64 0, .int .i64 0, .int .i64 0, .int .i64 0, .int .i64 0, .int .i64 0, .int .i64 0] 46)).alloc (.cells #[.int .i64 0, .int .i64 0, .int .i64 0, .int .i64 0, .int .i64 0, .int .i64 0, .int .i64 0, .int .i64 0] 46)) = w1 := ⟨_, rfl⟩
  have e1 : Ext w w1 := by rw [← hw1]; exact ((Ext.refl w).alloc _).alloc _
  have R1 : Blk w1 w.heap.size #[.int .i64 0, .int .i64 0, .int .i64 0, .int .i64 0, .int .i64 0, .int .i64 0, .int .i64 0, .int .i64 0] 46 := by rw [← hw1]; exact (Blk.new w _ _ _ rfl).alloc _
  have B1 : Blk w1 (w.heap.size + 1) #[.int .i64 0, .int .i64 0, .int .i64 0, .int .i64 0, .int .i64 0, .int .i64 0, .int .i64 0, .int .i64 0] 46 := by rw [← hw1]; exact Blk.new _ _ _ _ (by simp)
  have hw1s : w1.heap.size = w.heap.size + 1 + 1 := by rw [← hw1]; simp
  have T1 := T.ext e1
  have hE1 := hE.ext e1
  have F1 := (Low.refl w.heap.size bt w).ext (Nat.le_refl _) e1
  clear T hE e1
  have ht : turns (⟨u0.toNat, u1.toNat, u2.toNat, 0, 0, 0, 0, 0⟩ : Rc) = true := by unfold turns; simp [h3]
  have hk : ((u0.toNat : Int) == 3) = true := by simp [h3]
  have HS : Hid ([u0, u1, u2, v0, v1, v2, v3].length < recLen (byteAt [u0, u1, u2, v0, v1, v2, v3] 0)) := by show _ < _; rw [(len_3 u0 _).1.2 h3]; simp
  have hs : True := trivial
  clear h3
  have N1 := Blk.new w1 (w.heap.size + 1 + 1) #[.pointer (some ⟨w.heap.size + 1, 0, none⟩), .pointer (some ⟨w.heap.size + 1, 1, none⟩), .pointer (some ⟨w.heap.size + 1, 2, none⟩)] 65 hw1s.symm
  have o1 := (Ext.refl w1).alloc (.cells #[.pointer (some ⟨w.heap.size + 1, 0, none⟩), .pointer (some ⟨w.heap.size + 1, 1, none⟩), .pointer (some ⟨w.heap.size + 1, 2, none⟩)] 65)
  have U1 := T1.ext o1
  have C1 := B1.ext o1
  have Y1 := hE1.ext o1
  go_enter Tryd.func29, Tryd.ntmps29
  go_wp2_with fail

  have hzt : w.heap.size ≠ bt := by omega
  refine (tapeTake_any bt [u0, u1, u2, v0, v1, v2, v3] (w.heap.size + 1 + 1) 0 3 3 (w.heap.size + 1) 0 #[.int .i64 0, .int .i64 0, .int .i64 0, .int .i64 0, .int .i64 0, .int .i64 0, .int .i64 0, .int .i64 0] 46 _ U1 Y1 (ptrs_blk N1 (fun i hi => by rcases lt3 hi with rfl | rfl | rfl <;> rfl)) C1 (fun i hi => by rcases lt3 hi with rfl | rfl | rfl <;> exact ⟨_, rfl⟩) (by decide) (by omega) (by omega) (by omega) N1.lt (by omega) (by omega) (by decide)).mono ?_
  rintro e w2 ⟨f1, ⟨_, rfl, T2, B2⟩ | ⟨hx, _⟩⟩
  rotate_left
  · exact absurd hx (by simp)
  replace T2 : Rd bt [v0, v1, v2, v3] w2 := T2
  replace B2 : Blk w2 (w.heap.size + 1) #[.int .i64 (u0.toNat : Int), .int .i64 (u1.toNat : Int), .int .i64 (u2.toNat : Int), .int .i64 0, .int .i64 0, .int .i64 0, .int .i64 0, .int .i64 0] 46 := B2
  have R2 := (R1.ext o1).fr2 f1 hzt (by omega)
  have hE2 := Y1.fr2 f1 h0t (by omega)
  have F2 := (F1.ext (by omega) o1).trans (Low.of_fr2 f1 (by omega) (by have := o1.size; omega))
  have hs2 := F2.size
  clear N1 o1 U1 C1 Y1 f1 T1 B1 R1 hE1 F1 hw1 hw1s
  obtain ⟨bx, hbx⟩ : ∃ bx, w.heap.size + 1 = bx := ⟨_, rfl⟩
  rw [hbx] at B2 ⊢
  have hzx : w.heap.size ≠ bx := by omega
  have h0x : 0 < bx := by omega
  have hbx2 : w.heap.size ≤ bx := by omega
  clear hbx
  have c2 := B2.cell
  go_wp2_with fail
  refine (turns_any ⟨u0.toNat, u1.toNat, u2.toNat, 0, 0, 0, 0, 0⟩ _).mono ?_
  rintro e w3 ⟨rfl, hw⟩
  have T3 := T2.ext hw
  have B3 := B2.ext hw
  have R3 := R2.ext hw
  have hE3 := hE2.ext hw
  have F3 := F2.ext (by have := B2.lt; omega) hw
  clear c2 T2 B2 R2 hE2 F2 hw
  rw [ht]
  have N3 := Blk.new w3 w3.heap.size #[.pointer (some ⟨bx, 3, none⟩), .pointer (some ⟨bx, 4, none⟩), .pointer (some ⟨bx, 5, none⟩), .pointer (some ⟨bx, 6, none⟩)] 65 rfl
  have o3 := (Ext.refl w3).alloc (.cells #[.pointer (some ⟨bx, 3, none⟩), .pointer (some ⟨bx, 4, none⟩), .pointer (some ⟨bx, 5, none⟩), .pointer (some ⟨bx, 6, none⟩)] 65)
  have U3 := T3.ext o3
  have C3 := B3.ext o3
  have Y3 := hE3.ext o3
  have hl3 := B3.lt
  have ht3 := T3.lt
  go_wp2_with fail
  refine (tapeTake_any bt [v0, v1, v2, v3] w3.heap.size 0 4 4 bx 3 #[.int .i64 (u0.toNat : Int), .int .i64 (u1.toNat : Int), .int .i64 (u2.toNat : Int), .int .i64 0, .int .i64 0, .int .i64 0, .int .i64 0, .int .i64 0] 46 _ U3 Y3 (ptrs_blk N3 (fun i hi => by rcases lt4 hi with rfl | rfl | rfl | rfl <;> rfl)) C3 (fun i hi => by rcases lt4 hi with rfl | rfl | rfl | rfl <;> exact ⟨_, rfl⟩) (by decide) (by omega) (by omega) (by omega) N3.lt (by omega) (by omega) (by decide)).mono ?_
  rintro e w4 ⟨f3, ⟨_, rfl, T4, B4⟩ | ⟨hx, _⟩⟩
  rotate_left
  · exact absurd hx (by simp)
  replace T4 : Rd bt [] w4 := T4
  replace B4 : Blk w4 bx #[.int .i64 (u0.toNat : Int), .int .i64 (u1.toNat : Int), .int .i64 (u2.toNat : Int), .int .i64 (v0.toNat : Int), .int .i64 (v1.toNat : Int), .int .i64 (v2.toNat : Int), .int .i64 (v3.toNat : Int), .int .i64 0] 46 := B4
  have R4 := (R3.ext o3).fr2 f3 hzt hzx
  have hE4 := Y3.fr2 f3 h0t h0x
  have F4 := (F3.ext (by omega) o3).trans (Low.of_fr2 f3 (by omega) (by have := o3.size; omega))
  clear N3 o3 U3 C3 Y3 f3 T3 B3 R3 hE3 F3 hl3 ht3
  have c4 := B4.cell
  have N4 := Blk.new w4 w4.heap.size #[.pointer (some ⟨bx, 7, none⟩)] 65 rfl
  have o4 := (Ext.refl w4).alloc (.cells #[.pointer (some ⟨bx, 7, none⟩)] 65)
  have U4 := T4.ext o4
  have C4 := B4.ext o4
  have Y4 := hE4.ext o4
  have hl4 := B4.lt
  have ht4 := T4.lt
  go_wp2_with fail
  refine (tapeTake_any bt [] w4.heap.size 0 1 1 bx 7 #[.int .i64 (u0.toNat : Int), .int .i64 (u1.toNat : Int), .int .i64 (u2.toNat : Int), .int .i64 (v0.toNat : Int), .int .i64 (v1.toNat : Int), .int .i64 (v2.toNat : Int), .int .i64 (v3.toNat : Int), .int .i64 0] 46 _ U4 Y4 (ptrs_blk N4 (fun i hi => by obtain rfl := lt1 hi <;> rfl)) C4 (fun i hi => by obtain rfl := lt1 hi <;> exact ⟨_, rfl⟩) (by decide) (by omega) (by omega) (by omega) N4.lt (by omega) (by omega) (by decide)).mono ?_
  rintro e w5 ⟨f4, ⟨hx, _⟩ | ⟨_, ⟨te, ve, rfl⟩, _⟩⟩
  · exact absurd hx (by first | (simp; done) | (simp at hs ⊢; omega))
  have F5 := (F4.ext (by omega) o4).trans (Low.of_fr2 f4 (by omega) (by have := o4.size; omega))
  go_wp2_with fail
  exact ⟨rfl, F5, Or.inr ⟨HS.out, te, ve, rfl⟩⟩
set_option maxHeartbeats 8000000 in
theorem takeRec_3 (bt : Nat) (u0 u1 u2 v0 v1 v2 v3 y : UInt8) (rest : List UInt8) (h3 : (u0.toNat : Int) = 3) (w : World) (T : Rd bt (u0 :: u1 :: u2 :: v0 :: v1 :: v2 :: v3 :: y :: rest) w) (hE : Early w) (h0 : 0 < bt) :
    Calls Tryd.prog 29 #[.pointer (some ⟨bt, 0, none⟩)] w fun e w' => Low w.heap.size bt w w' ∧ RecAns bt (u0 :: u1 :: u2 :: v0 :: v1 :: v2 :: v3 :: y :: rest) w' e := by
  have hbt := T.lt
  have h0t : 0 < bt := h0
  obtain ⟨w1, hw1⟩ : ∃ w1, ((w.alloc (.cells #[.int .i64 0, .int .i64 0, .int .i64 0, .int .i64 0, .int .i64 0, .int .i64 0, .int .i64 0, .int .i64 0] 46)).alloc (.cells #[.int .i64 0, .int .i64 0, .int .i64 0, .int .i64 0, .int .i64 0, .int .i64 0, .int .i64 0, .int .i64 0] 46)) = w1 := ⟨_, rfl⟩
  have e1 : Ext w w1 := by rw [← hw1]; exact ((Ext.refl w).alloc _).alloc _
  have R1 : Blk w1 w.heap.size #[.int .i64 0, .int .i64 0, .int .i64 0, .int .i64 0, .int .i64 0, .int .i64 0, .int .i64 0, .int .i64 0] 46 := by rw [← hw1]; exact (Blk.new w _ _ _ rfl).alloc _
  have B1 : Blk w1 (w.heap.size + 1) #[.int .i64 0, .int .i64 0, .int .i64 0, .int .i64 0, .int .i64 0, .int .i64 0, .int .i64 0, .int .i64 0] 46 := by rw [← hw1]; exact Blk.new _ _ _ _ (by simp)
  have hw1s : w1.heap.size = w.heap.size + 1 + 1 := by rw [← hw1]; simp
  have T1 := T.ext e1
  have hE1 := hE.ext e1
  have F1 := (Low.refl w.heap.size bt w).ext (Nat.le_refl _) e1
  clear T hE e1
  have ht : turns (⟨u0.toNat, u1.toNat, u2.toNat, 0, 0, 0, 0, 0⟩ : Rc) = true := by unfold turns; simp [h3]
  have hk : ((u0.toNat : Int) == 3) = true := by simp [h3]
  have HL := (show Hid _ from rd_3 u0 u1 u2 v0 v1 v2 v3 y rest h3)
  clear h3
  have N1 := Blk.new w1 (w.heap.size + 1 + 1) #[.pointer (some ⟨w.heap.size + 1, 0, none⟩), .pointer (some ⟨w.heap.size + 1, 1, none⟩), .pointer (some ⟨w.heap.size + 1, 2, none⟩)] 65 hw1s.symm
  have o1 := (Ext.refl w1).alloc (.cells #[.pointer (some ⟨w.heap.size + 1, 0, none⟩), .pointer (some ⟨w.heap.size + 1, 1, none⟩), .pointer (some ⟨w.heap.size + 1, 2, none⟩)] 65)
  have U1 := T1.ext o1
  have C1 := B1.ext o1
  have Y1 := hE1.ext o1
  go_enter Tryd.func29, Tryd.ntmps29
  go_wp2_with fail

  have hzt : w.heap.size ≠ bt := by omega
  refine (tapeTake_any bt (u0 :: u1 :: u2 :: v0 :: v1 :: v2 :: v3 :: y :: rest) (w.heap.size + 1 + 1) 0 3 3 (w.heap.size + 1) 0 #[.int .i64 0, .int .i64 0, .int .i64 0, .int .i64 0, .int .i64 0, .int .i64 0, .int .i64 0, .int .i64 0] 46 _ U1 Y1 (ptrs_blk N1 (fun i hi => by rcases lt3 hi with rfl | rfl | rfl <;> rfl)) C1 (fun i hi => by rcases lt3 hi with rfl | rfl | rfl <;> exact ⟨_, rfl⟩) (by decide) (by omega) (by omega) (by omega) N1.lt (by omega) (by omega) (by decide)).mono ?_
  rintro e w2 ⟨f1, ⟨_, rfl, T2, B2⟩ | ⟨hx, _⟩⟩
  rotate_left
  · exact absurd hx (by simp)
  replace T2 : Rd bt (v0 :: v1 :: v2 :: v3 :: y :: rest) w2 := T2
  replace B2 : Blk w2 (w.heap.size + 1) #[.int .i64 (u0.toNat : Int), .int .i64 (u1.toNat : Int), .int .i64 (u2.toNat : Int), .int .i64 0, .int .i64 0, .int .i64 0, .int .i64 0, .int .i64 0] 46 := B2
  have R2 := (R1.ext o1).fr2 f1 hzt (by omega)
  have hE2 := Y1.fr2 f1 h0t (by omega)
  have F2 := (F1.ext (by omega) o1).trans (Low.of_fr2 f1 (by omega) (by have := o1.size; omega))
  have hs2 := F2.size
  clear N1 o1 U1 C1 Y1 f1 T1 B1 R1 hE1 F1 hw1 hw1s
  obtain ⟨bx, hbx⟩ : ∃ bx, w.heap.size + 1 = bx := ⟨_, rfl⟩
  rw [hbx] at B2 ⊢
  have hzx : w.heap.size ≠ bx := by omega
  have h0x : 0 < bx := by omega
  have hbx2 : w.heap.size ≤ bx := by omega
  clear hbx
  have c2 := B2.cell
  go_wp2_with fail
  refine (turns_any ⟨u0.toNat, u1.toNat, u2.toNat, 0, 0, 0, 0, 0⟩ _).mono ?_
  rintro e w3 ⟨rfl, hw⟩
  have T3 := T2.ext hw
  have B3 := B2.ext hw
  have R3 := R2.ext hw
  have hE3 := hE2.ext hw
  have F3 := F2.ext (by have := B2.lt; omega) hw
  clear c2 T2 B2 R2 hE2 F2 hw
  rw [ht]
  have N3 := Blk.new w3 w3.heap.size #[.pointer (some ⟨bx, 3, none⟩), .pointer (some ⟨bx, 4, none⟩), .pointer (some ⟨bx, 5, none⟩), .pointer (some ⟨bx, 6, none⟩)] 65 rfl
  have o3 := (Ext.refl w3).alloc (.cells #[.pointer (some ⟨bx, 3, none⟩), .pointer (some ⟨bx, 4, none⟩), .pointer (some ⟨bx, 5, none⟩), .pointer (some ⟨bx, 6, none⟩)] 65)
  have U3 := T3.ext o3
  have C3 := B3.ext o3
  have Y3 := hE3.ext o3
  have hl3 := B3.lt
  have ht3 := T3.lt
  go_wp2_with fail
  refine (tapeTake_any bt (v0 :: v1 :: v2 :: v3 :: y :: rest) w3.heap.size 0 4 4 bx 3 #[.int .i64 (u0.toNat : Int), .int .i64 (u1.toNat : Int), .int .i64 (u2.toNat : Int), .int .i64 0, .int .i64 0, .int .i64 0, .int .i64 0, .int .i64 0] 46 _ U3 Y3 (ptrs_blk N3 (fun i hi => by rcases lt4 hi with rfl | rfl | rfl | rfl <;> rfl)) C3 (fun i hi => by rcases lt4 hi with rfl | rfl | rfl | rfl <;> exact ⟨_, rfl⟩) (by decide) (by omega) (by omega) (by omega) N3.lt (by omega) (by omega) (by decide)).mono ?_
  rintro e w4 ⟨f3, ⟨_, rfl, T4, B4⟩ | ⟨hx, _⟩⟩
  rotate_left
  · exact absurd hx (by simp)
  replace T4 : Rd bt (y :: rest) w4 := T4
  replace B4 : Blk w4 bx #[.int .i64 (u0.toNat : Int), .int .i64 (u1.toNat : Int), .int .i64 (u2.toNat : Int), .int .i64 (v0.toNat : Int), .int .i64 (v1.toNat : Int), .int .i64 (v2.toNat : Int), .int .i64 (v3.toNat : Int), .int .i64 0] 46 := B4
  have R4 := (R3.ext o3).fr2 f3 hzt hzx
  have hE4 := Y3.fr2 f3 h0t h0x
  have F4 := (F3.ext (by omega) o3).trans (Low.of_fr2 f3 (by omega) (by have := o3.size; omega))
  clear N3 o3 U3 C3 Y3 f3 T3 B3 R3 hE3 F3 hl3 ht3
  have c4 := B4.cell
  have N4 := Blk.new w4 w4.heap.size #[.pointer (some ⟨bx, 7, none⟩)] 65 rfl
  have o4 := (Ext.refl w4).alloc (.cells #[.pointer (some ⟨bx, 7, none⟩)] 65)
  have U4 := T4.ext o4
  have C4 := B4.ext o4
  have Y4 := hE4.ext o4
  have hl4 := B4.lt
  have ht4 := T4.lt
  go_wp2_with fail
  refine (tapeTake_any bt (y :: rest) w4.heap.size 0 1 1 bx 7 #[.int .i64 (u0.toNat : Int), .int .i64 (u1.toNat : Int), .int .i64 (u2.toNat : Int), .int .i64 (v0.toNat : Int), .int .i64 (v1.toNat : Int), .int .i64 (v2.toNat : Int), .int .i64 (v3.toNat : Int), .int .i64 0] 46 _ U4 Y4 (ptrs_blk N4 (fun i hi => by obtain rfl := lt1 hi <;> rfl)) C4 (fun i hi => by obtain rfl := lt1 hi <;> exact ⟨_, rfl⟩) (by decide) (by omega) (by omega) (by omega) N4.lt (by omega) (by omega) (by decide)).mono ?_
  rintro e w5 ⟨f4, ⟨_, rfl, T5, B5⟩ | ⟨hx, _⟩⟩
  rotate_left
  · exact absurd hx (by simp)
  clear c4
  replace T5 : Rd bt rest w5 := T5
  replace B5 : Blk w5 bx #[.int .i64 (u0.toNat : Int), .int .i64 (u1.toNat : Int), .int .i64 (u2.toNat : Int), .int .i64 (v0.toNat : Int), .int .i64 (v1.toNat : Int), .int .i64 (v2.toNat : Int), .int .i64 (v3.toNat : Int), .int .i64 (y.toNat : Int)] 46 := B5
  have R5 := (R4.ext o4).fr2 f4 hzt hzx
  have hE5 := Y4.fr2 f4 h0t h0x
  have F5 := (F4.ext (by omega) o4).trans (Low.of_fr2 f4 (by omega) (by have := o4.size; omega))
  clear N4 o4 U4 C4 Y4 f4 T4 B4 R4 hE4 F4 hl4 ht4
  have c5 := B5.cell
  have z5 := R5.cell
  have y5 := R5.fr
  have K9 := put8_rd T5 hzt (R5.not8 (by decide)) (.int .i64 (u0.toNat : Int)) (.int .i64 (u1.toNat : Int)) (.int .i64 (u2.toNat : Int)) (.int .i64 (v0.toNat : Int)) (.int .i64 (v1.toNat : Int)) (.int .i64 (v2.toNat : Int)) (.int .i64 (v3.toNat : Int)) (.int .i64 (y.toNat : Int))
  have F9 := put8_low F5 (b := w.heap.size) (Nat.le_refl _) (.int .i64 (u0.toNat : Int)) (.int .i64 (u1.toNat : Int)) (.int .i64 (u2.toNat : Int)) (.int .i64 (v0.toNat : Int)) (.int .i64 (v1.toNat : Int)) (.int .i64 (v2.toNat : Int)) (.int .i64 (v3.toNat : Int)) (.int .i64 (y.toNat : Int))
  have HV := (show Hid _ from HL.out)
  clear B5 hE5 F5 T5
  go_wp2_with fail
  refine bodyPost_ret (v := .agg #[.int .i64 (u0.toNat : Int), .int .i64 (u1.toNat : Int), .int .i64 (u2.toNat : Int), .int .i64 (v0.toNat : Int), .int .i64 (v1.toNat : Int), .int .i64 (v2.toNat : Int), .int .i64 (v3.toNat : Int), .int .i64 (y.toNat : Int)]) (by simp [results, Tryd.results29, go_sem, z5]) rfl ⟨F9, Or.inl ⟨?_, ?_, ?_⟩⟩
  · rw [HV.out.1]; simp
  · rw [HV.out.2]
  · rw [HV.out.1]; exact K9
theorem takeRec_any (bt : Nat) (bs : List UInt8) (w : World) (T : Rd bt bs w) (hE : Early w) (h0 : 0 < bt) :
    Calls Tryd.prog 29 #[.pointer (some ⟨bt, 0, none⟩)] w fun e w' => Low w.heap.size bt w w' ∧ RecAns bt bs w' e := by
  match bs, T with
  | [], T => exact takeRec_short bt [] (by simp) w T hE h0
  | [_], T => exact takeRec_short bt _ (by simp) w T hE h0
  | [_, _], T => exact takeRec_short bt _ (by simp) w T hE h0
  | u0 :: u1 :: u2 :: rest, T =>
    by_cases h3 : (u0.toNat : Int) = 3
    · match rest, T with
      | [], T => exact takeRec_3s bt u0 u1 u2 [] h3 (by simp) w T hE h0
      | [_], T => exact takeRec_3s bt u0 u1 u2 _ h3 (by simp) w T hE h0
      | [_, _], T => exact takeRec_3s bt u0 u1 u2 _ h3 (by simp) w T hE h0
      | [_, _, _], T => exact takeRec_3s bt u0 u1 u2 _ h3 (by simp) w T hE h0
      | [v0, v1, v2, v3], T => exact takeRec_3t bt u0 u1 u2 v0 v1 v2 v3 h3 w T hE h0
      | v0 :: v1 :: v2 :: v3 :: y :: rest, T => exact takeRec_3 bt u0 u1 u2 v0 v1 v2 v3 y rest h3 w T hE h0
    · by_cases h1 : (u0.toNat : Int) = 1
      · match rest, T with
        | [], T => exact takeRec_1s bt u0 u1 u2 [] h1 (by simp) w T hE h0
        | [_], T => exact takeRec_1s bt u0 u1 u2 _ h1 (by simp) w T hE h0
        | [_, _], T => exact takeRec_1s bt u0 u1 u2 _ h1 (by simp) w T hE h0
        | [_, _, _], T => exact takeRec_1s bt u0 u1 u2 _ h1 (by simp) w T hE h0
        | v0 :: v1 :: v2 :: v3 :: rest, T => exact takeRec_1 bt u0 u1 u2 v0 v1 v2 v3 rest h1 w T hE h0
      · exact takeRec_0 bt u0 u1 u2 rest h3 h1 w T hE h0
end Go.Proofs.YtbfefocehnafgaaDoor.B
