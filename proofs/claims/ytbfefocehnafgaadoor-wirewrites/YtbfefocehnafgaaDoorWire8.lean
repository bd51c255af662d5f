/- Bytes read: the contract of pick. -/
import Derived.Test.YtbfefocehnafgaaDoorWire7
namespace Go.Proofs.YtbfefocehnafgaaDoor.B
set_option maxRecDepth 100000
open Go.ChangeShapes Go.WideShapes Go.ChangeAt Go.RowKit

theorem whole_short {s : List UInt8} (h : s.length < 13) : wholeWd s = false := by
  unfold wholeWd
  rw [Bool.and_eq_false_iff]
  left
  simp
  omega
theorem ptr1 {w : World} {b bq o : Nat} {t : TypeId} (h : Blk w b #[.pointer (some ⟨bq, o, none⟩)] t) : ∀ i, i < 1 → w.cell? ⟨b, 0 + i, none⟩ = some (.pointer (some ⟨bq, o + i, none⟩)) := fun i hi => by
  obtain rfl := lt1 hi
  rw [h.cell]
  rfl
/-- A tape's byte more. -/
theorem take1 (s : List UInt8) (n bt bw nb : Nat) (w : World) (T : Rd bt (s.drop n) w) (hE : Early w) (N : Blk w nb #[.pointer (some ⟨bw, n, none⟩)] 65) (B : Blk w bw (cellsN s n) 28) (hn : n < 12) (hl : n ≤ s.length)
    (h1 : bw ≠ bt) (h2 : bw ≠ nb) (h3 : nb ≠ bt) (h4 : 0 < bt) (h5 : 0 < bw) :
    Calls Tryd.prog 28 #[.pointer (some ⟨bt, 0, none⟩), .slice (some ⟨nb, 0, none⟩) 1 1] w fun e w' => Fr2 bt bw w w' ∧
      ((n + 1 ≤ s.length ∧ e = .returned (.tuple #[]) ∧ Rd bt (s.drop (n + 1)) w' ∧ Blk w' bw (cellsN s (n + 1)) 28) ∨
        (s.length = n ∧ (∃ t v, e = .panicked [{ v := .iface t v, recovered := false }]) ∧ Blk w' bw (cellsN s n) 28)) := by
  refine (tapeTake_any bt (s.drop n) nb 0 1 1 bw n (cellsN s n) 28 w T hE (ptr1 N) B (fun i hi => by obtain rfl := lt1 hi; have := cellsN_at s n hn hl; rw [Nat.zero_add] at this; exact ⟨_, this⟩) (by decide) h1 h2 h3 N.lt h4 h5 (by decide)).mono ?_
  rintro e w' ⟨f, ⟨hx, he, hR, hB⟩ | ⟨hx, he, hB⟩⟩
  · rw [List.length_drop] at hx
    refine ⟨f, Or.inl ⟨by omega, he, ?_, ?_⟩⟩
    · rw [List.drop_drop] at hR; exact hR
    · rw [cellsN_next s n (by omega), Nat.zero_add]; exact hB
  · rw [List.length_drop] at hx
    have hd : s.drop n = [] := List.drop_eq_nil_of_le (by omega)
    rw [hd] at hB
    exact ⟨f, Or.inr ⟨by omega, he, hB⟩⟩
theorem Rd.grown {bt : Nat} {bs : List UInt8} {w w' : World} {row : Option Nat} (h : Rd bt bs w) (g : w.grownBy w' row) (hb : row ≠ some bt) (h8 : ∀ k, row = some k → Not8 w k) : Rd bt bs w' := by
  obtain ⟨bb, off, cap, h1, h2, h3, h4, h5⟩ := h.there
  have he : w'.heap[bb]? = w.heap[bb]? := g.block bb h4.lt (fun e => h4.ne (h8 bb e.symm) rfl)
  obtain ⟨c, f, h4⟩ := h4
  refine ⟨bb, off, cap, h1.grown g hb, h2, h3, ⟨c, f, by rw [he]; exact h4⟩, fun i hi => ?_⟩
  have := h5 i hi
  simp only [World.cell?, he] at this ⊢
  exact this
/-- A row of records is no block of another kind. -/
theorem ownR_not {w : World} {base n k : Nat} {v : Value} {xs : List Value} {c : Array Value} {t : TypeId} (h : w.ownsRow base 46 8 v n xs) (hk : Blk w k c t) (ht : (t == 46) = false) : v.ownBlock ≠ some k := fun e => by
  rcases h.2 with ⟨rfl, _⟩ | ⟨g, cap, cur, rfl, _, hb, _⟩
  · simp [Value.ownBlock] at e
  · simp [Value.ownBlock] at e
    subst e
    unfold Blk at hk
    rw [hk] at hb
    injection hb with hb
    injection hb with _ hb _
    rw [hb] at ht
    simp at ht
theorem ownR_not8 {w : World} {base n : Nat} {v : Value} {xs : List Value} (h : w.ownsRow base 46 8 v n xs) : ∀ k, v.ownBlock = some k → Not8 w k := fun k e c f hk => by
  rcases h.2 with ⟨rfl, _⟩ | ⟨g, cap, cur, rfl, _, hb, _⟩
  · simp [Value.ownBlock] at e
  · simp [Value.ownBlock] at e
    subst e
    rw [hb] at hk
    injection hk with hk
    injection hk with _ hk _
    exact absurd hk (by decide)
theorem own_low {w w' : World} {base n bt size : Nat} {e : TypeId} {v : Value} {xs : List Value} (h : w.ownsRow base e size v n xs) (l : Low w.heap.size bt w w') (hb : v.ownBlock ≠ some bt) : w'.ownsRow base e size v n xs := by
  refine ⟨h.1, ?_⟩
  rcases h.2 with h0 | ⟨g, cap, cur, rfl, hg, hblk, h1, h2, h3, h4⟩
  · exact Or.inl h0
  · have hl : g < w.heap.size := by
      by_cases hx : g < w.heap.size
      · exact hx
      · have : w.heap[g]? = none := by simp; omega
        rw [this] at hblk; cases hblk
    exact Or.inr ⟨g, cap, cur, rfl, hg, by rw [l.block g hl (fun e => hb (by simp [Value.ownBlock, e]))]; exact hblk, h1, h2, h3, h4⟩
theorem Blk.low {n bt : Nat} {w w' : World} {k : Nat} {c : Array Value} {t : TypeId} (h : Blk w k c t) (l : Low n bt w w') (hk : k < n) (hb : k ≠ bt) : Blk w' k c t := by
  unfold Blk; rw [l.block k hk hb]; exact h
/-- How far the log is read. -/
def Upto (all : List UInt8) (l1 : List Rc) (r : List UInt8) : Prop := rdLog all = l1 ++ rdLog r ∧ whole all = whole r ∧ l1.length + r.length ≤ all.length
theorem upto_next {all : List UInt8} {l1 : List Rc} {r : List UInt8} (h : Upto all l1 r) (hr : r ≠ []) (hl : recLen (byteAt r 0) ≤ r.length) : Upto all (l1 ++ [rdRec r]) (r.drop (recLen (byteAt r 0))) := by
  obtain ⟨h1, h2, h3⟩ := h
  have h4 := recLen_pos (byteAt r 0)
  refine ⟨by rw [h1, rdLog_cons hr, List.append_assoc]; rfl, ?_, ?_⟩
  · rw [h2, whole_cons hr, decide_eq_true hl, Bool.true_and]
  · rw [List.length_append, List.length_singleton, List.length_drop]; omega
theorem upto_fail {all : List UInt8} {l1 : List Rc} {r : List UInt8} (h : Upto all l1 r) (hr : r ≠ []) (hl : r.length < recLen (byteAt r 0)) : whole all = false := by
  rw [h.2.1, whole_cons hr, decide_eq_false (by omega), Bool.false_and]
set_option maxHeartbeats 32000000 in
theorem pick_any (s : List UInt8) (hs : s.length ≤ 4096) (w : World) (hE : Early w) :
    Calls Tryd.prog 18 #[txt s] w fun e w' => Ext w w' ∧ PickAns w.heap.size s w' e := by
  have h0 := early_pos hE
  have hmf : ∀ (fn : Fn) (first cap : Array Value) (w : World), (Instr.makeFunc fn first cap).run Tryd.prog w = .ok (.func fn first cap) w := fun _ _ _ _ => rfl
  obtain ⟨w1, hw1⟩ : ∃ w1, (w.alloc (.cells zW 28)).alloc (.cells #[.bool false] 4) = w1 := ⟨_, rfl⟩
  have e1 : Ext w w1 := by rw [← hw1]; exact ((Ext.refl w).alloc _).alloc _
  have B1 : Blk w1 w.heap.size zW 28 := by rw [← hw1]; exact (Blk.new w _ _ _ rfl).alloc _
  have Z1 : Blk w1 (w.heap.size + 1) #[.bool false] 4 := by rw [← hw1]; exact Blk.new _ _ _ _ (by simp)
  have hs1 : w.heap.size + 2 ≤ w1.heap.size := by rw [← hw1]; simp
  obtain ⟨cap, f, hcap, hcm, hconv⟩ : ∃ cap f, s.length ≤ cap ∧ cap ≤ maxLen ∧ (convert 9 57 (txt s)).run Tryd.prog w1 = .ok (.slice (some ⟨w1.heap.size, 0, none⟩) s.length cap) (w1.alloc (.cells (bytesRow ⟨s.toArray⟩ cap) 5 f)).drew :=
    ⟨grownCap w1 s.length 0 5, _, grownCap_ge w1 s.length 0 5, grownCap_le_maxLen w1 s.length 0 5 (by unfold maxLen; omega), run_bytes_of_string (P := Tryd.prog) w1 9 57 5 ⟨s.toArray⟩ Tryd.underlying9 Tryd.underlying57 Tryd.underlying5⟩
  have T0 := rd_new w1 s cap f hcap hcm
  have e2 := ((Ext.refl w1).alloc (.cells (bytesRow ⟨s.toArray⟩ cap) 5 f)).alloc (.cells #[.slice (some ⟨w1.heap.size, 0, none⟩) s.length cap] 57)
  obtain ⟨W0, hW0⟩ : ∃ W0, (((w1.alloc (.cells (bytesRow ⟨s.toArray⟩ cap) 5 f)).alloc (.cells #[.slice (some ⟨w1.heap.size, 0, none⟩) s.length cap] 57)).drew) = W0 := ⟨_, rfl⟩
  have E0 : Ext w W0 := by rw [← hW0]; exact (e1.trans e2).drew
  have R0 : Rd (w1.heap.size + 1) s W0 := by rw [← hW0]; exact T0.ext (Ext.refl _).drew
  have C0 : Blk W0 w.heap.size (cellsN s 0) 28 := by rw [← hW0]; exact ((B1.ext e2).drew : _)
  have Z0 : Blk W0 (w.heap.size + 1) #[.bool false] 4 := by rw [← hW0]; exact ((Z1.ext e2).drew : _)
  clear T0 e2 B1 Z1 e1
  go_enter_defers Tryd.func18, Tryd.ntmps18
  go_wp2_with fail
  clear hconv hw1 hW0 hmf
  obtain ⟨bt, hbt⟩ : ∃ bt, w1.heap.size + 1 = bt := ⟨_, rfl⟩
  rw [hbt] at R0 ⊢
  have hbt2 : w.heap.size + 3 ≤ bt := by omega
  clear hbt hs1
  have hE0 := hE.ext E0
  have hW0l := R0.lt
  go_loopw [11] (fun i wr => ∃ k : Nat, k ≤ 3 ∧ i = .int .i64 k ∧ k * 4 ≤ s.length ∧ Rd bt (s.drop (k * 4)) wr ∧ Blk wr w.heap.size (cellsN s (k * 4)) 28 ∧ Fr2 bt w.heap.size W0 wr) (fun i _ => 3 - (intOf i).toNat)
  case atStart => exact ⟨0, by omega, rfl, by omega, by simpa using R0, C0, Fr2.refl _ _ _⟩
  case round =>
    obtain ⟨k, hk, rfl, hkl, R, C, F⟩ := hrel
    by_cases hlt : k < 3
    · have hkI : (k : Int) < 3 := by omega
      go_wp2_with fail
      go_loopw [17] (fun i wq => ∃ j : Nat, j ≤ 3 ∧ i = .int .i64 j ∧ k * 4 + j ≤ s.length ∧ Rd bt (s.drop (k * 4 + j)) wq ∧ Blk wq w.heap.size (cellsN s (k * 4 + j)) 28 ∧ Fr2 bt w.heap.size W0 wq) (fun i _ => 3 - (intOf i).toNat)
      case atStart => exact ⟨0, by omega, rfl, hkl, R, C, F⟩
      case round =>
        obtain ⟨j, hj, rfl, hjl, R, C, F⟩ := hrel
        by_cases hjt : j < 3
        · have hjI : (j : Int) < 3 := by omega
          have hEr := hE0.fr2 F (by omega) h0
          have hCl := C.lt
          have hRl := R.lt
          have hFs := F.size
          have N := Blk.new wr wr.heap.size #[.pointer (some ⟨w.heap.size, k * 4 + j, none⟩)] 65 rfl
          have o5 := (Ext.refl wr).alloc (.cells #[.pointer (some ⟨w.heap.size, k * 4 + j, none⟩)] 65)
          go_wp2_with fail
          refine (take1 s (k * 4 + j) bt w.heap.size wr.heap.size _ (R.ext o5) (hEr.ext o5) N (C.ext o5) (by omega) hjl (by omega) (by omega) (by omega) (by omega) h0).mono ?_
          rintro e w5 ⟨f5, ⟨h5, rfl, R5, C5⟩ | ⟨h5, ⟨te, ve, rfl⟩, C5⟩⟩
          · have F5 := (F.ext o5).trans f5
            clear R C F N o5 f5 hEr
            go_wp2_with fail
            go_roundw
            case rel => exact ⟨j + 1, by omega, by go_num, by omega, R5, C5, F5⟩
            case measure => simp [intOf]; omega
          · have F5 := (F.ext o5).trans f5
            obtain ⟨P9, Q9, R9, S9, hsh⟩ := cellsN_shape s (k * 4 + j) (by omega)
            rw [hsh] at C5
            have Z5 := Z0.fr2 F5 (by omega) (by omega)
            have E5 : Ext w w5 := Below.trans E0 (F5.below (by omega) (Nat.le_refl _) (by omega))
            have HNo : Hid (wholeWd s = false) := whole_short (by omega)
            clear R C F N o5 f5 hEr F5 hsh
            have bq := C5.other ⟨w.heap.size + 1, 0, none⟩ (.bool false) (by show w.heap.size ≠ w.heap.size + 1; omega)
            have zq := Z5.set 0 (.bool false)
            have eq9 := (E5).setCell (p := ⟨w.heap.size + 1, 0, none⟩) (by show w.heap.size ≤ w.heap.size + 1; omega) (.bool false)
            have zc := Z5.cell 0
            have zf := Z5.fr 0
            have bqc := bq.cell
            have zqc := zq.cell
            go_wp2_with fail
            refine leaves_cons (f := 27) (args := #[.pointer (some ⟨w.heap.size + 1, 0, none⟩)]) (by simp) (by simp [go_sem]) ?_
            refine (pickCatch_panic ⟨w.heap.size + 1, 0, none⟩ te ve false _ zc zf).mono ?_
            rintro e u' w9 ⟨rfl, rfl, rfl⟩
            refine ⟨.tuple #[wdVal P9 Q9 R9 (.slice none 0 0) S9, .bool false], ?_, eq9, Or.inr ⟨HNo.out, _, _, _, _, _, _, _, rfl⟩⟩
            simp [results, Tryd.results18, go_sem, bqc, zqc]
        · have hj3 : j = 3 := by omega
          subst hj3
          have hEr := hE0.fr2 F (by omega) h0
          have hCl := C.lt
          have hRl := R.lt
          have hFs := F.size
          have N := Blk.new wr wr.heap.size #[.pointer (some ⟨w.heap.size, k * 4 + 3, none⟩)] 65 rfl
          have o5 := (Ext.refl wr).alloc (.cells #[.pointer (some ⟨w.heap.size, k * 4 + 3, none⟩)] 65)
          go_wp2_with fail
          refine (take1 s (k * 4 + 3) bt w.heap.size wr.heap.size _ (R.ext o5) (hEr.ext o5) N (C.ext o5) (by omega) hjl (by omega) (by omega) (by omega) (by omega) h0).mono ?_
          rintro e w5 ⟨f5, ⟨h5, rfl, R5, C5⟩ | ⟨h5, ⟨te, ve, rfl⟩, C5⟩⟩
          · have F5 := (F.ext o5).trans f5
            clear R C F N o5 f5 hEr
            go_wp2_with fail
            go_roundw
            case rel => exact ⟨k + 1, by omega, by go_num, by omega, by rw [show (k + 1) * 4 = k * 4 + 3 + 1 from by omega]; exact R5, by rw [show (k + 1) * 4 = k * 4 + 3 + 1 from by omega]; exact C5, F5⟩
            case measure => simp [intOf]; omega
          · have F5 := (F.ext o5).trans f5
            obtain ⟨P9, Q9, R9, S9, hsh⟩ := cellsN_shape s (k * 4 + 3) (by omega)
            rw [hsh] at C5
            have Z5 := Z0.fr2 F5 (by omega) (by omega)
            have E5 : Ext w w5 := Below.trans E0 (F5.below (by omega) (Nat.le_refl _) (by omega))
            have HNo : Hid (wholeWd s = false) := whole_short (by omega)
            clear R C F N o5 f5 hEr F5 hsh
            have bq := C5.other ⟨w.heap.size + 1, 0, none⟩ (.bool false) (by show w.heap.size ≠ w.heap.size + 1; omega)
            have zq := Z5.set 0 (.bool false)
            have eq9 := (E5).setCell (p := ⟨w.heap.size + 1, 0, none⟩) (by show w.heap.size ≤ w.heap.size + 1; omega) (.bool false)
            have zc := Z5.cell 0
            have zf := Z5.fr 0
            have bqc := bq.cell
            have zqc := zq.cell
            go_wp2_with fail
            refine leaves_cons (f := 27) (args := #[.pointer (some ⟨w.heap.size + 1, 0, none⟩)]) (by simp) (by simp [go_sem]) ?_
            refine (pickCatch_panic ⟨w.heap.size + 1, 0, none⟩ te ve false _ zc zf).mono ?_
            rintro e u' w9 ⟨rfl, rfl, rfl⟩
            refine ⟨.tuple #[wdVal P9 Q9 R9 (.slice none 0 0) S9, .bool false], ?_, eq9, Or.inr ⟨HNo.out, _, _, _, _, _, _, _, rfl⟩⟩
            simp [results, Tryd.results18, go_sem, bqc, zqc]
    · have hk3 : k = 3 := by omega
      subst hk3
      have hEr := hE0.fr2 F (by omega) h0
      have hCl := C.lt
      have hRl := R.lt
      have hFs := F.size
      rw [show 3 * 4 = 12 from rfl] at R C hkl
      have N := Blk.new wr wr.heap.size #[.pointer (some ⟨w.heap.size, 13, none⟩)] 65 rfl
      have o5 := (Ext.refl wr).alloc (.cells #[.pointer (some ⟨w.heap.size, 13, none⟩)] 65)
      go_wp2_with fail
      refine (tapeTake_any bt (s.drop 12) wr.heap.size 0 1 1 w.heap.size 13 (cellsN s 12) 28 _ (R.ext o5) (hEr.ext o5) (ptr1 N) (C.ext o5) (fun i hi => by obtain rfl := lt1 hi; exact ⟨_, cells12_13 s hkl⟩) (by decide) (by omega) (by omega) (by omega) N.lt (by omega) h0 (by decide)).mono ?_
      rintro e w5 ⟨f5, ⟨h5, rfl, R5, C5⟩ | ⟨h5, ⟨te, ve, rfl⟩, C5⟩⟩
      · have F5 := (F.ext o5).trans f5
        rw [List.length_drop] at h5
        rw [head_cells s (by omega)] at C5
        rw [List.drop_drop, show 12 + 1 = 13 from rfl] at R5
        have E5 : Ext w w5 := Below.trans E0 (F5.below (by omega) (Nat.le_refl _) (by omega))
        have Z5 := Z0.fr2 F5 (by omega) (by omega)
        have hE5 := hEr.fr2 ((Fr2.refl _ _ _).ext o5 |>.trans f5) (by omega) h0
        have hF5s := F5.size
        have HWh : Hid (wholeWd s = whole (s.drop 13)) := by show _ = _; unfold wholeWd; rw [decide_eq_true (show 13 ≤ s.length by omega), Bool.true_and]
        have HLog : Hid ((rdWd s).l = rdLog (s.drop 13)) := rfl
        have hal : (s.drop 13).length ≤ 4096 := by rw [List.length_drop]; omega
        clear R C F N o5 f5 hEr hE0 E0 Z0 R0 C0
        generalize hP : (rdWd s).p = P at *
        generalize hQ : (rdWd s).q = Q at *
        generalize hR : (rdWd s).r = R at *
        generalize hS : (rdWd s).safe = S at *
        have HPQ : Hid ((rdWd s).p = P ∧ (rdWd s).q = Q ∧ (rdWd s).r = R ∧ (rdWd s).safe = S) := ⟨hP, hQ, hR, hS⟩
        clear hP hQ hR hS
        generalize s.drop 13 = all at *
        have HU0 : Hid (Upto all [] all) := ⟨rfl, rfl, by simp⟩
        have own0 : w5.ownsRow w5.heap.size 46 8 (.slice none 0 0) ([] : List Rc).length (flat []) := ⟨rfl, Or.inl ⟨rfl, rfl⟩⟩
        obtain ⟨i0, hi, hz0, hz1, hz2⟩ := info_parts infoRec
        have HI := (show Hid _ from hi)
        have Z0 := (show Hid _ from hz0)
        have Z1 := (show Hid _ from hz1)
        have Z2 := (show Hid _ from hz2)
        clear hi hz0 hz1 hz2
        have hC5l := C5.lt
        have hR5l := R5.lt
        have hZ5l := Z5.lt
        go_wp2_with fail
        go_loopg [] all.length (fun n wr => ∃ (l1 : List Rc) (r : List UInt8) (v : Value), r.length = n ∧ Hid (Upto all l1 r) ∧ Rd bt r wr ∧ Blk wr w.heap.size (wdCells P Q R v S) 28 ∧ wr.ownsRow w5.heap.size 46 8 v l1.length (flat l1) ∧ Fr2 bt w.heap.size w5 wr)
        case atStart => exact ⟨[], all, _, rfl, HU0, R5, C5, own0, Fr2.refl _ _ _⟩
        case round =>
          obtain ⟨l1, r, v, hrn, HU, R7, C7, own7, F7⟩ := hrel
          subst hrn
          have E7 : Ext w wr := Below.trans E5 (F7.below (by omega) (Nat.le_refl _) (by omega))
          have Z7 := Z5.fr2 F7 (by omega) (by omega)
          have hE7 := hE5.fr2 F7 (by omega) h0
          have hF7s := F7.size
          have hll := HU.out.2.2
          obtain ⟨av, cv, rfl, hrec, hle, hnil⟩ := recs_own' own7
          have hgeo := own_ge own7
          by_cases hr : r = []
          · subst hr
            obtain ⟨bb, off, capT, T7, _⟩ := R7.there
            have t7 := T7.cell
            have HD : Hid (rdLog all = l1 ∧ whole all = true) := ⟨by rw [HU.out.1]; simp [rdLog_nil], by rw [HU.out.2.1]; rfl⟩
            have hin : LogIn wr av l1.length cv l1 := ⟨hrec, hle, by unfold maxLen; omega, hnil⟩
            have c7 := C7.cell
            have f7 := C7.fr
            have C8 := put14_blk C7 (.int .i64 P.c0) (.int .i64 P.c1) (.int .i64 P.c2) (.int .i64 P.last) (.int .i64 Q.c0) (.int .i64 Q.c1) (.int .i64 Q.c2) (.int .i64 Q.last) (.int .i64 R.c0) (.int .i64 R.c1) (.int .i64 R.c2) (.int .i64 R.last) (.slice av l1.length cv) (.int .i64 S)
            have G8 := put14_gr wr w.heap.size (.int .i64 P.c0) (.int .i64 P.c1) (.int .i64 P.c2) (.int .i64 P.last) (.int .i64 Q.c0) (.int .i64 Q.c1) (.int .i64 Q.c2) (.int .i64 Q.last) (.int .i64 R.c0) (.int .i64 R.c1) (.int .i64 R.c2) (.int .i64 R.last) (.slice av l1.length cv) (.int .i64 S)
            have Z8 := put14_other Z7 w.heap.size (by omega) (.int .i64 P.c0) (.int .i64 P.c1) (.int .i64 P.c2) (.int .i64 P.last) (.int .i64 Q.c0) (.int .i64 Q.c1) (.int .i64 Q.c2) (.int .i64 Q.last) (.int .i64 R.c0) (.int .i64 R.c1) (.int .i64 R.c2) (.int .i64 R.last) (.slice av l1.length cv) (.int .i64 S)
            have E8 := put14_ext E7 w.heap.size (Nat.le_refl _) (.int .i64 P.c0) (.int .i64 P.c1) (.int .i64 P.c2) (.int .i64 P.last) (.int .i64 Q.c0) (.int .i64 Q.c1) (.int .i64 Q.c2) (.int .i64 Q.last) (.int .i64 R.c0) (.int .i64 R.c1) (.int .i64 R.c2) (.int .i64 R.last) (.slice av l1.length cv) (.int .i64 S)
            have hav : ∀ ad, av = some ad → w5.heap.size ≤ ad.block := fun ad e => hgeo ad.block (by rw [e]; rfl)
            have L8 := hin.gr G8 (fun ad e e2 => by injection e2 with e2; have := hav ad e; omega)
            obtain ⟨w8, hw8⟩ : ∃ w8, put14 wr w.heap.size (.int .i64 P.c0) (.int .i64 P.c1) (.int .i64 P.c2) (.int .i64 P.last) (.int .i64 Q.c0) (.int .i64 Q.c1) (.int .i64 Q.c2) (.int .i64 Q.last) (.int .i64 R.c0) (.int .i64 R.c1) (.int .i64 R.c2) (.int .i64 R.last) (.slice av l1.length cv) (.int .i64 S) = w8 := ⟨_, rfl⟩
            rw [hw8] at C8 Z8 E8 L8
            have z8 := Z8.cell 0
            have y8 := Z8.fr 0
            have z8b := (Z8.set 0 (.bool true)).cell 0
            have y8b := (Z8.set 0 (.bool true)).fr 0
            have c9 := ((C8.other ⟨w.heap.size + 1, 0, none⟩ (.bool true) (by show w.heap.size ≠ w.heap.size + 1; omega)).other ⟨w.heap.size + 1, 0, none⟩ (.bool true) (by show w.heap.size ≠ w.heap.size + 1; omega)).cell
            have z9 := ((Z8.set 0 (.bool true)).set 0 (.bool true)).cell
            have E9 := (E8.setCell (p := ⟨w.heap.size + 1, 0, none⟩) (by show w.heap.size ≤ w.heap.size + 1; omega) (.bool true)).setCell (p := ⟨w.heap.size + 1, 0, none⟩) (by show w.heap.size ≤ w.heap.size + 1; omega) (.bool true)
            have L9 := L8.gr (((Gr.refl (some (w.heap.size + 1)) w8).set (p := ⟨w.heap.size + 1, 0, none⟩) (Or.inr rfl) (.bool true)).set (p := ⟨w.heap.size + 1, 0, none⟩) (Or.inr rfl) (.bool true)) (fun ad e e2 => by injection e2 with e2; have := hav ad e; omega)
            have HL9 := (show Hid _ from L9)
            have HE9 := (show Hid _ from E9)
            have HAv : Hid (∀ ad, av = some ad → w.heap.size ≤ ad.block) := fun ad e => by have := hav ad e; omega
            clear R7 own7 F7 E7 Z7 T7 hin G8 C8 L8 L9 E8 E9 hrec hgeo hav HU hE7 hle hnil
            go_wp2_with fail
            refine leaves_cons (f := 27) (args := #[.pointer (some ⟨w.heap.size + 1, 0, none⟩)]) (by simp) (by simp [go_sem]) ?_
            refine (pickCatch_idle ⟨w.heap.size + 1, 0, none⟩ true _ z8b y8b).mono ?_
            rintro e u' w9 ⟨rfl, rfl, rfl⟩
            refine ⟨.tuple #[wdVal P Q R (.slice av l1.length cv) S, .bool true], ?_, HE9.out, Or.inl ⟨by rw [HWh.out, HD.out.2], av, cv, ?_, ?_, HAv.out⟩⟩
            · simp [results, Tryd.results18, go_sem, c9, z9]
            · rw [HLog.out, HD.out.1, HPQ.out.1, HPQ.out.2.1, HPQ.out.2.2.1, HPQ.out.2.2.2]
            · rw [HLog.out, HD.out.1]; exact HL9.out
          · have hrl : 0 < r.length := Nat.pos_of_ne_zero (fun e => hr (List.length_eq_zero_iff.1 e))
            have hrI : ((0 : Int) < (r.length : Int)) := by omega
            obtain ⟨bb, off, capT, T7, _⟩ := R7.there
            have t7 := T7.cell
            have HN : Hid (recLen (byteAt r 0) ≤ r.length → Upto all (l1 ++ [rdRec r]) (r.drop (recLen (byteAt r 0)))) := fun x => upto_next HU.out hr x
            have HF : Hid (r.length < recLen (byteAt r 0) → wholeWd s = false) := fun x => by rw [HWh.out]; exact upto_fail HU.out hr x
            have hlen1 : l1.length ≤ 4096 := by omega
            have hC7l := C7.lt
            have hR7l := R7.lt
            have hrp := (recLen_pos (byteAt r 0)).1
            have hnbt := ownR_not own7 T7 (by decide)
            have hnbw := ownR_not own7 C7 (by decide)
            have hn8 := ownR_not8 own7
            clear hE hcap hcm HU hrec hle hnil
            go_wp2_with fail
            clear t7
            have Ed := (Ext.refl wr).drew
            refine wp_region_held_drew (S := fun _ => True) (by kernel_rfl) trivial (fun hHeld => ?_)
            refine wpAnyH_ready (rs := [0, 2]) (by kernel_rfl) (by simp) ?_
            refine AllReadyH.cons rfl (fun K hK => ?_) (AllReadyH.cons rfl (fun K hK => ?_) AllReadyH.nil)
            · go_simp
              refine hK.out _ _ trivial (fun hHeld => ?_)
              clear hK K
              refine wpAnyH_ready (rs := [1, 2]) (by kernel_rfl) (by simp) ?_
              refine AllReadyH.cons rfl (fun K hK => ?_) (AllReadyH.cons rfl (fun K hK => ?_) AllReadyH.nil)
              · have c12 := (C7.ext Ed).cell 12
                go_simp
                refine hK.out _ _ trivial (fun hHeld => ?_)
                clear hK K
                clear c12
                refine wpAnyH_ready (rs := [2]) (by kernel_rfl) (by simp) ?_
                refine AllReadyH.cons rfl (fun K hK => ?_) AllReadyH.nil
                go_simp
                refine (takeRec_any bt r _ (R7.ext Ed) (hE7.ext Ed) (by omega)).mono ?_
                rintro e w8 ⟨L8, ⟨h8, rfl, R8⟩ | ⟨h8, te, ve, rfl⟩⟩
                rotate_left
                · have C8 := (C7.ext Ed).low L8 (by show w.heap.size < wr.heap.size; omega) (by omega)
                  have Z8 := (Z7.ext Ed).low L8 (by show w.heap.size + 1 < wr.heap.size; omega) (by omega)
                  have HNo := (show Hid _ from HF.out h8)
                  have E8 : Ext w w8 := Below.trans E7 ⟨L8.os, L8.tape, L8.output, L8.size, fun k hk => L8.block k (by show k < wr.heap.size; omega) (by omega)⟩
                  clear HN HF own7 R7 F7 L8 hHeld
                  have bq := C8.other ⟨w.heap.size + 1, 0, none⟩ (.bool false) (by show w.heap.size ≠ w.heap.size + 1; omega)
                  have zq := Z8.set 0 (.bool false)
                  have eq9 := (E8).setCell (p := ⟨w.heap.size + 1, 0, none⟩) (by show w.heap.size ≤ w.heap.size + 1; omega) (.bool false)
                  have zc := Z8.cell 0
                  have zf := Z8.fr 0
                  have bqc := bq.cell
                  have zqc := zq.cell
                  go_wp2_with fail
                  refine leaves_cons (f := 27) (args := #[.pointer (some ⟨w.heap.size + 1, 0, none⟩)]) (by simp) (by simp [go_sem]) ?_
                  refine (pickCatch_panic ⟨w.heap.size + 1, 0, none⟩ te ve false _ zc zf).mono ?_
                  rintro e u' w9 ⟨rfl, rfl, rfl⟩
                  refine ⟨.tuple #[wdVal P Q R (.slice av l1.length cv) S, .bool false], ?_, eq9, Or.inr ⟨HNo.out, _, _, _, _, _, _, _, rfl⟩⟩
                  simp [results, Tryd.results18, go_sem, bqc, zqc]
                have C8 := (C7.ext Ed).low L8 (by show w.heap.size < wr.heap.size; omega) (by omega)
                have own8 := own_low (own_ext own7 Ed) L8 hnbt
                have F8 : Fr2 bt w.heap.size w5 w8 := F7.trans ⟨L8.os, L8.tape, L8.output, L8.size, fun k hk h1 _ => L8.block k hk h1⟩
                have hs8 := L8.size
                have HN8 : Hid (Upto all (l1 ++ [rdRec r]) (r.drop (recLen (byteAt r 0)))) := HN.out h8
                have hm8 : (r.drop (recLen (byteAt r 0))).length < r.length := by rw [List.length_drop]; omega
                go_wp2_with fail
                refine hK.out _ _ trivial (fun hHeld => ?_)
                clear hK K HN HF L8
                generalize rdRec r = rc at *
                generalize r.drop (recLen (byteAt r 0)) = r2 at *
                obtain ⟨x0, x1, x2, x3, x4, x5, x6, x7⟩ := rc
                have o9 := (Ext.refl w8).alloc (.cells #[.int .i64 x0, .int .i64 x1, .int .i64 x2, .int .i64 x3, .int .i64 x4, .int .i64 x5, .int .i64 x6, .int .i64 x7] 46)
                have C9 := C8.ext o9
                have R9 := R8.ext o9
                have own9 := own_ext own8 o9
                have F9 := F8.ext o9
                refine wpAnyH_ready (rs := [3]) (by kernel_rfl) (by simp) ?_
                refine AllReadyH.cons rfl (fun K hK => ?_) AllReadyH.nil
                go_simp
                refine hK.out _ _ trivial (fun hHeld => ?_)
                clear hK K
                refine wpAnyH_ready (rs := [4]) (by kernel_rfl) (by simp) ?_
                refine AllReadyH.cons rfl (fun K hK => ?_) AllReadyH.nil
                refine step_append_lies _ rfl _ _ 26 rfl w5.heap.size 46 i0 (.agg #[.int .i64 0, .int .i64 0, .int .i64 0, .int .i64 0, .int .i64 0, .int .i64 0, .int .i64 0, .int .i64 0]) 8 64 Tryd.underlying26 HI.out Z0.out Z1.out Z2.out rfl (by decide) (.slice av l1.length cv) l1.length (flat l1) rfl own9 ⟨w8.heap.size, 0, none⟩ 1 1 (Rc.mk x0 x1 x2 x3 x4 x5 x6 x7).cs.toList rfl rfl (cells_new _ (Rc.mk x0 x1 x2 x3 x4 x5 x6 x7).cs.toList _ _ rfl) (cs_oneCell _) (by decide) (by unfold maxLen; omega) (by omega) (by have := F9.size; omega) _ rfl ?_
                intro g cap' w10 hown' hgrow _ _
                have C10 := C9.grown hgrow hnbw
                have R10 := R9.grown hgrow hnbt (ownR_not8 own9)
                refine hK.out _ _ trivial (fun hHeld => ?_)
                clear hK K
                refine wpAnyH_ready (rs := [5]) (by kernel_rfl) (by simp) ?_
                refine AllReadyH.cons rfl (fun K hK => ?_) AllReadyH.nil
                go_simp
                refine hK.out _ _ trivial (fun hHeld => ?_)
                clear hK K
                have c12 := C10.cell 12
                have f12 := C10.fr 12
                refine wpAnyH_ready (rs := [6]) (by kernel_rfl) (by simp) ?_
                refine AllReadyH.cons rfl (fun K hK => ?_) AllReadyH.nil
                go_simp
                have C11 := C10.set 12 (.slice (some ⟨g, 0, none⟩) (l1.length + 1) cap')
                have R11 := R10.set (bq := w.heap.size) (by omega) (C10.not8 (by decide)) 12 (.slice (some ⟨g, 0, none⟩) (l1.length + 1) cap')
                have own11 := own_other hown' (p := ⟨w.heap.size, 12, none⟩) (ownR_not hown' C10 (by decide)) (.slice (some ⟨g, 0, none⟩) (l1.length + 1) cap')
                have F10 : Fr2 bt w.heap.size w5 w10 := ⟨hgrow.os.trans F9.os, hgrow.tape.trans F9.tape, hgrow.output.trans F9.output, Nat.le_trans F9.size hgrow.size, fun k hk h1 h2 => by rw [hgrow.block k (Nat.lt_of_lt_of_le hk F9.size) (fun e => by have := own_ge own9 k e.symm; omega), F9.block k hk h1 h2]⟩
                have F11 := F10.set (p := ⟨w.heap.size, 12, none⟩) (Or.inr rfl) (.slice (some ⟨g, 0, none⟩) (l1.length + 1) cap')
                refine hK.out _ _ trivial (fun hHeld => ?_)
                clear hK K hHeld c12 f12
                refine wpAnyH_done (by kernel_rfl) ?_ _
                go_wp2_with fail
                go_roundg r2.length
                case measure => exact hm8
                case rel => exact ⟨l1 ++ [⟨x0, x1, x2, x3, x4, x5, x6, x7⟩], r2, _, rfl, HN8, R11, C11, by rw [List.length_append, flat_snoc]; exact own11, F11⟩
              · go_simp
                refine (takeRec_any bt r _ (R7.ext Ed) (hE7.ext Ed) (by omega)).mono ?_
                rintro e w8 ⟨L8, ⟨h8, rfl, R8⟩ | ⟨h8, te, ve, rfl⟩⟩
                rotate_left
                · have C8 := (C7.ext Ed).low L8 (by show w.heap.size < wr.heap.size; omega) (by omega)
                  have Z8 := (Z7.ext Ed).low L8 (by show w.heap.size + 1 < wr.heap.size; omega) (by omega)
                  have HNo := (show Hid _ from HF.out h8)
                  have E8 : Ext w w8 := Below.trans E7 ⟨L8.os, L8.tape, L8.output, L8.size, fun k hk => L8.block k (by show k < wr.heap.size; omega) (by omega)⟩
                  clear HN HF own7 R7 F7 L8 hHeld
                  have bq := C8.other ⟨w.heap.size + 1, 0, none⟩ (.bool false) (by show w.heap.size ≠ w.heap.size + 1; omega)
                  have zq := Z8.set 0 (.bool false)
                  have eq9 := (E8).setCell (p := ⟨w.heap.size + 1, 0, none⟩) (by show w.heap.size ≤ w.heap.size + 1; omega) (.bool false)
                  have zc := Z8.cell 0
                  have zf := Z8.fr 0
                  have bqc := bq.cell
                  have zqc := zq.cell
                  go_wp2_with fail
                  refine leaves_cons (f := 27) (args := #[.pointer (some ⟨w.heap.size + 1, 0, none⟩)]) (by simp) (by simp [go_sem]) ?_
                  refine (pickCatch_panic ⟨w.heap.size + 1, 0, none⟩ te ve false _ zc zf).mono ?_
                  rintro e u' w9 ⟨rfl, rfl, rfl⟩
                  refine ⟨.tuple #[wdVal P Q R (.slice av l1.length cv) S, .bool false], ?_, eq9, Or.inr ⟨HNo.out, _, _, _, _, _, _, _, rfl⟩⟩
                  simp [results, Tryd.results18, go_sem, bqc, zqc]
                have C8 := (C7.ext Ed).low L8 (by show w.heap.size < wr.heap.size; omega) (by omega)
                have own8 := own_low (own_ext own7 Ed) L8 hnbt
                have F8 : Fr2 bt w.heap.size w5 w8 := F7.trans ⟨L8.os, L8.tape, L8.output, L8.size, fun k hk h1 _ => L8.block k hk h1⟩
                have hs8 := L8.size
                have HN8 : Hid (Upto all (l1 ++ [rdRec r]) (r.drop (recLen (byteAt r 0)))) := HN.out h8
                have hm8 : (r.drop (recLen (byteAt r 0))).length < r.length := by rw [List.length_drop]; omega
                go_wp2_with fail
                refine hK.out _ _ trivial (fun hHeld => ?_)
                clear hK K HN HF L8
                generalize rdRec r = rc at *
                generalize r.drop (recLen (byteAt r 0)) = r2 at *
                obtain ⟨x0, x1, x2, x3, x4, x5, x6, x7⟩ := rc
                have o9 := (Ext.refl w8).alloc (.cells #[.int .i64 x0, .int .i64 x1, .int .i64 x2, .int .i64 x3, .int .i64 x4, .int .i64 x5, .int .i64 x6, .int .i64 x7] 46)
                have C9 := C8.ext o9
                have R9 := R8.ext o9
                have own9 := own_ext own8 o9
                have F9 := F8.ext o9
                refine wpAnyH_ready (rs := [1, 3]) (by kernel_rfl) (by simp) ?_
                refine AllReadyH.cons rfl (fun K hK => ?_) (AllReadyH.cons rfl (fun K hK => ?_) AllReadyH.nil)
                · have c12 := C8.cell 12
                  go_simp
                  refine hK.out _ _ trivial (fun hHeld => ?_)
                  clear hK K
                  clear c12
                  refine wpAnyH_ready (rs := [3]) (by kernel_rfl) (by simp) ?_
                  refine AllReadyH.cons rfl (fun K hK => ?_) AllReadyH.nil
                  go_simp
                  refine hK.out _ _ trivial (fun hHeld => ?_)
                  clear hK K
                  refine wpAnyH_ready (rs := [4]) (by kernel_rfl) (by simp) ?_
                  refine AllReadyH.cons rfl (fun K hK => ?_) AllReadyH.nil
                  refine step_append_lies _ rfl _ _ 26 rfl w5.heap.size 46 i0 (.agg #[.int .i64 0, .int .i64 0, .int .i64 0, .int .i64 0, .int .i64 0, .int .i64 0, .int .i64 0, .int .i64 0]) 8 64 Tryd.underlying26 HI.out Z0.out Z1.out Z2.out rfl (by decide) (.slice av l1.length cv) l1.length (flat l1) rfl own9 ⟨w8.heap.size, 0, none⟩ 1 1 (Rc.mk x0 x1 x2 x3 x4 x5 x6 x7).cs.toList rfl rfl (cells_new _ (Rc.mk x0 x1 x2 x3 x4 x5 x6 x7).cs.toList _ _ rfl) (cs_oneCell _) (by decide) (by unfold maxLen; omega) (by omega) (by have := F9.size; omega) _ rfl ?_
                  intro g cap' w10 hown' hgrow _ _
                  have C10 := C9.grown hgrow hnbw
                  have R10 := R9.grown hgrow hnbt (ownR_not8 own9)
                  refine hK.out _ _ trivial (fun hHeld => ?_)
                  clear hK K
                  refine wpAnyH_ready (rs := [5]) (by kernel_rfl) (by simp) ?_
                  refine AllReadyH.cons rfl (fun K hK => ?_) AllReadyH.nil
                  go_simp
                  refine hK.out _ _ trivial (fun hHeld => ?_)
                  clear hK K
                  have c12 := C10.cell 12
                  have f12 := C10.fr 12
                  refine wpAnyH_ready (rs := [6]) (by kernel_rfl) (by simp) ?_
                  refine AllReadyH.cons rfl (fun K hK => ?_) AllReadyH.nil
                  go_simp
                  have C11 := C10.set 12 (.slice (some ⟨g, 0, none⟩) (l1.length + 1) cap')
                  have R11 := R10.set (bq := w.heap.size) (by omega) (C10.not8 (by decide)) 12 (.slice (some ⟨g, 0, none⟩) (l1.length + 1) cap')
                  have own11 := own_other hown' (p := ⟨w.heap.size, 12, none⟩) (ownR_not hown' C10 (by decide)) (.slice (some ⟨g, 0, none⟩) (l1.length + 1) cap')
                  have F10 : Fr2 bt w.heap.size w5 w10 := ⟨hgrow.os.trans F9.os, hgrow.tape.trans F9.tape, hgrow.output.trans F9.output, Nat.le_trans F9.size hgrow.size, fun k hk h1 h2 => by rw [hgrow.block k (Nat.lt_of_lt_of_le hk F9.size) (fun e => by have := own_ge own9 k e.symm; omega), F9.block k hk h1 h2]⟩
                  have F11 := F10.set (p := ⟨w.heap.size, 12, none⟩) (Or.inr rfl) (.slice (some ⟨g, 0, none⟩) (l1.length + 1) cap')
                  refine hK.out _ _ trivial (fun hHeld => ?_)
                  clear hK K hHeld c12 f12
                  refine wpAnyH_done (by kernel_rfl) ?_ _
                  go_wp2_with fail
                  go_roundg r2.length
                  case measure => exact hm8
                  case rel => exact ⟨l1 ++ [⟨x0, x1, x2, x3, x4, x5, x6, x7⟩], r2, _, rfl, HN8, R11, C11, by rw [List.length_append, flat_snoc]; exact own11, F11⟩
                · go_simp
                  refine hK.out _ _ trivial (fun hHeld => ?_)
                  clear hK K
                  refine wpAnyH_ready (rs := [1]) (by kernel_rfl) (by simp) ?_
                  refine AllReadyH.cons rfl (fun K hK => ?_) AllReadyH.nil
                  have c12 := C9.cell 12
                  go_simp
                  refine hK.out _ _ trivial (fun hHeld => ?_)
                  clear hK K
                  clear c12
                  refine wpAnyH_ready (rs := [4]) (by kernel_rfl) (by simp) ?_
                  refine AllReadyH.cons rfl (fun K hK => ?_) AllReadyH.nil
                  refine step_append_lies _ rfl _ _ 26 rfl w5.heap.size 46 i0 (.agg #[.int .i64 0, .int .i64 0, .int .i64 0, .int .i64 0, .int .i64 0, .int .i64 0, .int .i64 0, .int .i64 0]) 8 64 Tryd.underlying26 HI.out Z0.out Z1.out Z2.out rfl (by decide) (.slice av l1.length cv) l1.length (flat l1) rfl own9 ⟨w8.heap.size, 0, none⟩ 1 1 (Rc.mk x0 x1 x2 x3 x4 x5 x6 x7).cs.toList rfl rfl (cells_new _ (Rc.mk x0 x1 x2 x3 x4 x5 x6 x7).cs.toList _ _ rfl) (cs_oneCell _) (by decide) (by unfold maxLen; omega) (by omega) (by have := F9.size; omega) _ rfl ?_
                  intro g cap' w10 hown' hgrow _ _
                  have C10 := C9.grown hgrow hnbw
                  have R10 := R9.grown hgrow hnbt (ownR_not8 own9)
                  refine hK.out _ _ trivial (fun hHeld => ?_)
                  clear hK K
                  refine wpAnyH_ready (rs := [5]) (by kernel_rfl) (by simp) ?_
                  refine AllReadyH.cons rfl (fun K hK => ?_) AllReadyH.nil
                  go_simp
                  refine hK.out _ _ trivial (fun hHeld => ?_)
                  clear hK K
                  have c12 := C10.cell 12
                  have f12 := C10.fr 12
                  refine wpAnyH_ready (rs := [6]) (by kernel_rfl) (by simp) ?_
                  refine AllReadyH.cons rfl (fun K hK => ?_) AllReadyH.nil
                  go_simp
                  have C11 := C10.set 12 (.slice (some ⟨g, 0, none⟩) (l1.length + 1) cap')
                  have R11 := R10.set (bq := w.heap.size) (by omega) (C10.not8 (by decide)) 12 (.slice (some ⟨g, 0, none⟩) (l1.length + 1) cap')
                  have own11 := own_other hown' (p := ⟨w.heap.size, 12, none⟩) (ownR_not hown' C10 (by decide)) (.slice (some ⟨g, 0, none⟩) (l1.length + 1) cap')
                  have F10 : Fr2 bt w.heap.size w5 w10 := ⟨hgrow.os.trans F9.os, hgrow.tape.trans F9.tape, hgrow.output.trans F9.output, Nat.le_trans F9.size hgrow.size, fun k hk h1 h2 => by rw [hgrow.block k (Nat.lt_of_lt_of_le hk F9.size) (fun e => by have := own_ge own9 k e.symm; omega), F9.block k hk h1 h2]⟩
                  have F11 := F10.set (p := ⟨w.heap.size, 12, none⟩) (Or.inr rfl) (.slice (some ⟨g, 0, none⟩) (l1.length + 1) cap')
                  refine hK.out _ _ trivial (fun hHeld => ?_)
                  clear hK K hHeld c12 f12
                  refine wpAnyH_done (by kernel_rfl) ?_ _
                  go_wp2_with fail
                  go_roundg r2.length
                  case measure => exact hm8
                  case rel => exact ⟨l1 ++ [⟨x0, x1, x2, x3, x4, x5, x6, x7⟩], r2, _, rfl, HN8, R11, C11, by rw [List.length_append, flat_snoc]; exact own11, F11⟩
            · go_simp
              refine (takeRec_any bt r _ (R7.ext Ed) (hE7.ext Ed) (by omega)).mono ?_
              rintro e w8 ⟨L8, ⟨h8, rfl, R8⟩ | ⟨h8, te, ve, rfl⟩⟩
              rotate_left
              · have C8 := (C7.ext Ed).low L8 (by show w.heap.size < wr.heap.size; omega) (by omega)
                have Z8 := (Z7.ext Ed).low L8 (by show w.heap.size + 1 < wr.heap.size; omega) (by omega)
                have HNo := (show Hid _ from HF.out h8)
                have E8 : Ext w w8 := Below.trans E7 ⟨L8.os, L8.tape, L8.output, L8.size, fun k hk => L8.block k (by show k < wr.heap.size; omega) (by omega)⟩
                clear HN HF own7 R7 F7 L8 hHeld
                have bq := C8.other ⟨w.heap.size + 1, 0, none⟩ (.bool false) (by show w.heap.size ≠ w.heap.size + 1; omega)
                have zq := Z8.set 0 (.bool false)
                have eq9 := (E8).setCell (p := ⟨w.heap.size + 1, 0, none⟩) (by show w.heap.size ≤ w.heap.size + 1; omega) (.bool false)
                have zc := Z8.cell 0
                have zf := Z8.fr 0
                have bqc := bq.cell
                have zqc := zq.cell
                go_wp2_with fail
                refine leaves_cons (f := 27) (args := #[.pointer (some ⟨w.heap.size + 1, 0, none⟩)]) (by simp) (by simp [go_sem]) ?_
                refine (pickCatch_panic ⟨w.heap.size + 1, 0, none⟩ te ve false _ zc zf).mono ?_
                rintro e u' w9 ⟨rfl, rfl, rfl⟩
                refine ⟨.tuple #[wdVal P Q R (.slice av l1.length cv) S, .bool false], ?_, eq9, Or.inr ⟨HNo.out, _, _, _, _, _, _, _, rfl⟩⟩
                simp [results, Tryd.results18, go_sem, bqc, zqc]
              have C8 := (C7.ext Ed).low L8 (by show w.heap.size < wr.heap.size; omega) (by omega)
              have own8 := own_low (own_ext own7 Ed) L8 hnbt
              have F8 : Fr2 bt w.heap.size w5 w8 := F7.trans ⟨L8.os, L8.tape, L8.output, L8.size, fun k hk h1 _ => L8.block k hk h1⟩
              have hs8 := L8.size
              have HN8 : Hid (Upto all (l1 ++ [rdRec r]) (r.drop (recLen (byteAt r 0)))) := HN.out h8
              have hm8 : (r.drop (recLen (byteAt r 0))).length < r.length := by rw [List.length_drop]; omega
              go_wp2_with fail
              refine hK.out _ _ trivial (fun hHeld => ?_)
              clear hK K HN HF L8
              generalize rdRec r = rc at *
              generalize r.drop (recLen (byteAt r 0)) = r2 at *
              obtain ⟨x0, x1, x2, x3, x4, x5, x6, x7⟩ := rc
              have o9 := (Ext.refl w8).alloc (.cells #[.int .i64 x0, .int .i64 x1, .int .i64 x2, .int .i64 x3, .int .i64 x4, .int .i64 x5, .int .i64 x6, .int .i64 x7] 46)
              have C9 := C8.ext o9
              have R9 := R8.ext o9
              have own9 := own_ext own8 o9
              have F9 := F8.ext o9
              refine wpAnyH_ready (rs := [0, 3]) (by kernel_rfl) (by simp) ?_
              refine AllReadyH.cons rfl (fun K hK => ?_) (AllReadyH.cons rfl (fun K hK => ?_) AllReadyH.nil)
              · go_simp
                refine hK.out _ _ trivial (fun hHeld => ?_)
                clear hK K
                refine wpAnyH_ready (rs := [1, 3]) (by kernel_rfl) (by simp) ?_
                refine AllReadyH.cons rfl (fun K hK => ?_) (AllReadyH.cons rfl (fun K hK => ?_) AllReadyH.nil)
                · have c12 := C8.cell 12
                  go_simp
                  refine hK.out _ _ trivial (fun hHeld => ?_)
                  clear hK K
                  clear c12
                  refine wpAnyH_ready (rs := [3]) (by kernel_rfl) (by simp) ?_
                  refine AllReadyH.cons rfl (fun K hK => ?_) AllReadyH.nil
                  go_simp
                  refine hK.out _ _ trivial (fun hHeld => ?_)
                  clear hK K
                  refine wpAnyH_ready (rs := [4]) (by kernel_rfl) (by simp) ?_
                  refine AllReadyH.cons rfl (fun K hK => ?_) AllReadyH.nil
                  refine step_append_lies _ rfl _ _ 26 rfl w5.heap.size 46 i0 (.agg #[.int .i64 0, .int .i64 0, .int .i64 0, .int .i64 0, .int .i64 0, .int .i64 0, .int .i64 0, .int .i64 0]) 8 64 Tryd.underlying26 HI.out Z0.out Z1.out Z2.out rfl (by decide) (.slice av l1.length cv) l1.length (flat l1) rfl own9 ⟨w8.heap.size, 0, none⟩ 1 1 (Rc.mk x0 x1 x2 x3 x4 x5 x6 x7).cs.toList rfl rfl (cells_new _ (Rc.mk x0 x1 x2 x3 x4 x5 x6 x7).cs.toList _ _ rfl) (cs_oneCell _) (by decide) (by unfold maxLen; omega) (by omega) (by have := F9.size; omega) _ rfl ?_
                  intro g cap' w10 hown' hgrow _ _
                  have C10 := C9.grown hgrow hnbw
                  have R10 := R9.grown hgrow hnbt (ownR_not8 own9)
                  refine hK.out _ _ trivial (fun hHeld => ?_)
                  clear hK K
                  refine wpAnyH_ready (rs := [5]) (by kernel_rfl) (by simp) ?_
                  refine AllReadyH.cons rfl (fun K hK => ?_) AllReadyH.nil
                  go_simp
                  refine hK.out _ _ trivial (fun hHeld => ?_)
                  clear hK K
                  have c12 := C10.cell 12
                  have f12 := C10.fr 12
                  refine wpAnyH_ready (rs := [6]) (by kernel_rfl) (by simp) ?_
                  refine AllReadyH.cons rfl (fun K hK => ?_) AllReadyH.nil
                  go_simp
                  have C11 := C10.set 12 (.slice (some ⟨g, 0, none⟩) (l1.length + 1) cap')
                  have R11 := R10.set (bq := w.heap.size) (by omega) (C10.not8 (by decide)) 12 (.slice (some ⟨g, 0, none⟩) (l1.length + 1) cap')
                  have own11 := own_other hown' (p := ⟨w.heap.size, 12, none⟩) (ownR_not hown' C10 (by decide)) (.slice (some ⟨g, 0, none⟩) (l1.length + 1) cap')
                  have F10 : Fr2 bt w.heap.size w5 w10 := ⟨hgrow.os.trans F9.os, hgrow.tape.trans F9.tape, hgrow.output.trans F9.output, Nat.le_trans F9.size hgrow.size, fun k hk h1 h2 => by rw [hgrow.block k (Nat.lt_of_lt_of_le hk F9.size) (fun e => by have := own_ge own9 k e.symm; omega), F9.block k hk h1 h2]⟩
                  have F11 := F10.set (p := ⟨w.heap.size, 12, none⟩) (Or.inr rfl) (.slice (some ⟨g, 0, none⟩) (l1.length + 1) cap')
                  refine hK.out _ _ trivial (fun hHeld => ?_)
                  clear hK K hHeld c12 f12
                  refine wpAnyH_done (by kernel_rfl) ?_ _
                  go_wp2_with fail
                  go_roundg r2.length
                  case measure => exact hm8
                  case rel => exact ⟨l1 ++ [⟨x0, x1, x2, x3, x4, x5, x6, x7⟩], r2, _, rfl, HN8, R11, C11, by rw [List.length_append, flat_snoc]; exact own11, F11⟩
                · go_simp
                  refine hK.out _ _ trivial (fun hHeld => ?_)
                  clear hK K
                  refine wpAnyH_ready (rs := [1]) (by kernel_rfl) (by simp) ?_
                  refine AllReadyH.cons rfl (fun K hK => ?_) AllReadyH.nil
                  have c12 := C9.cell 12
                  go_simp
                  refine hK.out _ _ trivial (fun hHeld => ?_)
                  clear hK K
                  clear c12
                  refine wpAnyH_ready (rs := [4]) (by kernel_rfl) (by simp) ?_
                  refine AllReadyH.cons rfl (fun K hK => ?_) AllReadyH.nil
                  refine step_append_lies _ rfl _ _ 26 rfl w5.heap.size 46 i0 (.agg #[.int .i64 0, .int .i64 0, .int .i64 0, .int .i64 0, .int .i64 0, .int .i64 0, .int .i64 0, .int .i64 0]) 8 64 Tryd.underlying26 HI.out Z0.out Z1.out Z2.out rfl (by decide) (.slice av l1.length cv) l1.length (flat l1) rfl own9 ⟨w8.heap.size, 0, none⟩ 1 1 (Rc.mk x0 x1 x2 x3 x4 x5 x6 x7).cs.toList rfl rfl (cells_new _ (Rc.mk x0 x1 x2 x3 x4 x5 x6 x7).cs.toList _ _ rfl) (cs_oneCell _) (by decide) (by unfold maxLen; omega) (by omega) (by have := F9.size; omega) _ rfl ?_
                  intro g cap' w10 hown' hgrow _ _
                  have C10 := C9.grown hgrow hnbw
                  have R10 := R9.grown hgrow hnbt (ownR_not8 own9)
                  refine hK.out _ _ trivial (fun hHeld => ?_)
                  clear hK K
                  refine wpAnyH_ready (rs := [5]) (by kernel_rfl) (by simp) ?_
                  refine AllReadyH.cons rfl (fun K hK => ?_) AllReadyH.nil
                  go_simp
                  refine hK.out _ _ trivial (fun hHeld => ?_)
                  clear hK K
                  have c12 := C10.cell 12
                  have f12 := C10.fr 12
                  refine wpAnyH_ready (rs := [6]) (by kernel_rfl) (by simp) ?_
                  refine AllReadyH.cons rfl (fun K hK => ?_) AllReadyH.nil
                  go_simp
                  have C11 := C10.set 12 (.slice (some ⟨g, 0, none⟩) (l1.length + 1) cap')
                  have R11 := R10.set (bq := w.heap.size) (by omega) (C10.not8 (by decide)) 12 (.slice (some ⟨g, 0, none⟩) (l1.length + 1) cap')
                  have own11 := own_other hown' (p := ⟨w.heap.size, 12, none⟩) (ownR_not hown' C10 (by decide)) (.slice (some ⟨g, 0, none⟩) (l1.length + 1) cap')
                  have F10 : Fr2 bt w.heap.size w5 w10 := ⟨hgrow.os.trans F9.os, hgrow.tape.trans F9.tape, hgrow.output.trans F9.output, Nat.le_trans F9.size hgrow.size, fun k hk h1 h2 => by rw [hgrow.block k (Nat.lt_of_lt_of_le hk F9.size) (fun e => by have := own_ge own9 k e.symm; omega), F9.block k hk h1 h2]⟩
                  have F11 := F10.set (p := ⟨w.heap.size, 12, none⟩) (Or.inr rfl) (.slice (some ⟨g, 0, none⟩) (l1.length + 1) cap')
                  refine hK.out _ _ trivial (fun hHeld => ?_)
                  clear hK K hHeld c12 f12
                  refine wpAnyH_done (by kernel_rfl) ?_ _
                  go_wp2_with fail
                  go_roundg r2.length
                  case measure => exact hm8
                  case rel => exact ⟨l1 ++ [⟨x0, x1, x2, x3, x4, x5, x6, x7⟩], r2, _, rfl, HN8, R11, C11, by rw [List.length_append, flat_snoc]; exact own11, F11⟩
              · go_simp
                refine hK.out _ _ trivial (fun hHeld => ?_)
                clear hK K
                refine wpAnyH_ready (rs := [0]) (by kernel_rfl) (by simp) ?_
                refine AllReadyH.cons rfl (fun K hK => ?_) AllReadyH.nil
                go_simp
                refine hK.out _ _ trivial (fun hHeld => ?_)
                clear hK K
                refine wpAnyH_ready (rs := [1]) (by kernel_rfl) (by simp) ?_
                refine AllReadyH.cons rfl (fun K hK => ?_) AllReadyH.nil
                have c12 := C9.cell 12
                go_simp
                refine hK.out _ _ trivial (fun hHeld => ?_)
                clear hK K
                clear c12
                refine wpAnyH_ready (rs := [4]) (by kernel_rfl) (by simp) ?_
                refine AllReadyH.cons rfl (fun K hK => ?_) AllReadyH.nil
                refine step_append_lies _ rfl _ _ 26 rfl w5.heap.size 46 i0 (.agg #[.int .i64 0, .int .i64 0, .int .i64 0, .int .i64 0, .int .i64 0, .int .i64 0, .int .i64 0, .int .i64 0]) 8 64 Tryd.underlying26 HI.out Z0.out Z1.out Z2.out rfl (by decide) (.slice av l1.length cv) l1.length (flat l1) rfl own9 ⟨w8.heap.size, 0, none⟩ 1 1 (Rc.mk x0 x1 x2 x3 x4 x5 x6 x7).cs.toList rfl rfl (cells_new _ (Rc.mk x0 x1 x2 x3 x4 x5 x6 x7).cs.toList _ _ rfl) (cs_oneCell _) (by decide) (by unfold maxLen; omega) (by omega) (by have := F9.size; omega) _ rfl ?_
                intro g cap' w10 hown' hgrow _ _
                have C10 := C9.grown hgrow hnbw
                have R10 := R9.grown hgrow hnbt (ownR_not8 own9)
                refine hK.out _ _ trivial (fun hHeld => ?_)
                clear hK K
                refine wpAnyH_ready (rs := [5]) (by kernel_rfl) (by simp) ?_
                refine AllReadyH.cons rfl (fun K hK => ?_) AllReadyH.nil
                go_simp
                refine hK.out _ _ trivial (fun hHeld => ?_)
                clear hK K
                have c12 := C10.cell 12
                have f12 := C10.fr 12
                refine wpAnyH_ready (rs := [6]) (by kernel_rfl) (by simp) ?_
                refine AllReadyH.cons rfl (fun K hK => ?_) AllReadyH.nil
                go_simp
                have C11 := C10.set 12 (.slice (some ⟨g, 0, none⟩) (l1.length + 1) cap')
                have R11 := R10.set (bq := w.heap.size) (by omega) (C10.not8 (by decide)) 12 (.slice (some ⟨g, 0, none⟩) (l1.length + 1) cap')
                have own11 := own_other hown' (p := ⟨w.heap.size, 12, none⟩) (ownR_not hown' C10 (by decide)) (.slice (some ⟨g, 0, none⟩) (l1.length + 1) cap')
                have F10 : Fr2 bt w.heap.size w5 w10 := ⟨hgrow.os.trans F9.os, hgrow.tape.trans F9.tape, hgrow.output.trans F9.output, Nat.le_trans F9.size hgrow.size, fun k hk h1 h2 => by rw [hgrow.block k (Nat.lt_of_lt_of_le hk F9.size) (fun e => by have := own_ge own9 k e.symm; omega), F9.block k hk h1 h2]⟩
                have F11 := F10.set (p := ⟨w.heap.size, 12, none⟩) (Or.inr rfl) (.slice (some ⟨g, 0, none⟩) (l1.length + 1) cap')
                refine hK.out _ _ trivial (fun hHeld => ?_)
                clear hK K hHeld c12 f12
                refine wpAnyH_done (by kernel_rfl) ?_ _
                go_wp2_with fail
                go_roundg r2.length
                case measure => exact hm8
                case rel => exact ⟨l1 ++ [⟨x0, x1, x2, x3, x4, x5, x6, x7⟩], r2, _, rfl, HN8, R11, C11, by rw [List.length_append, flat_snoc]; exact own11, F11⟩
      · have hs12 : s.length = 12 := by rw [List.length_drop] at h5; omega
        have hd : s.drop 12 = [] := List.drop_eq_nil_of_le (by omega)
        have F5 := (F.ext o5).trans f5
        rw [hd] at C5
        obtain ⟨P9, Q9, R9, S9, hsh⟩ := cellsN_shape s 12 (Nat.le_refl _)
        replace C5 : Blk w5 w.heap.size (wdCells P9 Q9 R9 (.slice none 0 0) S9) 28 := by rw [← hsh]; exact C5
        have Z5 := Z0.fr2 F5 (by omega) (by omega)
        have E5 : Ext w w5 := Below.trans E0 (F5.below (by omega) (Nat.le_refl _) (by omega))
        have HNo : Hid (wholeWd s = false) := whole_short (by omega)
        clear R C F N o5 f5 hEr F5 hsh hd
        have bq := C5.other ⟨w.heap.size + 1, 0, none⟩ (.bool false) (by show w.heap.size ≠ w.heap.size + 1; omega)
        have zq := Z5.set 0 (.bool false)
        have eq9 := (E5).setCell (p := ⟨w.heap.size + 1, 0, none⟩) (by show w.heap.size ≤ w.heap.size + 1; omega) (.bool false)
        have zc := Z5.cell 0
        have zf := Z5.fr 0
        have bqc := bq.cell
        have zqc := zq.cell
        go_wp2_with fail
        refine leaves_cons (f := 27) (args := #[.pointer (some ⟨w.heap.size + 1, 0, none⟩)]) (by simp) (by simp [go_sem]) ?_
        refine (pickCatch_panic ⟨w.heap.size + 1, 0, none⟩ te ve false _ zc zf).mono ?_
        rintro e u' w9 ⟨rfl, rfl, rfl⟩
        refine ⟨.tuple #[wdVal P9 Q9 R9 (.slice none 0 0) S9, .bool false], ?_, eq9, Or.inr ⟨HNo.out, _, _, _, _, _, _, _, rfl⟩⟩
        simp [results, Tryd.results18, go_sem, bqc, zqc]
end Go.Proofs.YtbfefocehnafgaaDoor.B
