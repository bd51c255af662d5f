/- The contracts of lay and wire.Write. -/
import Derived.Test.YtbfefocehnafgaaDoorWire2
namespace Go.Proofs.YtbfefocehnafgaaDoor.B
set_option maxRecDepth 100000
open Go.ChangeShapes Go.WideShapes Go.ChangeAt Go.RowKit

/-- The bytes of the first pages. -/
def pageBytes (p q r : Pg) (k : Nat) : List UInt8 := match k with
  | 0 => []
  | 1 => pgBytes p
  | 2 => pgBytes p ++ pgBytes q
  | _ => pgBytes p ++ pgBytes q ++ pgBytes r
theorem pageBytes_len (p q r : Pg) (k : Nat) : (pageBytes p q r k).length ≤ 12 := by
  unfold pageBytes
  split <;> simp [pgBytes]
theorem page_at (p q r : Pg) (k : Nat) (h : k < 3) : ∃ P : Pg, (∀ w, (Instr.index 25 (val3 p q r) (.int .i64 (k : Nat))).run Tryd.prog w = .ok P.val w) ∧ pageBytes p q r (k + 1) = (pageBytes p q r k ++ [P.c0, P.c1, P.c2].map byt) ++ [P.last].map byt := by
  have hc : k = 0 ∨ k = 1 ∨ k = 2 := by omega
  rcases hc with rfl | rfl | rfl
  · exact ⟨p, fun w => by kernel_rfl, by simp [pageBytes, pgBytes]⟩
  · exact ⟨q, fun w => by kernel_rfl, by simp [pageBytes, pgBytes]⟩
  · exact ⟨r, fun w => by kernel_rfl, by simp [pageBytes, pgBytes]⟩
theorem head_eq (p q r : Pg) (safe : Int) : headBytes p q r safe = pageBytes p q r 3 ++ [safe].map byt := by simp [headBytes, pageBytes, pgBytes]
theorem numsIn3 {w : World} {b : Nat} {t : TypeId} {c0 c1 c2 c3 : Int} (h : Blk w b #[.int .i64 c0, .int .i64 c1, .int .i64 c2, .int .i64 c3] t) : NumsIn w b 0 [c0, c1, c2] := fun i hi => by
  rw [h.cell, Nat.zero_add]
  have : i = 0 ∨ i = 1 ∨ i = 2 := by simp at hi; omega
  rcases this with rfl | rfl | rfl <;> rfl
/-- A text. -/
abbrev txt (bs : List UInt8) : Value := .string ⟨bs.toArray⟩
theorem convert_own {w : World} {base n : Nat} {v : Value} {bs : List UInt8} (h : w.ownsRow base 5 1 v n (bvs bs)) (hn : bs ≠ []) : (convert 57 9 v).run Tryd.prog w = .ok (txt bs) w := by
  have hl := h.1
  rw [bvs_len, Nat.mul_one] at hl
  rcases h.2 with ⟨rfl, h0⟩ | ⟨g, cap, cur, rfl, _, hb, _, _, _, ht⟩
  · exact absurd (List.length_eq_zero_iff.1 (by omega)) hn
  · subst hl
    refine run_convert_bytes_back (P := Tryd.prog) w 57 9 5 ⟨g, 0, none⟩ cap bs Tryd.underlying57 Tryd.underlying5 Tryd.underlying9 fun j hj => ?_
    rw [Addr.add_lit, Nat.zero_add]
    exact own_cell hb ht (by simp [bvs, hj])
set_option maxHeartbeats 8000000 in
theorem lay_any (p q r : Pg) (a : Option Addr) (len cap : Nat) (l : List Rc) (safe : Int) (w : World) (h : Recs w a len l) (hl : len ≤ 60) :
    Calls Tryd.prog 13 #[wdVal p q r (.slice a len cap) safe] w fun e w' => e = .returned (txt (wdBytes ⟨p, q, r, l, safe⟩)) ∧ Ext w w' := by
  have hll := h.len
  have E0 := ((Ext.refl w).alloc (.cells (wdCells p q r (.slice a len cap) safe) 28)).alloc (.cells #[.slice none 0 0] 57)
  have B0 := (Blk.new w w.heap.size (wdCells p q r (.slice a len cap) safe) 28 rfl).alloc (.cells #[.slice none 0 0] 57)
  have T0 : Tape w.heap.size (w.heap.size + 1) [] ((w.alloc (.cells (wdCells p q r (.slice a len cap) safe) 28)).alloc (.cells #[.slice none 0 0] 57)) := ⟨by omega, _, Blk.new (w.alloc (.cells (wdCells p q r (.slice a len cap) safe) 28)) (w.heap.size + 1) #[.slice none 0 0] 57 (by simp), rfl, Or.inl ⟨rfl, rfl⟩⟩
  have b0 := B0.cell
  have HP := page_at p q r
  go_enter Tryd.func13, Tryd.ntmps13
  go_wp2_with fail
  clear b0
  generalize (w.alloc (.cells (wdCells p q r (.slice a len cap) safe) 28)).alloc (.cells #[.slice none 0 0] 57) = w0 at *
  obtain ⟨bw, hbw⟩ : ∃ bw, w.heap.size = bw := ⟨_, rfl⟩
  have hE0 : Below bw w w0 := by rw [← hbw]; exact E0
  rw [hbw] at B0 T0 ⊢
  have hT0 := T0.lt
  go_loopw [10] (fun i wr => ∃ k : Nat, k ≤ 3 ∧ i = .int .i64 k ∧ Tape bw (bw + 1) (pageBytes p q r k) wr ∧ Tp bw (bw + 1) w0 wr) (fun i _ => 3 - (intOf i).toNat)
  case atStart => exact ⟨0, by omega, rfl, T0, Tp.refl _ _ _⟩
  case round =>
    obtain ⟨k, hk, rfl, T, P⟩ := hrel
    have hTl := T.lt
    have hpl := pageBytes_len p q r k
    by_cases hlt : k < 3
    · obtain ⟨Q, hix, hby⟩ := HP k hlt
      have HBy := (show Hid _ from hby)
      generalize pageBytes p q r k = bs at *
      clear hby
      obtain ⟨c0, c1, c2, c3⟩ := Q
      have X1 := Blk.new wr wr.heap.size #[.int .i64 c0, .int .i64 c1, .int .i64 c2, .int .i64 c3] 24 rfl
      have o1 := (Ext.refl wr).alloc (.cells #[.int .i64 c0, .int .i64 c1, .int .i64 c2, .int .i64 c3] 24)
      have T1 := T.ext o1
      have P1 := P.ext (by omega) o1
      go_wp2_with fail
      refine (tapePut_any bw (bw + 1) bs wr.heap.size 0 3 3 [c0, c1, c2] _ T1 (numsIn3 X1) rfl X1.lt (by omega) (X1.not8 (by decide)) (by omega)).mono ?_
      rintro e w2 ⟨rfl, T2, p2⟩
      have X2 := X1.tp p2 (by omega) (by decide)
      have P2 := P1.trans p2
      have hT2 := T2.lt
      clear T T1 P P1 p2 X1 o1
      have x2 := X2.cell
      have N2 := Blk.new w2 w2.heap.size #[.int .i64 c3] 3 rfl
      have o2 := (Ext.refl w2).alloc (.cells #[.int .i64 c3] 3)
      go_wp2_with fail
      refine (tapePut_any bw (bw + 1) (bs ++ [c0, c1, c2].map byt) w2.heap.size 0 1 1 [c3] _ (T2.ext o2) (numsIn_blk N2) rfl N2.lt (by omega) (N2.not8 (by decide)) (by simp; omega)).mono ?_
      rintro e w3 ⟨rfl, T3, p3⟩
      have P3 := (P2.ext (by omega) o2).trans p3
      clear T2 P2 p3 N2 o2 x2 X2
      go_wp2_with fail
      go_roundw
      case rel => exact ⟨k + 1, by omega, by go_num, by rw [HBy.out]; exact T3, P3⟩
      case measure => simp [intOf]; omega
    · have hk3 : k = 3 := by omega
      subst hk3
      have HH := (show Hid _ from head_eq p q r safe)
      generalize pageBytes p q r 3 = bs at *
      have B1 := B0.tp P (by omega) (by decide)
      have b1 := B1.cell
      have N2 := Blk.new wr wr.heap.size #[.int .i64 safe] 3 rfl
      have o2 := (Ext.refl wr).alloc (.cells #[.int .i64 safe] 3)
      go_wp2_with fail
      refine (tapePut_any bw (bw + 1) bs wr.heap.size 0 1 1 [safe] _ (T.ext o2) (numsIn_blk N2) rfl N2.lt (by omega) (N2.not8 (by decide)) (by simp; omega)).mono ?_
      rintro e w3 ⟨rfl, T3, p3⟩
      have P3 := (P.ext (by omega) o2).trans p3
      have B3 := B0.tp P3 (by omega) (by decide)
      have b3 := B3.cell
      have HD : Hid ((bs ++ [safe].map byt).length ≤ 13) := by show _ ≤ _; simp; omega
      have HW : Hid (wdBytes ⟨p, q, r, l, safe⟩ = (bs ++ [safe].map byt) ++ logBytes l) := by show _ = _; unfold wdBytes; rw [HH.out]
      have HNe : Hid ((bs ++ [safe].map byt) ++ logBytes l ≠ []) := by show _ ≠ _; simp
      clear T P p3 N2 o2 b1 B1 B0 HP
      generalize bs ++ [safe].map byt = hs at *
      go_wp2_with fail
      go_loopw [28] (fun i wq => ∃ k : Nat, k ≤ len ∧ i = .int .i64 k ∧ Tape bw (bw + 1) (hs ++ logBytes (l.take k)) wq ∧ Tp bw (bw + 1) w0 wq) (fun i _ => len - (intOf i).toNat)
      case atStart => exact ⟨0, Nat.zero_le _, rfl, by simpa [logBytes_nil] using T3, P3⟩
      case round =>
        obtain ⟨k, hk, rfl, T, P⟩ := hrel
        clear b3 B3 T3 P3
        have E4 : Ext w wr := by have := Below.trans hE0 P.below; rw [← hbw] at this; exact this
        have hTl := T.lt
        have hll2 : (hs ++ logBytes (l.take k)).length ≤ 600 := by
          have h1 := logBytes_len (l.take k)
          have h2 := HD.out
          rw [List.length_take] at h1
          rw [List.length_append]
          omega
        by_cases hlt : k < len
        · obtain ⟨ba, oa, rfl, hkl, c0, c1, c2, c3, c4, c5, c6, c7⟩ := (h.ext E4).at hlt
          have HB : Hid (hs ++ logBytes (l.take (k + 1)) = (hs ++ logBytes (l.take k)) ++ recBytes l[k]) := by show _ = _; rw [logBytes_take l k hkl, List.append_assoc]
          generalize l[k] = x at *
          generalize hs ++ logBytes (l.take k) = bs4 at *
          obtain ⟨x0, x1, x2, x3, x4, x5, x6, x7⟩ := x
          dsimp only at c0 c1 c2 c3 c4 c5 c6 c7
          have o1 := (Ext.refl wr).alloc (.cells #[.int .i64 x0, .int .i64 x1, .int .i64 x2, .int .i64 x3, .int .i64 x4, .int .i64 x5, .int .i64 x6, .int .i64 x7] 46)
          go_wp2_with fail
          refine (putRec_any bw (bw + 1) bs4 ⟨x0, x1, x2, x3, x4, x5, x6, x7⟩ _ (T.ext o1) (by omega)).mono ?_
          rintro e w5 ⟨rfl, T5, p5⟩
          have P5 := (P.ext (by omega) o1).trans p5
          clear T P p5 o1 c0 c1 c2 c3 c4 c5 c6 c7 E4
          go_wp2_with fail
          go_roundw
          case rel => exact ⟨k + 1, by omega, by go_num, by rw [HB.out]; exact T5, P5⟩
          case measure => simp [intOf]; omega
        · have HF : Hid (l.take k = l) := List.take_of_length_le (by omega)
          rw [HF.out] at T
          clear HD hll2
          generalize hs ++ logBytes l = all at *
          obtain ⟨v, T1, own⟩ := T.there
          have hcv := convert_own own HNe.out
          have t1 := T1.cell
          obtain ⟨av, cv, rfl⟩ := slice_of own
          go_wp2_with fail
          go_ret
          exact ⟨by rw [HW.out]; rfl, E4⟩
set_option maxHeartbeats 4000000 in
theorem wireWrite_any (p q r : Pg) (a : Option Addr) (len cap : Nat) (l : List Rc) (safe : Int) (w : World) (h : LogIn w a len cap l) :
    Calls Tryd.prog 5 #[wdVal p q r (.slice a len cap) safe] w fun e w' => e = .returned (.tuple #[txt (if worldErr p q r l safe = 0 then wdBytes ⟨p, q, r, l, safe⟩ else []), .int .i64 (worldErr p q r l safe)]) ∧ Ext w w' := by
  have hll := h.recs.len
  have HK := fun w' (e : Ext w w') => worldCheck_any p q r a len cap l safe w' (h.recs.ext e) h.nil h.max
  have HL : Hid (worldErr p q r l safe = 0 → len ≤ 60) := fun hz => by have := right_len _ (logErr_zero (worldErr_zero hz).1).2; omega
  generalize worldErr p q r l safe = x1 at *
  have E0 := (Ext.refl w).alloc (.cells (wdCells p q r (.slice a len cap) safe) 28)
  have B0 := Blk.new w w.heap.size (wdCells p q r (.slice a len cap) safe) 28 rfl
  have b0 := B0.cell
  by_cases hx : x1 = 0
  · have hl60 := HL.out hx
    rw [if_pos hx]
    subst hx
    go_enter Tryd.func5, Tryd.ntmps5
    go_wp2_with fail
    refine (HK _ E0).mono ?_
    rintro e w1 ⟨rfl, hw⟩
    have E1 := E0.trans hw
    have b1 := (B0.ext hw).cell
    clear hw b0 B0 E0 HK HL
    go_wp2_with fail
    refine (lay_any p q r a len cap l safe _ (h.recs.ext E1) hl60).mono ?_
    rintro e w2 ⟨rfl, hw⟩
    go_wp2_with fail
    refine bodyPost_ret (v := .tuple #[txt (wdBytes ⟨p, q, r, l, safe⟩), .int .i64 0]) (by simp [results, Tryd.results5, go_sem]) rfl ⟨rfl, E1.trans hw⟩
  · have hb : (x1 != 0) = true := by simpa using hx
    rw [if_neg hx]
    clear hx HL
    go_enter Tryd.func5, Tryd.ntmps5
    go_wp2_with fail
    refine (HK _ E0).mono ?_
    rintro e w1 ⟨rfl, hw⟩
    go_wp2_with fail
    refine bodyPost_ret (v := .tuple #[txt [], .int .i64 x1]) (by simp [results, Tryd.results5, go_sem]) rfl ⟨rfl, E0.trans hw⟩
end Go.Proofs.YtbfefocehnafgaaDoor.B
