/- The reference's WorldBytes. -/
import Derived.Test.YtbfefocehnafgaaDoorWireL
namespace Go.Proofs.YtbfefocehnafgaaDoor.B
set_option maxRecDepth 100000
open Go.ChangeShapes Go.WideShapes Go.ChangeAt Go.RowKit

theorem cells_at (p q r : Pg) (lv : Value) (safe : Int) (k : Nat) (h : k < 3) : ∃ P : Pg, ∃ cs : List Int, cs.length = 3 ∧ (∀ c, (hc : c < cs.length) → (wdCells p q r lv safe)[k * 4 + c]? = some (.int .i64 cs[c])) ∧
    (wdCells p q r lv safe)[k * 4 + 3]? = some (.int .i64 P.last) ∧ pageBytes p q r (k + 1) = (pageBytes p q r k ++ cs.map byt) ++ [byt P.last] := by
  have hc : k = 0 ∨ k = 1 ∨ k = 2 := by omega
  have h3 : ∀ c : Nat, c < 3 → c = 0 ∨ c = 1 ∨ c = 2 := fun c h => by omega
  rcases hc with rfl | rfl | rfl
  · exact ⟨p, [p.c0, p.c1, p.c2], rfl, fun c hc => by rcases h3 c hc with rfl | rfl | rfl <;> rfl, rfl, by simp [pageBytes, pgBytes]⟩
  · exact ⟨q, [q.c0, q.c1, q.c2], rfl, fun c hc => by rcases h3 c hc with rfl | rfl | rfl <;> rfl, rfl, by simp [pageBytes, pgBytes]⟩
  · exact ⟨r, [r.c0, r.c1, r.c2], rfl, fun c hc => by rcases h3 c hc with rfl | rfl | rfl <;> rfl, rfl, by simp [pageBytes, pgBytes]⟩
theorem convert_bytes {w : World} {base n : Nat} {v : Value} {bs : List UInt8} (h : w.ownsRow base 5 1 v n (bvs bs)) (hn : bs ≠ []) : (convert 44 9 v).run Tryd.prog w = .ok (txt bs) w := by
  have hl := h.1
  rw [bvs_len, Nat.mul_one] at hl
  rcases h.2 with ⟨rfl, h0⟩ | ⟨g, cap, cur, rfl, _, hb, _, _, _, ht⟩
  · exact absurd (List.length_eq_zero_iff.1 (by omega)) hn
  · subst hl
    refine run_convert_bytes_back (P := Tryd.prog) w 44 9 5 ⟨g, 0, none⟩ cap bs Tryd.underlying44 Tryd.underlying5 Tryd.underlying9 fun j hj => ?_
    rw [Addr.add_lit, Nat.zero_add]
    exact own_cell hb ht (by simp [bvs, hj])
set_option maxHeartbeats 8000000 in
theorem worldBytes_any (p q r : Pg) (a : Option Addr) (len cap : Nat) (l : List Rc) (safe : Int) (w : World) (h : Recs w a len l) (hl : len ≤ 60) :
    Calls Tryd.prog 7 #[wdVal p q r (.slice a len cap) safe] w fun e w' => e = .returned (txt (wdBytes ⟨p, q, r, l, safe⟩)) ∧ Ext w w' := by
  have hll := h.len
  obtain ⟨i0, hi, hz0, hz1, hz2⟩ := info_parts infoByte
  have HI := (show Hid _ from hi)
  have Z0 := (show Hid _ from hz0)
  have Z1 := (show Hid _ from hz1)
  have Z2 := (show Hid _ from hz2)
  clear hi hz0 hz1 hz2
  have E0 := (Ext.refl w).alloc (.cells (wdCells p q r (.slice a len cap) safe) 28)
  have B0 := Blk.new w w.heap.size (wdCells p q r (.slice a len cap) safe) 28 rfl
  have HP := cells_at p q r (.slice a len cap) safe
  go_enter Tryd.func7, Tryd.ntmps7
  go_wp2_with fail
  generalize hbw : w.heap.size = bw at *
  generalize w.alloc (.cells (wdCells p q r (.slice a len cap) safe) 28) = w0 at *
  go_loopw [3, 4, 5] (fun v i _ wr => ∃ k : Nat, k ≤ 3 ∧ i = .int .i64 k ∧ Ext w0 wr ∧ wr.ownsRow w0.heap.size 5 1 v (pageBytes p q r k).length (bvs (pageBytes p q r k))) (fun _ i _ _ => 3 - (intOf i).toNat)
  case atStart => exact ⟨0, by omega, rfl, Ext.refl _, rfl, Or.inl ⟨rfl, rfl⟩⟩
  case round =>
    obtain ⟨k, hk, rfl, hE, hown⟩ := hrel
    by_cases hlt : k < 3
    · obtain ⟨P, cs, hcs, hcc, hcl, hpb⟩ := HP k hlt
      have hlti : (k : Int) < 3 := by omega
      go_wp2_with fail
      have hm : (pageBytes p q r k).length ≤ 12 := pageBytes_len p q r k
      have HPB : Hid (pageBytes p q r (k + 1) = (pageBytes p q r k ++ cs.map byt) ++ [byt P.last]) := hpb
      have HCC : Hid (∀ c, (hc : c < cs.length) → (wdCells p q r (.slice a len cap) safe)[k * 4 + c]? = some (.int .i64 cs[c])) := hcc
      clear hpb hcc
      generalize pageBytes p q r k = bs at *
      go_loopw [3, 5] (fun v i wq => ∃ c : Nat, c ≤ 3 ∧ i = .int .i64 c ∧ Ext w0 wq ∧ wq.ownsRow w0.heap.size 5 1 v (bs ++ (cs.take c).map byt).length (bvs (bs ++ (cs.take c).map byt))) (fun _ i _ => 3 - (intOf i).toNat)
      case atStart => exact ⟨0, by omega, rfl, hE, by simpa using hown⟩
      case round =>
        obtain ⟨c, hc, rfl, hE2, hown2⟩ := hrel
        by_cases hlc : c < 3
        · have hlci : (c : Int) < 3 := by omega
          have hxc := HCC.out c (by omega)
          have HS : Hid ((cs.take (c + 1)).map byt = (cs.take c).map byt ++ [byt cs[c]]) := by show _ = _; rw [List.take_succ_eq_append_getElem (by omega), List.map_append]; rfl
          have hml : (bs ++ (cs.take c).map byt).length ≤ 100 := by simp; omega
          generalize cs[c] = x at *
          generalize hcb : bs ++ (cs.take c).map byt = cb at *
          have HC : Hid (bs ++ (cs.take (c + 1)).map byt = cb ++ [byt x]) := by show _ = _; rw [HS.out, ← List.append_assoc, hcb]
          clear hcb HS
          have b2 := (B0.ext hE2).cell
          have hsz := hE2.size
          go_wp2_with (at_builtin; refine wpList_append_own _ rfl _ _ 44 rfl w0.heap.size 5 i0 (.int .u8 0) 1 1 Tryd.underlying44 HI.out Z0.out Z1.out Z2.out rfl (by decide) u3 cb.length (bvs cb) rfl (hown2.alloc _) ⟨wr.heap.size, 0, none⟩ 1 1 [.int .u8 (x % 256)] rfl rfl (cells_new _ [.int .u8 (x % 256)] _ _ rfl) (fun x hx => by simp at hx; subst hx; rfl) (by unfold maxLen; omega) (by omega) (by simp; omega) ?_; intro v' w3 hown' hgrow3 _)
          have hE3 : Ext w0 w3 := (hE2.alloc _).grown (hown2.alloc _) hgrow3
          go_roundw
          case rel =>
            refine ⟨c + 1, by omega, by go_num, hE3, ?_⟩
            rw [HC.out, bvs_snoc, List.length_append]
            exact hown'
          case measure => simp [intOf]; omega
        · have HF : Hid (cs.take c = cs) := List.take_of_length_le (by omega)
          rw [HF.out] at hown2
          have hml : (bs ++ cs.map byt).length ≤ 100 := by simp; omega
          generalize hcb : bs ++ cs.map byt = cb at *
          have HC : Hid (pageBytes p q r (k + 1) = cb ++ [byt P.last]) := by show _ = _; rw [HPB.out]
          clear hcb HF HPB HCC
          have b2 := (B0.ext hE2).cell
          have hsz := hE2.size
          generalize P.last = x at *
          go_wp2_with (at_builtin; refine wpList_append_own _ rfl _ _ 44 rfl w0.heap.size 5 i0 (.int .u8 0) 1 1 Tryd.underlying44 HI.out Z0.out Z1.out Z2.out rfl (by decide) u3 cb.length (bvs cb) rfl (hown2.alloc _) ⟨wr.heap.size, 0, none⟩ 1 1 [.int .u8 (x % 256)] rfl rfl (cells_new _ [.int .u8 (x % 256)] _ _ rfl) (fun x hx => by simp at hx; subst hx; rfl) (by unfold maxLen; omega) (by omega) (by simp; omega) ?_; intro v' w3 hown' hgrow3 _)
          have hE3 : Ext w0 w3 := (hE2.alloc _).grown (hown2.alloc _) hgrow3
          go_roundw
          case rel =>
            refine ⟨k + 1, by omega, by go_num, hE3, ?_⟩
            rw [HC.out, bvs_snoc, List.length_append]
            exact hown'
          case measure => simp [intOf]; omega
    · obtain rfl : k = 3 := by omega
      have hm := pageBytes_len p q r 3
      have HH := (show Hid (headBytes p q r safe = pageBytes p q r 3 ++ [byt safe]) from head_eq p q r safe)
      generalize pageBytes p q r 3 = bs at *
      have b2 := (B0.ext hE).cell
      have hsz := hE.size
      go_wp2_with (at_builtin; refine wpList_append_own _ rfl _ _ 44 rfl w0.heap.size 5 i0 (.int .u8 0) 1 1 Tryd.underlying44 HI.out Z0.out Z1.out Z2.out rfl (by decide) u3 bs.length (bvs bs) rfl (hown.alloc _) ⟨wr.heap.size, 0, none⟩ 1 1 [.int .u8 (safe % 256)] rfl rfl (cells_new _ [.int .u8 (safe % 256)] _ _ rfl) (fun x hx => by simp at hx; subst hx; rfl) (by unfold maxLen; omega) (by omega) (by simp; omega) ?_; intro v' w3 hown' hgrow3 _)
      have hE3 : Ext w0 w3 := (hE.alloc _).grown (hown.alloc _) hgrow3
      have own3 : w3.ownsRow w0.heap.size 5 1 v' (headBytes p q r safe).length (bvs (headBytes p q r safe)) := by
        rw [HH.out, bvs_snoc, List.length_append]
        exact hown'
      have hm3 : (headBytes p q r safe).length = 13 := head_len p q r safe
      have HW : Hid (wdBytes ⟨p, q, r, l, safe⟩ = headBytes p q r safe ++ logBytes l) := rfl
      generalize headBytes p q r safe = hs at *
      clear hown' hgrow3 hown hE b2 HH hm
      go_loopw [3, 6, 7] (fun v i _ wq => ∃ k : Nat, k ≤ len ∧ i = .int .i64 k ∧ Ext w0 wq ∧ wq.ownsRow w0.heap.size 5 1 v (hs ++ logBytes (l.take k)).length (bvs (hs ++ logBytes (l.take k)))) (fun _ i _ _ => len - (intOf i).toNat)
      case atStart => exact ⟨0, Nat.zero_le _, rfl, hE3, by simpa [logBytes_nil] using own3⟩
      case round =>
        obtain ⟨k, hk, rfl, hE5, hown5⟩ := hrel
        have b5c := (B0.ext hE5).cell
        have hll2 : (hs ++ logBytes (l.take k)).length ≤ 600 := by
          have h1 := logBytes_len (l.take k)
          rw [List.length_take] at h1
          rw [List.length_append]
          omega
        by_cases hlt5 : k < len
        · obtain ⟨ba, oa, rfl, hkl, c0, c1, c2, c3, c4, c5, c6, c7⟩ := (h.ext (E0.trans hE5)).at hlt5
          have HB : Hid (hs ++ logBytes (l.take (k + 1)) = (hs ++ logBytes (l.take k)) ++ recBytes l[k]) := by show _ = _; rw [logBytes_take l k hkl, List.append_assoc]
          generalize l[k] = x at *
          generalize hs ++ logBytes (l.take k) = b5 at *
          obtain ⟨x0, x1, x2, x3, x4, x5, x6, x7⟩ := x
          dsimp only at c0 c1 c2 c3 c4 c5 c6 c7
          by_cases h3 : x0 = 3
          · have HRb : Hid (recBytes ⟨x0, x1, x2, x3, x4, x5, x6, x7⟩ = [byt x0, byt x1, byt x2, byt x3, byt x4, byt x5, byt x6, byt x7]) := by show _ = _; simp [recBytes, turns, h3]
            have HTn : Hid (turns ⟨x0, x1, x2, x3, x4, x5, x6, x7⟩ = true) := by show _ = _; simp [turns, h3]
            have h3b : (x0 == 3) = true := by simp [h3]
            clear h3
            have o1 := hE5.alloc (.cells #[.int .i64 x0, .int .i64 x1, .int .i64 x2, .int .i64 x3, .int .i64 x4, .int .i64 x5, .int .i64 x6, .int .i64 x7] 46)
            have X1 := Blk.new wr wr.heap.size #[.int .i64 x0, .int .i64 x1, .int .i64 x2, .int .i64 x3, .int .i64 x4, .int .i64 x5, .int .i64 x6, .int .i64 x7] 46 rfl
            have O1 := hown5.alloc (.cells #[.int .i64 x0, .int .i64 x1, .int .i64 x2, .int .i64 x3, .int .i64 x4, .int .i64 x5, .int .i64 x6, .int .i64 x7] 46)
            have hx1 := X1.cell
            have hs5 := hE5.size
            have X6a := X1.alloc (.cells #[.int .u8 (x0 % 256), .int .u8 (x1 % 256), .int .u8 (x2 % 256)] 5)
            have O6a := O1.alloc (.cells #[.int .u8 (x0 % 256), .int .u8 (x1 % 256), .int .u8 (x2 % 256)] 5)
            have E6a := o1.alloc (.cells #[.int .u8 (x0 % 256), .int .u8 (x1 % 256), .int .u8 (x2 % 256)] 5)
            have hn6 := own_not O6a (X6a.not8 (by decide))
            go_wp2_with (at_builtin; refine wpList_append_own _ rfl _ _ 44 rfl w0.heap.size 5 i0 (.int .u8 0) 1 1 Tryd.underlying44 HI.out Z0.out Z1.out Z2.out rfl (by decide) u3 b5.length (bvs b5) rfl O6a ⟨wr.heap.size + 1, 0, none⟩ 3 3 [.int .u8 (x0 % 256), .int .u8 (x1 % 256), .int .u8 (x2 % 256)] rfl rfl (cells_new _ [.int .u8 (x0 % 256), .int .u8 (x1 % 256), .int .u8 (x2 % 256)] _ _ (by simp)) (fun x hx => by simp at hx; rcases hx with rfl | rfl | rfl <;> rfl) (by unfold maxLen; omega) (by omega) (by simp; omega) ?_; intro v6 w6 hown6 hgrow6 _; have X6 := X6a.grown hgrow6 hn6; have x6c := X6.cell)
            have E6 : Ext w0 w6 := E6a.grown O6a hgrow6
            have O6 : w6.ownsRow w0.heap.size 5 1 v6 (b5 ++ [byt x0, byt x1, byt x2]).length (bvs (b5 ++ [byt x0, byt x1, byt x2])) := by
              rw [List.length_append, bvs_app, show bvs [byt x0, byt x1, byt x2] = [.int .u8 (x0 % 256), .int .u8 (x1 % 256), .int .u8 (x2 % 256)] by simp [bvs, byt_nat]]
              exact hown6
            clear hown6 hgrow6 X6a O6a E6a hn6
            have hl6 : (b5 ++ [byt x0, byt x1, byt x2]).length ≤ 660 := by simp; omega
            have hs6 := E6.size
            generalize hq6 : b5 ++ [byt x0, byt x1, byt x2] = b6 at *
            have HQ6 := (show Hid _ from hq6)
            clear hq6 X1 O1 o1 hx1 hown5 hE5
            generalize wr.heap.size = br at *
            refine (refTurns_any ⟨x0, x1, x2, x3, x4, x5, x6, x7⟩ _).mono ?_
            rintro e w7 ⟨rfl, hw⟩
            rw [HTn.out]
            have E7 := E6.trans hw
            have O7 := own_ext O6 hw
            have X7 := X6.ext hw
            clear hw E6 O6 X6 x6c
            have x7c := X7.cell
            have hs7 := E7.size
            have X8a := X7.alloc (.cells #[.int .u8 (x3 % 256), .int .u8 (x4 % 256), .int .u8 (x5 % 256), .int .u8 (x6 % 256)] 5)
            have O8a := O7.alloc (.cells #[.int .u8 (x3 % 256), .int .u8 (x4 % 256), .int .u8 (x5 % 256), .int .u8 (x6 % 256)] 5)
            have E8a := E7.alloc (.cells #[.int .u8 (x3 % 256), .int .u8 (x4 % 256), .int .u8 (x5 % 256), .int .u8 (x6 % 256)] 5)
            have hn8 := own_not O8a (X8a.not8 (by decide))
            have hl8 : (b6 ++ [byt x3, byt x4, byt x5, byt x6]).length ≤ 690 := by simp; omega
            go_wp2_with (first | (at_builtin; refine wpList_append_own _ rfl _ _ 44 rfl w0.heap.size 5 i0 (.int .u8 0) 1 1 Tryd.underlying44 HI.out Z0.out Z1.out Z2.out rfl (by decide) v6 b6.length (bvs b6) rfl O8a ⟨w7.heap.size, 0, none⟩ 4 4 [.int .u8 (x3 % 256), .int .u8 (x4 % 256), .int .u8 (x5 % 256), .int .u8 (x6 % 256)] rfl rfl (cells_new _ [.int .u8 (x3 % 256), .int .u8 (x4 % 256), .int .u8 (x5 % 256), .int .u8 (x6 % 256)] _ _ (by simp)) (fun x hx => by simp at hx; rcases hx with rfl | rfl | rfl | rfl <;> rfl) (by unfold maxLen; omega) (by omega) (by simp; omega) ?_; intro v8 w8 hown8 hgrow8 _; have X8 := X8a.grown hgrow8 hn8; have x8c := X8.cell; have E8 : Ext w0 w8 := E8a.grown O8a hgrow8; have hs8 := E8.size; have O8 : w8.ownsRow w0.heap.size 5 1 v8 (b6 ++ [byt x3, byt x4, byt x5, byt x6]).length (bvs (b6 ++ [byt x3, byt x4, byt x5, byt x6])) := (by rw [List.length_append, bvs_app, show bvs [byt x3, byt x4, byt x5, byt x6] = [.int .u8 (x3 % 256), .int .u8 (x4 % 256), .int .u8 (x5 % 256), .int .u8 (x6 % 256)] by simp [bvs, byt_nat]]; exact hown8); have O9a := O8.alloc (.cells #[.int .u8 (x7 % 256)] 5)) | (at_builtin; refine wpList_append_own _ rfl _ _ 44 rfl w0.heap.size 5 i0 (.int .u8 0) 1 1 Tryd.underlying44 HI.out Z0.out Z1.out Z2.out rfl (by decide) v8 (b6 ++ [byt x3, byt x4, byt x5, byt x6]).length (bvs (b6 ++ [byt x3, byt x4, byt x5, byt x6])) rfl O9a ⟨w8.heap.size, 0, none⟩ 1 1 [.int .u8 (x7 % 256)] rfl rfl (cells_new _ [.int .u8 (x7 % 256)] _ _ (by simp)) (fun x hx => by simp at hx; subst hx; rfl) (by unfold maxLen; omega) (by omega) (by simp; omega) ?_; intro v9 w9 hown9 hgrow9 _))
            have E9 : Ext w0 w9 := (E8.alloc _).grown O9a hgrow9
            have O9 : w9.ownsRow w0.heap.size 5 1 v9 ((b6 ++ [byt x3, byt x4, byt x5, byt x6]) ++ [byt x7]).length (bvs ((b6 ++ [byt x3, byt x4, byt x5, byt x6]) ++ [byt x7])) := by
              rw [List.length_append, bvs_app, show bvs [byt x7] = [.int .u8 (x7 % 256)] by simp [bvs, byt_nat]]
              exact hown9
            go_roundw
            case rel => exact ⟨k + 1, by omega, by go_num, E9, by rw [HB.out, HRb.out, show b5 ++ [byt x0, byt x1, byt x2, byt x3, byt x4, byt x5, byt x6, byt x7] = (b6 ++ [byt x3, byt x4, byt x5, byt x6]) ++ [byt x7] by rw [← HQ6.out]; simp]; exact O9⟩
            case measure => simp [intOf]; omega
          · have h3b : (x0 == 3) = false := by simp [h3]
            by_cases h1 : x0 = 1
            · have HRb : Hid (recBytes ⟨x0, x1, x2, x3, x4, x5, x6, x7⟩ = [byt x0, byt x1, byt x2, byt x3, byt x4, byt x5, byt x6]) := by show _ = _; simp [recBytes, turns, h1]
              have HTn : Hid (turns ⟨x0, x1, x2, x3, x4, x5, x6, x7⟩ = true) := by show _ = _; simp [turns, h1]
              clear h3 h1
              have o1 := hE5.alloc (.cells #[.int .i64 x0, .int .i64 x1, .int .i64 x2, .int .i64 x3, .int .i64 x4, .int .i64 x5, .int .i64 x6, .int .i64 x7] 46)
              have X1 := Blk.new wr wr.heap.size #[.int .i64 x0, .int .i64 x1, .int .i64 x2, .int .i64 x3, .int .i64 x4, .int .i64 x5, .int .i64 x6, .int .i64 x7] 46 rfl
              have O1 := hown5.alloc (.cells #[.int .i64 x0, .int .i64 x1, .int .i64 x2, .int .i64 x3, .int .i64 x4, .int .i64 x5, .int .i64 x6, .int .i64 x7] 46)
              have hx1 := X1.cell
              have hs5 := hE5.size
              have X6a := X1.alloc (.cells #[.int .u8 (x0 % 256), .int .u8 (x1 % 256), .int .u8 (x2 % 256)] 5)
              have O6a := O1.alloc (.cells #[.int .u8 (x0 % 256), .int .u8 (x1 % 256), .int .u8 (x2 % 256)] 5)
              have E6a := o1.alloc (.cells #[.int .u8 (x0 % 256), .int .u8 (x1 % 256), .int .u8 (x2 % 256)] 5)
              have hn6 := own_not O6a (X6a.not8 (by decide))
              go_wp2_with (at_builtin; refine wpList_append_own _ rfl _ _ 44 rfl w0.heap.size 5 i0 (.int .u8 0) 1 1 Tryd.underlying44 HI.out Z0.out Z1.out Z2.out rfl (by decide) u3 b5.length (bvs b5) rfl O6a ⟨wr.heap.size + 1, 0, none⟩ 3 3 [.int .u8 (x0 % 256), .int .u8 (x1 % 256), .int .u8 (x2 % 256)] rfl rfl (cells_new _ [.int .u8 (x0 % 256), .int .u8 (x1 % 256), .int .u8 (x2 % 256)] _ _ (by simp)) (fun x hx => by simp at hx; rcases hx with rfl | rfl | rfl <;> rfl) (by unfold maxLen; omega) (by omega) (by simp; omega) ?_; intro v6 w6 hown6 hgrow6 _; have X6 := X6a.grown hgrow6 hn6; have x6c := X6.cell)
              have E6 : Ext w0 w6 := E6a.grown O6a hgrow6
              have O6 : w6.ownsRow w0.heap.size 5 1 v6 (b5 ++ [byt x0, byt x1, byt x2]).length (bvs (b5 ++ [byt x0, byt x1, byt x2])) := by
                rw [List.length_append, bvs_app, show bvs [byt x0, byt x1, byt x2] = [.int .u8 (x0 % 256), .int .u8 (x1 % 256), .int .u8 (x2 % 256)] by simp [bvs, byt_nat]]
                exact hown6
              clear hown6 hgrow6 X6a O6a E6a hn6
              have hl6 : (b5 ++ [byt x0, byt x1, byt x2]).length ≤ 660 := by simp; omega
              have hs6 := E6.size
              generalize hq6 : b5 ++ [byt x0, byt x1, byt x2] = b6 at *
              have HQ6 := (show Hid _ from hq6)
              clear hq6 X1 O1 o1 hx1 hown5 hE5
              generalize wr.heap.size = br at *
              refine (refTurns_any ⟨x0, x1, x2, x3, x4, x5, x6, x7⟩ _).mono ?_
              rintro e w7 ⟨rfl, hw⟩
              rw [HTn.out]
              have E7 := E6.trans hw
              have O7 := own_ext O6 hw
              have X7 := X6.ext hw
              clear hw E6 O6 X6 x6c
              have x7c := X7.cell
              have hs7 := E7.size
              have X8a := X7.alloc (.cells #[.int .u8 (x3 % 256), .int .u8 (x4 % 256), .int .u8 (x5 % 256), .int .u8 (x6 % 256)] 5)
              have O8a := O7.alloc (.cells #[.int .u8 (x3 % 256), .int .u8 (x4 % 256), .int .u8 (x5 % 256), .int .u8 (x6 % 256)] 5)
              have E8a := E7.alloc (.cells #[.int .u8 (x3 % 256), .int .u8 (x4 % 256), .int .u8 (x5 % 256), .int .u8 (x6 % 256)] 5)
              have hn8 := own_not O8a (X8a.not8 (by decide))
              go_wp2_with (at_builtin; refine wpList_append_own _ rfl _ _ 44 rfl w0.heap.size 5 i0 (.int .u8 0) 1 1 Tryd.underlying44 HI.out Z0.out Z1.out Z2.out rfl (by decide) v6 b6.length (bvs b6) rfl O8a ⟨w7.heap.size, 0, none⟩ 4 4 [.int .u8 (x3 % 256), .int .u8 (x4 % 256), .int .u8 (x5 % 256), .int .u8 (x6 % 256)] rfl rfl (cells_new _ [.int .u8 (x3 % 256), .int .u8 (x4 % 256), .int .u8 (x5 % 256), .int .u8 (x6 % 256)] _ _ (by simp)) (fun x hx => by simp at hx; rcases hx with rfl | rfl | rfl | rfl <;> rfl) (by unfold maxLen; omega) (by omega) (by simp; omega) ?_; intro v8 w8 hown8 hgrow8 _; have X8 := X8a.grown hgrow8 hn8; have x8c := X8.cell)
              have E8 : Ext w0 w8 := E8a.grown O8a hgrow8
              have O8 : w8.ownsRow w0.heap.size 5 1 v8 (b6 ++ [byt x3, byt x4, byt x5, byt x6]).length (bvs (b6 ++ [byt x3, byt x4, byt x5, byt x6])) := by
                rw [List.length_append, bvs_app, show bvs [byt x3, byt x4, byt x5, byt x6] = [.int .u8 (x3 % 256), .int .u8 (x4 % 256), .int .u8 (x5 % 256), .int .u8 (x6 % 256)] by simp [bvs, byt_nat]]
                exact hown8
              clear hown8 hgrow8 X8a O8a E8a hn8
              have hl8 : (b6 ++ [byt x3, byt x4, byt x5, byt x6]).length ≤ 680 := by simp; omega
              have hs8 := E8.size
              generalize hq8 : b6 ++ [byt x3, byt x4, byt x5, byt x6] = b8 at *
              have HQ8 := (show Hid _ from hq8)
              clear hq8 E7 O7 X7 x7c
              go_wp2_with fail
              go_roundw
              case rel => exact ⟨k + 1, by omega, by go_num, E8, by rw [HB.out, HRb.out, show b5 ++ [byt x0, byt x1, byt x2, byt x3, byt x4, byt x5, byt x6] = b8 by rw [← HQ8.out, ← HQ6.out]; simp]; exact O8⟩
              case measure => simp [intOf]; omega
            · have HRb : Hid (recBytes ⟨x0, x1, x2, x3, x4, x5, x6, x7⟩ = [byt x0, byt x1, byt x2]) := by show _ = _; simp [recBytes, turns, h1, h3]
              have HTn : Hid (turns ⟨x0, x1, x2, x3, x4, x5, x6, x7⟩ = false) := by show _ = _; simp [turns, h1, h3]
              clear h3 h1
              have o1 := hE5.alloc (.cells #[.int .i64 x0, .int .i64 x1, .int .i64 x2, .int .i64 x3, .int .i64 x4, .int .i64 x5, .int .i64 x6, .int .i64 x7] 46)
              have X1 := Blk.new wr wr.heap.size #[.int .i64 x0, .int .i64 x1, .int .i64 x2, .int .i64 x3, .int .i64 x4, .int .i64 x5, .int .i64 x6, .int .i64 x7] 46 rfl
              have O1 := hown5.alloc (.cells #[.int .i64 x0, .int .i64 x1, .int .i64 x2, .int .i64 x3, .int .i64 x4, .int .i64 x5, .int .i64 x6, .int .i64 x7] 46)
              have hx1 := X1.cell
              have hs5 := hE5.size
              have X6a := X1.alloc (.cells #[.int .u8 (x0 % 256), .int .u8 (x1 % 256), .int .u8 (x2 % 256)] 5)
              have O6a := O1.alloc (.cells #[.int .u8 (x0 % 256), .int .u8 (x1 % 256), .int .u8 (x2 % 256)] 5)
              have E6a := o1.alloc (.cells #[.int .u8 (x0 % 256), .int .u8 (x1 % 256), .int .u8 (x2 % 256)] 5)
              have hn6 := own_not O6a (X6a.not8 (by decide))
              go_wp2_with (at_builtin; refine wpList_append_own _ rfl _ _ 44 rfl w0.heap.size 5 i0 (.int .u8 0) 1 1 Tryd.underlying44 HI.out Z0.out Z1.out Z2.out rfl (by decide) u3 b5.length (bvs b5) rfl O6a ⟨wr.heap.size + 1, 0, none⟩ 3 3 [.int .u8 (x0 % 256), .int .u8 (x1 % 256), .int .u8 (x2 % 256)] rfl rfl (cells_new _ [.int .u8 (x0 % 256), .int .u8 (x1 % 256), .int .u8 (x2 % 256)] _ _ (by simp)) (fun x hx => by simp at hx; rcases hx with rfl | rfl | rfl <;> rfl) (by unfold maxLen; omega) (by omega) (by simp; omega) ?_; intro v6 w6 hown6 hgrow6 _; have X6 := X6a.grown hgrow6 hn6; have x6c := X6.cell)
              have E6 : Ext w0 w6 := E6a.grown O6a hgrow6
              have O6 : w6.ownsRow w0.heap.size 5 1 v6 (b5 ++ [byt x0, byt x1, byt x2]).length (bvs (b5 ++ [byt x0, byt x1, byt x2])) := by
                rw [List.length_append, bvs_app, show bvs [byt x0, byt x1, byt x2] = [.int .u8 (x0 % 256), .int .u8 (x1 % 256), .int .u8 (x2 % 256)] by simp [bvs, byt_nat]]
                exact hown6
              clear hown6 hgrow6 X6a O6a E6a hn6
              have hl6 : (b5 ++ [byt x0, byt x1, byt x2]).length ≤ 660 := by simp; omega
              have hs6 := E6.size
              generalize hq6 : b5 ++ [byt x0, byt x1, byt x2] = b6 at *
              have HQ6 := (show Hid _ from hq6)
              clear hq6 X1 O1 o1 hx1 hown5 hE5
              generalize wr.heap.size = br at *
              refine (refTurns_any ⟨x0, x1, x2, x3, x4, x5, x6, x7⟩ _).mono ?_
              rintro e w7 ⟨rfl, hw⟩
              rw [HTn.out]
              have E7 := E6.trans hw
              have O7 := own_ext O6 hw
              have X7 := X6.ext hw
              clear hw E6 O6 X6 x6c
              have x7c := X7.cell
              have hs7 := E7.size
              go_wp2_with fail
              go_roundw
              case rel => exact ⟨k + 1, by omega, by go_num, E7, by rw [HB.out, HRb.out, HQ6.out]; exact O7⟩
              case measure => simp [intOf]; omega
        · have HF : Hid (l.take k = l) := List.take_of_length_le (by omega)
          rw [HF.out] at hown5
          have HNe : Hid (hs ++ logBytes l ≠ []) := fun e => by have h2 := congrArg List.length e; rw [List.length_append, List.length_nil] at h2; omega
          have hE9 := E0.trans hE5
          clear hll2 HF
          generalize hs ++ logBytes l = all at *
          have hcv := convert_bytes hown5 HNe.out
          obtain ⟨av, cv, rfl⟩ := slice_of hown5
          go_wp2_with fail
          go_ret
          exact ⟨by rw [HW.out]; rfl, hE9⟩
end Go.Proofs.YtbfefocehnafgaaDoor.B
