/- The contract of the reference's next: the record that mending puts next. -/
import Derived.Test.YtlpodahldpaniaaGreatCrew2
import Derived.Test.YtlpodahldpaniaaGreatScan2
import Derived.Test.YtlpodahldpaniaaGreatRoll2
namespace Go.Proofs.YtlpodahldpaniaaGreat.B
set_option maxRecDepth 100000
open Go.ChangeShapes Go.WideShapes Go.ChangeAt Go.RowKit

/-- A record, stored. -/
abbrev put8 (w : World) (b : Nat) (x0 x1 x2 x3 x4 x5 x6 x7 : Value) : World := ((((((((w.setCell ⟨b, 0, none⟩ x0).setCell ⟨b, 1, none⟩ x1).setCell ⟨b, 2, none⟩ x2).setCell ⟨b, 3, none⟩ x3).setCell ⟨b, 4, none⟩ x4).setCell ⟨b, 5, none⟩ x5).setCell ⟨b, 6, none⟩ x6).setCell ⟨b, 7, none⟩ x7)
theorem put8_ext {a w : World} (h : Ext a w) (b : Nat) (hb : a.heap.size ≤ b) (x0 x1 x2 x3 x4 x5 x6 x7 : Value) : Ext a (put8 w b x0 x1 x2 x3 x4 x5 x6 x7) := ((((((((h.setCell (p := ⟨b, 0, none⟩) hb x0).setCell (p := ⟨b, 1, none⟩) hb x1).setCell (p := ⟨b, 2, none⟩) hb x2).setCell (p := ⟨b, 3, none⟩) hb x3).setCell (p := ⟨b, 4, none⟩) hb x4).setCell (p := ⟨b, 5, none⟩) hb x5).setCell (p := ⟨b, 6, none⟩) hb x6).setCell (p := ⟨b, 7, none⟩) hb x7)
theorem put8_blk {w : World} {b : Nat} {y0 y1 y2 y3 y4 y5 y6 y7 : Value} {t : TypeId} (h : Blk w b #[y0, y1, y2, y3, y4, y5, y6, y7] t) (x0 x1 x2 x3 x4 x5 x6 x7 : Value) : Blk (put8 w b x0 x1 x2 x3 x4 x5 x6 x7) b #[x0, x1, x2, x3, x4, x5, x6, x7] t := by
  have h2 := ((((((((h.set 0 x0).set 1 x1).set 2 x2).set 3 x3).set 4 x4).set 5 x5).set 6 x6).set 7 x7)
  simpa using h2
theorem first_at {l : List Rc} {k : Nat} (hk : k < 9) (h0 : ofState [2] (stateR l) k = []) (hs : stateR l (1 + (k : Int)) = 2) : firstR l = 1 + (k : Int) := by
  rw [Int.add_comm] at hs ⊢
  have hc : [2].contains (stateR l ((k : Int) + 1)) = true := by rw [hs]; rfl
  exact (firstR_some hk hc (by rw [ofState_succ, h0, hc, if_pos rfl]; rfl)).1
theorem first_next {l : List Rc} {k : Nat} (h0 : ofState [2] (stateR l) k = []) (hs : ¬ stateR l (1 + (k : Int)) = 2) : ofState [2] (stateR l) (k + 1) = [] := by
  rw [Int.add_comm] at hs
  rw [ofState_succ, h0, if_neg (by simpa using fun h => hs h)]
set_option maxHeartbeats 8000000 in
theorem refNext_any (a : Option Addr) (len cap : Nat) (l : List Rc) (w : World) (h : Recs w a len l) (hl : len ≤ 60) (hR : Right l) :
    Calls Tryz.prog 44 #[.slice a len cap] w fun e w' => e = .returned (.tuple #[(nextAns l).val, .bool (isNext l)]) ∧ Ext w w' := by
  have E0 := (Ext.refl w).alloc (.cells #[.int .i64 0, .int .i64 0, .int .i64 0, .int .i64 0, .int .i64 0, .int .i64 0, .int .i64 0, .int .i64 0] 65)
  have B0 := Blk.new w w.heap.size #[.int .i64 0, .int .i64 0, .int .i64 0, .int .i64 0, .int .i64 0, .int .i64 0, .int .i64 0, .int .i64 0] 65 rfl
  have XF : Hid (firstR l ≠ 0 → isNext l = true ∧ nextAns l = endOf l (firstR l)) := next_first
  have XB : Hid (firstR l = 0 → bestR l ≠ 0 → isNext l = true ∧ nextAns l = rollRec l (bestR l)) := next_best
  have XN : Hid (firstR l = 0 → bestR l = 0 → isNext l = false ∧ nextAns l = zRc) := next_none
  have HBM : Hid (bestR l ≠ 0 → stateR l (bestR l) ≠ 4) := fun hb => by have := (bestR_mem hb).2; omega
  have HB : Hid (bestOf l (losersR l) = bestR l) := rfl
  have HL := fun W (e : Ext w W) => refLosers_any a len cap l W (h.ext e) (by omega)
  generalize nextAns l = na at *
  generalize isNext l = isn at *
  have hcap : ∀ k : Nat, k ≤ 9 → (1 + (k : Int)) ≤ 10 := fun k hk => by omega
  have hlo : (losersR l).length ≤ 9 := Nat.le_trans (List.length_filter_le _ _) (by decide)
  generalize losersR l = lo at *
  go_enter Tryz.func44, Tryz.ntmps44
  go_wp2_with fail
  generalize w.alloc (.cells #[.int .i64 0, .int .i64 0, .int .i64 0, .int .i64 0, .int .i64 0, .int .i64 0, .int .i64 0, .int .i64 0] 65) = w0 at *
  obtain ⟨b, hb⟩ : ∃ b, w.heap.size = b := ⟨_, rfl⟩
  rw [hb] at B0 ⊢
  go_loopw [4] (fun i wr => ∃ k : Nat, k ≤ 9 ∧ i = .int .i64 (1 + (k : Int)) ∧ wr = w0 ∧ Hid (ofState [2] (stateR l) k = [])) (fun i _ => 10 - (intOf i).toNat)
  case atStart => exact ⟨0, by omega, rfl, rfl, rfl⟩
  case round =>
    obtain ⟨k, hk, rfl, rfl, HO⟩ := hrel
    by_cases hlt : k < 9
    · have i1 : (1 + (k : Int)) ≤ 9 := by omega
      by_cases hs : stateR l (1 + (k : Int)) = 2
      · have hf := first_at hlt HO.out hs
        have HF : Hid (isn = true ∧ na = endOf l (1 + (k : Int))) := by have := XF.out (by rw [hf]; omega); rw [hf] at this; exact this
        have HS := state_any a len cap l (1 + (k : Int)) wr (h.ext E0) (by omega)
        rw [hs] at HS
        have bc := B0.cell
        have bf := B0.fr
        clear XF XB XN HBM HB HL HO hf hs
        go_wp2_with fail
        refine HS.mono ?_
        rintro e w1 ⟨rfl, rfl⟩
        go_wp2_with fail
        refine (last_any a len cap l (1 + (k : Int)) _ (h.ext E0) (by omega)).mono ?_
        rintro e w1 ⟨rfl, rfl⟩
        have n_ := (put8_blk B0 (.int .i64 4) (.int .i64 (1 + (k : Int))) (.int .i64 (lastR l (1 + (k : Int)) : Nat)) (.int .i64 0) (.int .i64 0) (.int .i64 0) (.int .i64 0) (.int .i64 0)).cell
        have hE_ := put8_ext E0 b (Nat.le_of_eq hb) (.int .i64 4) (.int .i64 (1 + (k : Int))) (.int .i64 (lastR l (1 + (k : Int)) : Nat)) (.int .i64 0) (.int .i64 0) (.int .i64 0) (.int .i64 0) (.int .i64 0)
        go_wp2_with fail
        refine bodyPost_ret (v := .tuple #[.agg #[.int .i64 4, .int .i64 (1 + (k : Int)), .int .i64 (lastR l (1 + (k : Int)) : Nat), .int .i64 0, .int .i64 0, .int .i64 0, .int .i64 0, .int .i64 0], .bool true]) (by simp [results, Tryz.results44, go_sem, n_]) rfl ⟨by rw [HF.out.1, HF.out.2] <;> rfl, hE_⟩
      · have HO2 : Hid (ofState [2] (stateR l) (k + 1) = []) := first_next HO.out hs
        have HS := state_any a len cap l (1 + (k : Int)) wr (h.ext E0) (by omega)
        generalize stateR l (1 + (k : Int)) = s at *
        have hbf : (s == 2) = false := by simpa using hs
        clear XF XB XN HBM HB HL HO
        go_wp2_with fail
        refine HS.mono ?_
        rintro e w1 ⟨rfl, rfl⟩
        go_wp2_with fail
        go_roundw
        case rel => exact ⟨k + 1, by omega, by go_num, trivial, HO2⟩
        case measure => simp [intOf]; omega
    · obtain rfl : k = 9 := by omega
      have hf := firstR_none HO.out
      clear XF
      go_wp2_with fail
      refine (HL _ E0).mono ?_
      rintro e w3 ⟨a3, cap3, rfl, hc3, hI, hw⟩
      have E3 := E0.trans hw
      have B3 := B0.ext hw
      clear hw HL E0 B0
      go_wp2_with fail
      go_loopw [5, 24] (fun d i wq => ∃ j : Nat, j ≤ lo.length ∧ i = .int .i64 j ∧ d = .int .i64 (bestOf l (lo.take j)) ∧ wq = w3) (fun _ i _ => lo.length - (intOf i).toNat)
      case atStart => exact ⟨0, Nat.zero_le _, rfl, rfl, rfl⟩
      case round =>
        obtain ⟨j, hj, rfl, rfl, rfl⟩ := hrel
        by_cases hjl : j < lo.length
        · obtain ⟨bl, rfl, hcl⟩ := hI.at hjl
          have i1 : ((j : Int) < (lo.length : Int)) := by omega
          have HNx : Hid (bestOf l (lo.take (j + 1)) = betterR l (bestOf l (lo.take j)) lo[j]) := by rw [Hid, List.take_succ_eq_append_getElem hjl, bestOf_snoc]
          generalize lo[j] = t at *
          generalize bestOf l (lo.take j) = bb at *
          have HLa := fun t => last_any a len cap l t wr (h.ext E3) (by omega)
          clear XB XN HBM HB
          by_cases hb0 : bb = 0
          · subst hb0
            have HNy : Hid (bestOf l (lo.take (j + 1)) = t) := by rw [Hid, HNx.out]; unfold betterR; rw [if_pos (Or.inl rfl)]
            clear HNx
            go_wp2_with fail
            go_roundw
            case rel => exact ⟨j + 1, by omega, by go_num, by rw [HNy.out], trivial⟩
            case measure => simp [intOf]; omega
          · have hbf : (bb == 0) = false := by simpa using hb0
            have HLb := HLa bb
            have HLt := HLa t
            have HNy : Hid (bestOf l (lo.take (j + 1)) = if lastR l bb < lastR l t then t else bb) := by rw [Hid, HNx.out]; unfold betterR; simp [hb0]
            clear HNx HLa
            generalize lastR l bb = lb at *
            generalize lastR l t = lt at *
            by_cases hlt : lb < lt
            · have i2 : ((lb : Int) < (lt : Int)) := by omega
              have HNz : Hid (bestOf l (lo.take (j + 1)) = t) := by rw [Hid, HNy.out, if_pos hlt]
              clear HNy
              go_wp2_with fail
              refine HLt.mono ?_
              rintro e w4 ⟨rfl, rfl⟩
              go_wp2_with fail
              refine HLb.mono ?_
              rintro e w4 ⟨rfl, rfl⟩
              go_wp2_with fail
              go_roundw
              case rel => exact ⟨j + 1, by omega, by go_num, by rw [HNz.out], trivial⟩
              case measure => simp [intOf]; omega
            · have i2 : ¬ ((lb : Int) < (lt : Int)) := by omega
              have HNz : Hid (bestOf l (lo.take (j + 1)) = bb) := by rw [Hid, HNy.out, if_neg hlt]
              clear HNy
              go_wp2_with fail
              refine HLt.mono ?_
              rintro e w4 ⟨rfl, rfl⟩
              go_wp2_with fail
              refine HLb.mono ?_
              rintro e w4 ⟨rfl, rfl⟩
              go_wp2_with fail
              go_roundw
              case rel => exact ⟨j + 1, by omega, by go_num, by rw [HNz.out], trivial⟩
              case measure => simp [intOf]; omega
        · obtain rfl : j = lo.length := by omega
          rw [List.take_length, HB.out]
          have bc := B3.cell
          have bf := B3.fr
          by_cases hbz : bestR l = 0
          · have HF := (show Hid (isn = false ∧ na = zRc) from XN.out hf hbz)
            rw [hbz]
            clear XB XN HBM HB
            have n_ := (put8_blk B3 (.int .i64 0) (.int .i64 0) (.int .i64 0) (.int .i64 0) (.int .i64 0) (.int .i64 0) (.int .i64 0) (.int .i64 0)).cell
            have hE_ := put8_ext E3 b (Nat.le_of_eq hb) (.int .i64 0) (.int .i64 0) (.int .i64 0) (.int .i64 0) (.int .i64 0) (.int .i64 0) (.int .i64 0) (.int .i64 0)
            go_wp2_with fail
            refine bodyPost_ret (v := .tuple #[.agg #[.int .i64 0, .int .i64 0, .int .i64 0, .int .i64 0, .int .i64 0, .int .i64 0, .int .i64 0, .int .i64 0], .bool false]) (by simp [results, Tryz.results44, go_sem, n_]) rfl ⟨by rw [HF.out.1, HF.out.2] <;> rfl, hE_⟩
          · have HF := (show Hid (isn = true ∧ na = rollRec l (bestR l)) from XB.out hf hbz)
            have HRo := rolled_any a len cap l (bestR l) wr (h.ext E3) hl hR (HBM.out hbz)
            generalize rollRec l (bestR l) = rr at *
            obtain ⟨r0, r1, r2, r3, r4, r5, r6, r7⟩ := rr
            generalize bestR l = br at *
            have hbf : (br == 0) = false := by simpa using hbz
            clear XB XN HBM HB
            go_wp2_with fail
            refine HRo.mono ?_
            rintro e w4 ⟨rfl, hw⟩
            have E4 := E3.trans hw
            have bc := (B3.ext hw).cell
            have bf := (B3.ext hw).fr
            have n_ := (put8_blk (B3.ext hw) (.int .i64 r0) (.int .i64 r1) (.int .i64 r2) (.int .i64 r3) (.int .i64 r4) (.int .i64 r5) (.int .i64 r6) (.int .i64 r7)).cell
            have hE_ := put8_ext E4 b (Nat.le_of_eq hb) (.int .i64 r0) (.int .i64 r1) (.int .i64 r2) (.int .i64 r3) (.int .i64 r4) (.int .i64 r5) (.int .i64 r6) (.int .i64 r7)
            go_wp2_with fail
            refine bodyPost_ret (v := .tuple #[.agg #[.int .i64 r0, .int .i64 r1, .int .i64 r2, .int .i64 r3, .int .i64 r4, .int .i64 r5, .int .i64 r6, .int .i64 r7], .bool true]) (by simp [results, Tryz.results44, go_sem, n_]) rfl ⟨by rw [HF.out.1, HF.out.2] <;> rfl, hE_⟩
end Go.Proofs.YtlpodahldpaniaaGreat.B
