/- The reference's WorldFrom. -/
import Derived.Test.YtbfefocehnafgaaDoorWireD
import Derived.Deep.RegionWith
namespace Go.Proofs.YtbfefocehnafgaaDoor.B
set_option maxRecDepth 100000
open Go.ChangeShapes Go.WideShapes Go.ChangeAt Go.RowKit

theorem low_ext {w w' : World} {b2 : Nat} (h : w.heap.size = b2) (e : Below b2 w w') : Ext w w' := by subst h; exact e
theorem slice_ofR {w : World} {base n : Nat} {v : Value} {xs : List Value} (h : w.ownsRow base 46 8 v n xs) : ∃ a cap, v = .slice a n cap := by
  rcases h.2 with ⟨rfl, h0⟩ | ⟨g, cap, cur, rfl, _⟩
  · exact ⟨none, 0, by rw [h0]⟩
  · exact ⟨_, _, rfl⟩
theorem own_ltR {w : World} {base n : Nat} {v : Value} {xs : List Value} (h : w.ownsRow base 46 8 v n xs) : v.ownBlock ≠ some w.heap.size := fun e => by
  rcases h.2 with ⟨rfl, _⟩ | ⟨g, cap, cur, rfl, _, hb, _⟩
  · simp [Value.ownBlock] at e
  · simp [Value.ownBlock] at e
    subst e
    rw [Array.getElem?_eq_none (Nat.le_refl _)] at hb
    cases hb
set_option maxHeartbeats 8000000 in
theorem worldFrom_any (s : List UInt8) (w : World) (hs : s.length ≤ 4096) :
    Calls Tryd.prog 11 #[txt s] w fun e w' => Ext w w' ∧ ∃ a cap, e = .returned (.tuple #[wdVal ((fromR s).getD noWd).p ((fromR s).getD noWd).q ((fromR s).getD noWd).r (.slice a ((fromR s).getD noWd).l.length cap) ((fromR s).getD noWd).safe, .bool (fromR s).isSome]) ∧ LogIn w' a ((fromR s).getD noWd).l.length cap ((fromR s).getD noWd).l := by
  have E0 := (((Ext.refl w).alloc (.cells zW 28)).alloc (.cells #[txt s] 52)).alloc (.cells zW 28)
  have R0 := ((Blk.new w w.heap.size zW 28 rfl).alloc (.cells #[txt s] 52)).alloc (.cells zW 28)
  have A0 := (Blk.new (w.alloc (.cells zW 28)) (w.heap.size + 1) #[txt s] 52 (by simp)).alloc (.cells zW 28)
  have B0 := Blk.new ((w.alloc (.cells zW 28)).alloc (.cells #[txt s] 52)) (w.heap.size + 1 + 1) zW 28 (by simp)
  obtain ⟨i0, hi, hz0, hz1, hz2⟩ := info_parts infoRec
  have HI := (show Hid _ from hi)
  have Z0 := (show Hid _ from hz0)
  have Z1 := (show Hid _ from hz1)
  have Z2 := (show Hid _ from hz2)
  clear hi hz0 hz1 hz2
  go_enter Tryd.func11, Tryd.ntmps11
  go_wp2_with fail
  generalize hb2 : w.heap.size = b2 at *
  generalize ((w.alloc (.cells zW 28)).alloc (.cells #[txt s] 52)).alloc (.cells zW 28) = w0 at *
  go_loopw [6, 7] (fun i _ wr => ∃ k : Nat, k ≤ 3 ∧ i = .int .i64 k ∧ Below b2 w wr ∧ Blk wr b2 zW 28 ∧ Blk wr (b2 + 1) #[txt (s.drop (k * 4))] 52 ∧ Blk wr (b2 + 1 + 1) (headN s (k * 4)) 28) (fun i _ _ => 3 - (intOf i).toNat)
  case atStart => exact ⟨0, by omega, rfl, by rw [← hb2]; exact E0, R0, A0, B0⟩
  case round =>
    obtain ⟨k, hk, rfl, hE, hR, hA, hB⟩ := hrel
    by_cases hlt : k < 3
    · have hlti : (k : Int) < 3 := by omega
      go_wp2_with fail
      go_loopw [7] (fun i wq => ∃ c : Nat, c ≤ 3 ∧ i = .int .i64 c ∧ Below b2 w wq ∧ Blk wq b2 zW 28 ∧ Blk wq (b2 + 1) #[txt (s.drop (k * 4 + c))] 52 ∧ Blk wq (b2 + 1 + 1) (headN s (k * 4 + c)) 28) (fun i _ => 3 - (intOf i).toNat)
      case atStart => exact ⟨0, by omega, rfl, hE, hR, hA, hB⟩
      case round =>
        obtain ⟨c, hc, rfl, hE2, hR2, hA2, hB2⟩ := hrel
        by_cases hlc : c < 3
        · have hlci : (c : Int) < 3 := by omega
          have hl3 : (s.drop (k * 4 + c)).length ≤ 5000 := by rw [List.length_drop]; omega
          have HA := fun W (e : Ext wr W) => earByte_any (s.drop (k * 4 + c)) (b2 + 1) W (hA2.ext e) hl3
          rw [byteAt_drop, drop_one] at HA
          have HB := fun W (e : Ext wr W) => hB2.ext e
          go_wp2_with fail
          go_region_with (go_at_call 21; refine (HA _ ((Ext.refl wr).drew)).mono ?_; rintro e w5 ⟨rfl, A5, g5⟩; have B5 := (HB _ ((Ext.refl wr).drew)).gr g5 (by simp); have c5 := B5.lookHead (by omega); have f5 := B5.fr (k * 4 + c))
          have E6 := Below.setCell (belowGr hE2.drew (by show b2 ≤ wr.heap.size; have := hR2.lt; omega) g5 (fun r e => by injection e with e; omega)) (p := ⟨b2 + 1 + 1, k * 4 + c, none⟩) (by show b2 ≤ b2 + 1 + 1; omega) (.int .i64 (byteAt s (k * 4 + c)))
          have R6 := ((hR2.ext (Ext.refl wr).drew).gr g5 (by simp)).other ⟨b2 + 1 + 1, k * 4 + c, none⟩ (.int .i64 (byteAt s (k * 4 + c))) (by show b2 ≠ b2 + 1 + 1; omega)
          have A6 := A5.other ⟨b2 + 1 + 1, k * 4 + c, none⟩ (.int .i64 (byteAt s (k * 4 + c))) (by show b2 + 1 ≠ b2 + 1 + 1; omega)
          have B6 := B5.set (k * 4 + c) (.int .i64 (byteAt s (k * 4 + c)))
          go_wp2_with fail
          go_roundw
          case rel => exact ⟨c + 1, by omega, by go_num, E6, R6, A6, B6⟩
          case measure => simp [intOf]; omega
        · obtain rfl : c = 3 := by omega
          have hl3 : (s.drop (k * 4 + 3)).length ≤ 5000 := by rw [List.length_drop]; omega
          have HA := earByte_any (s.drop (k * 4 + 3)) (b2 + 1) wr hA2 hl3
          rw [byteAt_drop, drop_one] at HA
          go_wp2_with fail
          refine HA.mono ?_
          rintro e w5 ⟨rfl, A5, g5⟩
          have B5 := hB2.gr g5 (by simp)
          have c5 := B5.lookHead (by omega)
          have f5 := B5.fr (k * 4 + 3)
          have E6 := Below.setCell (belowGr hE2 (by have := hR2.lt; omega) g5 (fun r e => by injection e with e; omega)) (p := ⟨b2 + 1 + 1, k * 4 + 3, none⟩) (by show b2 ≤ b2 + 1 + 1; omega) (.int .i64 (byteAt s (k * 4 + 3)))
          have R6 := (hR2.gr g5 (by simp)).other ⟨b2 + 1 + 1, k * 4 + 3, none⟩ (.int .i64 (byteAt s (k * 4 + 3))) (by show b2 ≠ b2 + 1 + 1; omega)
          have A6 := A5.other ⟨b2 + 1 + 1, k * 4 + 3, none⟩ (.int .i64 (byteAt s (k * 4 + 3))) (by show b2 + 1 ≠ b2 + 1 + 1; omega)
          have B6 := B5.set (k * 4 + 3) (.int .i64 (byteAt s (k * 4 + 3)))
          clear HA hA2 hB2 hR2 hE2 B5 A5
          go_wp2_with fail
          go_roundw
          case rel =>
            refine ⟨k + 1, by omega, by go_num, E6, R6, ?_, ?_⟩
            · rw [show (k + 1) * 4 = k * 4 + 3 + 1 by omega]; exact A6
            · rw [show (k + 1) * 4 = k * 4 + 3 + 1 by omega]; exact B6
          case measure => simp [intOf]; omega
    · obtain rfl : k = 3 := by omega
      have hl3 : (s.drop 12).length ≤ 5000 := by rw [List.length_drop]; omega
      rw [show 3 * 4 = 12 from rfl] at hA hB
      rw [headN_12] at hB
      have HA := earByte_any (s.drop 12) (b2 + 1) wr hA hl3
      rw [byteAt_drop, drop_one] at HA
      go_wp2_with fail
      refine HA.mono ?_
      rintro e w5 ⟨rfl, A5, g5⟩
      have B5 := hB.gr g5 (by simp)
      have c5 := B5.cell
      have f5 := B5.fr
      have E6 := Below.setCell (belowGr hE (by have := hR.lt; omega) g5 (fun r e => by injection e with e; omega)) (p := ⟨b2 + 1 + 1, 13, none⟩) (by show b2 ≤ b2 + 1 + 1; omega) (.int .i64 (byteAt s 12))
      have R6 := (hR.gr g5 (by simp)).other ⟨b2 + 1 + 1, 13, none⟩ (.int .i64 (byteAt s 12)) (by show b2 ≠ b2 + 1 + 1; omega)
      have A6 := A5.other ⟨b2 + 1 + 1, 13, none⟩ (.int .i64 (byteAt s 12)) (by show b2 + 1 ≠ b2 + 1 + 1; omega)
      have B6 := B5.set 13 (.int .i64 (byteAt s 12))
      clear HA hA hB hR hE B5 A5 g5
      go_wp2_with fail
      have hF : FrD w b2 (rdWd s).p (rdWd s).q (rdWd s).r (byteAt s 12) (.slice none 0 0) [] (w5.setCell ⟨b2 + 1 + 1, 13, none⟩ (.int .i64 (byteAt s 12))) := ⟨E6, R6, B6, rfl, Or.inl ⟨rfl, rfl⟩⟩
      have HV : Hid (rdWd s = ⟨(rdWd s).p, (rdWd s).q, (rdWd s).r, rdLog (s.drop 13), byteAt s 12⟩) := rfl
      clear E6 R6 B6 c5 f5
      generalize w5.setCell ⟨b2 + 1 + 1, 13, none⟩ (.int .i64 (byteAt s 12)) = w6 at *
      generalize (rdWd s).p = P at *
      generalize (rdWd s).q = Q at *
      generalize (rdWd s).r = R at *
      generalize byteAt s 12 = S at *
      go_loopw [8] (fun _ wq => ∃ (rest : List UInt8) (done : List Rc) (lv : Value), Hid (rdLog (s.drop 13) = done ++ rdLog rest) ∧ done.length + rest.length ≤ 4096 ∧ FrD w b2 P Q R S lv done wq ∧ Blk wq (b2 + 1) #[txt rest] 52) (fun _ wq => match wq.cell? ⟨b2 + 1, 0, none⟩ with | some (.string t) => t.size | _ => 0)
      case atStart => exact ⟨s.drop 13, [], _, rfl, by rw [List.length_drop]; simp; omega, hF, A6⟩
      case round =>
        obtain ⟨rest, done, lv, HD, hlen, F, A⟩ := hrel
        clear hF A6
        have ac := A.cell
        obtain ⟨av, cv, rfl⟩ := slice_ofR F.own
        cases rest with
        | nil =>
          have fc := F.wd.cell
          have HVs : Hid (rdWd s = ⟨P, Q, R, done, S⟩) := by show _ = _; rw [HV.out, HD.out, rdLog_nil, List.append_nil]
          have LI : LogIn wr av done.length cv done := by
            obtain ⟨a', c', he, hrec, hle, hnil⟩ := recs_own' F.own
            injection he with h1 _ h2
            subst h1 h2
            exact ⟨hrec, hle, by unfold maxLen; omega, hnil⟩
          have HFr : Hid ((if worldErr P Q R done S = 0 ∧ wdBytes ⟨P, Q, R, done, S⟩ = s then some (⟨P, Q, R, done, S⟩ : Wd) else none) = fromR s) := by have := from_eq s; rw [HVs.out] at this; exact this
          have H60 : Hid (worldErr P Q R done S = 0 → done.length ≤ 60) := fun hz => right_len _ (logErr_zero (worldErr_zero hz).1).2
          go_wp2_with fail
          refine (worldError_any P Q R av done.length cv done S _ LI.recs LI.le LI.max).mono ?_
          rintro e w7 ⟨rfl, hw⟩
          have F7 := F.ext hw
          have L7 := LI.ext hw
          clear hw fc F LI HD HV HVs A ac
          have fc7 := F7.wd.cell
          generalize worldErr P Q R done S = x1 at *
          by_cases hx : x1 = 0
          · have h60 := H60.out hx
            have hx2 : (x1 != 0) = false := by simp [hx]
            go_wp2_with fail
            refine (worldBytes_any P Q R av done.length cv done S _ L7.recs h60).mono ?_
            rintro e w8 ⟨rfl, hw⟩
            have F8 := F7.ext hw
            have L8 := L7.ext hw
            clear hw fc7 F7 L7
            have fc8 := F8.wd.cell
            by_cases hq : wdBytes ⟨P, Q, R, done, S⟩ = s
            · have HQ : Hid (fromR s = some ⟨P, Q, R, done, S⟩) := by show _ = _; rw [← HFr.out, if_pos ⟨hx, hq⟩]
              rw [hq]
              clear HFr H60 hx hq
              have fz := F8.res.cell
              have ff := F8.res.fr
              have EL := (show Hid _ from low_ext hb2 F8.low)
              have E9 := put14_ext EL.out b2 (by omega) (.int .i64 P.c0) (.int .i64 P.c1) (.int .i64 P.c2) (.int .i64 P.last) (.int .i64 Q.c0) (.int .i64 Q.c1) (.int .i64 Q.c2) (.int .i64 Q.last) (.int .i64 R.c0) (.int .i64 R.c1) (.int .i64 R.c2) (.int .i64 R.last) (.slice av done.length cv) (.int .i64 S)
              have HL9 : Hid (LogIn (put14 w8 b2 (.int .i64 P.c0) (.int .i64 P.c1) (.int .i64 P.c2) (.int .i64 P.last) (.int .i64 Q.c0) (.int .i64 Q.c1) (.int .i64 Q.c2) (.int .i64 Q.last) (.int .i64 R.c0) (.int .i64 R.c1) (.int .i64 R.c2) (.int .i64 R.last) (.slice av done.length cv) (.int .i64 S)) av done.length cv done) := by
                exact L8.gr (put14_gr w8 b2 (.int .i64 P.c0) (.int .i64 P.c1) (.int .i64 P.c2) (.int .i64 P.last) (.int .i64 Q.c0) (.int .i64 Q.c1) (.int .i64 Q.c2) (.int .i64 Q.last) (.int .i64 R.c0) (.int .i64 R.c1) (.int .i64 R.c2) (.int .i64 R.last) (.slice av done.length cv) (.int .i64 S)) (fun ad e e2 => own_notR F8.own F8.res (by decide) (by rw [e, ← e2]; rfl))
              go_wp2_with fail
              refine bodyPost_ret (v := .tuple #[.agg (wdCells P Q R (.slice av done.length cv) S), .bool true]) (by simp [results, Tryd.results11, go_sem, fz]) rfl ⟨E9, ?_⟩
              rw [HQ.out]
              exact ⟨av, cv, rfl, HL9.out⟩
            · have HQ : Hid (fromR s = none) := by show _ = _; rw [← HFr.out, if_neg (fun z => hq z.2)]
              have hqb : (wdBytes ⟨P, Q, R, done, S⟩ == s) = false := by simp [hq]
              clear HFr H60 hx hq
              have fz := F8.res.cell
              have ff := F8.res.fr
              have EL := (show Hid _ from low_ext hb2 F8.low)
              have E9 := put14_ext EL.out b2 (by omega) (.int .i64 0) (.int .i64 0) (.int .i64 0) (.int .i64 0) (.int .i64 0) (.int .i64 0) (.int .i64 0) (.int .i64 0) (.int .i64 0) (.int .i64 0) (.int .i64 0) (.int .i64 0) (.slice none 0 0) (.int .i64 0)
              go_wp2_with fail
              refine bodyPost_ret (v := .tuple #[.agg zW, .bool false]) (by simp [results, Tryd.results11, go_sem, fz]) rfl ⟨E9, ?_⟩
              rw [HQ.out]
              exact ⟨none, 0, rfl, logIn_none _⟩
          · have hx2 : (x1 != 0) = true := by simp [hx]
            have HQ : Hid (fromR s = none) := by show _ = _; rw [← HFr.out, if_neg (fun z => hx z.1)]
            clear HFr H60 hx
            have fz := F7.res.cell
            have ff := F7.res.fr
            have EL := (show Hid _ from low_ext hb2 F7.low)
            have E9 := put14_ext EL.out b2 (by omega) (.int .i64 0) (.int .i64 0) (.int .i64 0) (.int .i64 0) (.int .i64 0) (.int .i64 0) (.int .i64 0) (.int .i64 0) (.int .i64 0) (.int .i64 0) (.int .i64 0) (.int .i64 0) (.slice none 0 0) (.int .i64 0)
            go_wp2_with fail
            refine bodyPost_ret (v := .tuple #[.agg zW, .bool false]) (by simp [results, Tryd.results11, go_sem, fz]) rfl ⟨E9, ?_⟩
            rw [HQ.out]
            exact ⟨none, 0, rfl, logIn_none _⟩
        | cons b t =>
          go_wp2_with fail
          have HAc : Hid (wr.cell? ⟨b2 + 1, 0, none⟩ = some (txt (b :: t))) := by show _ = _; rw [A.cell]; rfl
          have HN : Hid ((b :: t) ≠ []) := by intro e; cases e
          generalize b :: t = rest at *
          have HE : ∀ W k, Blk W (b2 + 1) #[txt (rest.drop k)] 52 → Calls Tryd.prog 21 #[.pointer (some ⟨b2 + 1, 0, none⟩)] W fun e w' => e = .returned (.int .i64 (byteAt rest k)) ∧ Blk w' (b2 + 1) #[txt (rest.drop (k + 1))] 52 ∧ Gr (some (b2 + 1)) W w' := fun W k h => by
            have := earByte_any (rest.drop k) (b2 + 1) W h (by rw [List.length_drop]; omega)
            rw [byteAt_drop, drop_one] at this
            exact this
          refine (HE _ 0 A).mono ?_
          rintro e w0a ⟨rfl, A0a, g0⟩
          have F0a := F.gr A g0
          have o0 := (Ext.refl w0a).alloc (.cells #[.int .i64 (byteAt rest 0), .int .i64 0, .int .i64 0, .int .i64 0, .int .i64 0, .int .i64 0, .int .i64 0, .int .i64 0] 46)
          have X0 := Blk.new w0a w0a.heap.size #[.int .i64 (byteAt rest 0), .int .i64 0, .int .i64 0, .int .i64 0, .int .i64 0, .int .i64 0, .int .i64 0, .int .i64 0] 46 rfl
          have F0 := F0a.ext o0
          have A0 := A0a.ext o0
          have hbx : b2 + 1 + 1 < w0a.heap.size := F0a.wd.lt
          have hbe : some w0a.heap.size ≠ some (b2 + 1) := by intro e; injection e; omega
          have hbo : b2 + 1 ≠ w0a.heap.size := by omega
          have HX : Hid ((Value.slice av done.length cv).ownBlock ≠ some w0a.heap.size) := own_ltR F0a.own
          clear g0 F A ac o0 F0a A0a
          go_wp2_with fail
          generalize hbx0 : w0a.heap.size = bx at *
          clear hbx0
          generalize w0a.alloc (.cells #[.int .i64 (byteAt rest 0), .int .i64 0, .int .i64 0, .int .i64 0, .int .i64 0, .int .i64 0, .int .i64 0, .int .i64 0] 46) = w0b at *
          refine (HE _ 1 A0).mono ?_
          rintro e w1a ⟨rfl, A1a, g1⟩
          have F1a := F0.gr A0 g1
          have X1a := X0.gr g1 hbe
          have xc1 := X1a.cell
          have xf1 := X1a.fr
          have F1 := F1a.set hbx HX.out 1 (.int .i64 (byteAt rest 1))
          have A1 := A1a.other ⟨bx, 1, none⟩ (.int .i64 (byteAt rest 1)) hbo
          have X1 : Blk (w1a.setCell ⟨bx, 1, none⟩ (.int .i64 (byteAt rest 1))) bx #[.int .i64 (byteAt rest 0), .int .i64 (byteAt rest 1), .int .i64 0, .int .i64 0, .int .i64 0, .int .i64 0, .int .i64 0, .int .i64 0] 46 := X1a.set 1 (.int .i64 (byteAt rest 1))
          clear g1 F0 X0 A0
          go_wp2_with fail
          clear xc1 xf1 F1a X1a A1a
          generalize w1a.setCell ⟨bx, 1, none⟩ (.int .i64 (byteAt rest 1)) = w1 at *
          have xd1 := X1.cell
          refine (HE _ 2 A1).mono ?_
          rintro e w2a ⟨rfl, A2a, g2⟩
          have F2a := F1.gr A1 g2
          have X2a := X1.gr g2 hbe
          have xc2 := X2a.cell
          have xf2 := X2a.fr
          have F2 := F2a.set hbx HX.out 2 (.int .i64 (byteAt rest 2))
          have A2 := A2a.other ⟨bx, 2, none⟩ (.int .i64 (byteAt rest 2)) hbo
          have X2 : Blk (w2a.setCell ⟨bx, 2, none⟩ (.int .i64 (byteAt rest 2))) bx #[.int .i64 (byteAt rest 0), .int .i64 (byteAt rest 1), .int .i64 (byteAt rest 2), .int .i64 0, .int .i64 0, .int .i64 0, .int .i64 0, .int .i64 0] 46 := X2a.set 2 (.int .i64 (byteAt rest 2))
          clear g2 F1 X1 A1
          go_wp2_with fail
          clear xc2 xf2 F2a X2a A2a
          generalize w2a.setCell ⟨bx, 2, none⟩ (.int .i64 (byteAt rest 2)) = w2 at *
          have xd2 := X2.cell
          refine (refTurns_any ⟨byteAt rest 0, byteAt rest 1, byteAt rest 2, 0, 0, 0, 0, 0⟩ _).mono ?_
          rintro e w3 ⟨rfl, hw⟩
          have F2b := F2.ext hw
          have X2b := X2.ext hw
          have A2b := A2.ext hw
          clear hw F2 X2 A2 xd1 xd2
          have xd3 := X2b.cell
          by_cases h3 : byteAt rest 0 = 3
          · have HTn : Hid (turns ⟨byteAt rest 0, byteAt rest 1, byteAt rest 2, 0, 0, 0, 0, 0⟩ = true) := by show _ = _; simp [turns, h3]
            have h3b : (byteAt rest 0 == 3) = true := by simp [h3]
            have HR : Hid (rdRec rest = ⟨byteAt rest 0, byteAt rest 1, byteAt rest 2, byteAt rest 3, byteAt rest 4, byteAt rest 5, byteAt rest 6, byteAt rest 7⟩ ∧ recLen (byteAt rest 0) = 8) := by constructor <;> simp [rdRec, recLen, h3]
            clear h3
            rw [HTn.out]
            go_wp2_with fail
            refine (HE _ 3 A2b).mono ?_
            rintro e w3a ⟨rfl, A3a, g3⟩
            have F3a := F2b.gr A2b g3
            have X3a := X2b.gr g3 hbe
            have xc3 := X3a.cell
            have xf3 := X3a.fr
            have F3 := F3a.set hbx HX.out 3 (.int .i64 (byteAt rest 3))
            have A3 := A3a.other ⟨bx, 3, none⟩ (.int .i64 (byteAt rest 3)) hbo
            have X3 : Blk (w3a.setCell ⟨bx, 3, none⟩ (.int .i64 (byteAt rest 3))) bx #[.int .i64 (byteAt rest 0), .int .i64 (byteAt rest 1), .int .i64 (byteAt rest 2), .int .i64 (byteAt rest 3), .int .i64 0, .int .i64 0, .int .i64 0, .int .i64 0] 46 := X3a.set 3 (.int .i64 (byteAt rest 3))
            clear g3 F2b X2b A2b
            go_wp2_with fail
            clear xc3 xf3 F3a X3a A3a
            generalize w3a.setCell ⟨bx, 3, none⟩ (.int .i64 (byteAt rest 3)) = w3 at *
            have xd3 := X3.cell
            refine (HE _ 4 A3).mono ?_
            rintro e w4a ⟨rfl, A4a, g4⟩
            have F4a := F3.gr A3 g4
            have X4a := X3.gr g4 hbe
            have xc4 := X4a.cell
            have xf4 := X4a.fr
            have F4 := F4a.set hbx HX.out 4 (.int .i64 (byteAt rest 4))
            have A4 := A4a.other ⟨bx, 4, none⟩ (.int .i64 (byteAt rest 4)) hbo
            have X4 : Blk (w4a.setCell ⟨bx, 4, none⟩ (.int .i64 (byteAt rest 4))) bx #[.int .i64 (byteAt rest 0), .int .i64 (byteAt rest 1), .int .i64 (byteAt rest 2), .int .i64 (byteAt rest 3), .int .i64 (byteAt rest 4), .int .i64 0, .int .i64 0, .int .i64 0] 46 := X4a.set 4 (.int .i64 (byteAt rest 4))
            clear g4 F3 X3 A3
            go_wp2_with fail
            clear xc4 xf4 F4a X4a A4a
            generalize w4a.setCell ⟨bx, 4, none⟩ (.int .i64 (byteAt rest 4)) = w4 at *
            have xd4 := X4.cell
            refine (HE _ 5 A4).mono ?_
            rintro e w5a ⟨rfl, A5a, g5⟩
            have F5a := F4.gr A4 g5
            have X5a := X4.gr g5 hbe
            have xc5 := X5a.cell
            have xf5 := X5a.fr
            have F5 := F5a.set hbx HX.out 5 (.int .i64 (byteAt rest 5))
            have A5 := A5a.other ⟨bx, 5, none⟩ (.int .i64 (byteAt rest 5)) hbo
            have X5 : Blk (w5a.setCell ⟨bx, 5, none⟩ (.int .i64 (byteAt rest 5))) bx #[.int .i64 (byteAt rest 0), .int .i64 (byteAt rest 1), .int .i64 (byteAt rest 2), .int .i64 (byteAt rest 3), .int .i64 (byteAt rest 4), .int .i64 (byteAt rest 5), .int .i64 0, .int .i64 0] 46 := X5a.set 5 (.int .i64 (byteAt rest 5))
            clear g5 F4 X4 A4
            go_wp2_with fail
            clear xc5 xf5 F5a X5a A5a
            generalize w5a.setCell ⟨bx, 5, none⟩ (.int .i64 (byteAt rest 5)) = w5 at *
            have xd5 := X5.cell
            refine (HE _ 6 A5).mono ?_
            rintro e w6a ⟨rfl, A6a, g6⟩
            have F6a := F5.gr A5 g6
            have X6a := X5.gr g6 hbe
            have xc6 := X6a.cell
            have xf6 := X6a.fr
            have F6 := F6a.set hbx HX.out 6 (.int .i64 (byteAt rest 6))
            have A6 := A6a.other ⟨bx, 6, none⟩ (.int .i64 (byteAt rest 6)) hbo
            have X6 : Blk (w6a.setCell ⟨bx, 6, none⟩ (.int .i64 (byteAt rest 6))) bx #[.int .i64 (byteAt rest 0), .int .i64 (byteAt rest 1), .int .i64 (byteAt rest 2), .int .i64 (byteAt rest 3), .int .i64 (byteAt rest 4), .int .i64 (byteAt rest 5), .int .i64 (byteAt rest 6), .int .i64 0] 46 := X6a.set 6 (.int .i64 (byteAt rest 6))
            clear g6 F5 X5 A5
            go_wp2_with fail
            clear xc6 xf6 F6a X6a A6a
            generalize w6a.setCell ⟨bx, 6, none⟩ (.int .i64 (byteAt rest 6)) = w6 at *
            have xd6 := X6.cell
            refine (HE _ 7 A6).mono ?_
            rintro e w7a ⟨rfl, A7a, g7⟩
            have F7a := F6.gr A6 g7
            have X7a := X6.gr g7 hbe
            have xc7 := X7a.cell
            have xf7 := X7a.fr
            have F7 := F7a.set hbx HX.out 7 (.int .i64 (byteAt rest 7))
            have A7 := A7a.other ⟨bx, 7, none⟩ (.int .i64 (byteAt rest 7)) hbo
            have X7 : Blk (w7a.setCell ⟨bx, 7, none⟩ (.int .i64 (byteAt rest 7))) bx #[.int .i64 (byteAt rest 0), .int .i64 (byteAt rest 1), .int .i64 (byteAt rest 2), .int .i64 (byteAt rest 3), .int .i64 (byteAt rest 4), .int .i64 (byteAt rest 5), .int .i64 (byteAt rest 6), .int .i64 (byteAt rest 7)] 46 := X7a.set 7 (.int .i64 (byteAt rest 7))
            clear g7 F6 X6 A6
            have fc := F7.wd.cell
            have xe := X7.cell
            have ff := F7.wd.fr
            have hsz : b2 ≤ w7a.heap.size := by have h0 : b2 + 1 + 1 < (w7a.setCell ⟨bx, 7, none⟩ (.int .i64 (byteAt rest 7))).heap.size := F7.wd.lt; simp at h0; omega
            have G1 := F7.ext ((Ext.refl (w7a.setCell ⟨bx, 7, none⟩ (.int .i64 (byteAt rest 7)))).alloc (.cells #[.int .i64 (byteAt rest 0), .int .i64 (byteAt rest 1), .int .i64 (byteAt rest 2), .int .i64 (byteAt rest 3), .int .i64 (byteAt rest 4), .int .i64 (byteAt rest 5), .int .i64 (byteAt rest 6), .int .i64 (byteAt rest 7)] 46))
            have C1 := A7.alloc (.cells #[.int .i64 (byteAt rest 0), .int .i64 (byteAt rest 1), .int .i64 (byteAt rest 2), .int .i64 (byteAt rest 3), .int .i64 (byteAt rest 4), .int .i64 (byteAt rest 5), .int .i64 (byteAt rest 6), .int .i64 (byteAt rest 7)] 46)
            have hnw := own_notR G1.own G1.wd (by decide)
            have hnr := own_notR G1.own G1.res (by decide)
            have hne := own_notR G1.own C1 (by decide)
            go_wp2_with (at_builtin; refine wpList_append_own _ rfl _ _ 26 rfl b2 46 i0 (.agg #[.int .i64 0, .int .i64 0, .int .i64 0, .int .i64 0, .int .i64 0, .int .i64 0, .int .i64 0, .int .i64 0]) 8 64 Tryd.underlying26 HI.out Z0.out Z1.out Z2.out rfl (by decide) (.slice av done.length cv) done.length (flat done) rfl G1.own ⟨w7a.heap.size, 0, none⟩ 1 1 [.int .i64 (byteAt rest 0), .int .i64 (byteAt rest 1), .int .i64 (byteAt rest 2), .int .i64 (byteAt rest 3), .int .i64 (byteAt rest 4), .int .i64 (byteAt rest 5), .int .i64 (byteAt rest 6), .int .i64 (byteAt rest 7)] rfl rfl (cells_new _ [.int .i64 (byteAt rest 0), .int .i64 (byteAt rest 1), .int .i64 (byteAt rest 2), .int .i64 (byteAt rest 3), .int .i64 (byteAt rest 4), .int .i64 (byteAt rest 5), .int .i64 (byteAt rest 6), .int .i64 (byteAt rest 7)] _ _ (by simp)) (fun x hx => by simp at hx; rcases hx with rfl | rfl | rfl | rfl | rfl | rfl | rfl | rfl <;> rfl) (by unfold maxLen; omega) (by omega) (by simp; omega) ?_; intro v' w8 hown' hgrow8 _; obtain ⟨av', cv', rfl⟩ := slice_ofR hown'; have D8 := G1.wd.grown hgrow8 hnw; have d8 := D8.cell; have e8 := D8.fr)
            have E8 := belowGr G1.low (by simp; omega) hgrow8 (fun r e => own_ge G1.own r e)
            have R8 := G1.res.grown hgrow8 hnr
            have A8 := C1.grown hgrow8 hne
            have hnw8 := own_notR hown' D8 (by decide)
            have E9 := Below.setCell E8 (p := ⟨b2 + 1 + 1, 12, none⟩) (by show b2 ≤ b2 + 1 + 1; omega) (.slice av' (done.length + 1) cv')
            have R9 := R8.other ⟨b2 + 1 + 1, 12, none⟩ (.slice av' (done.length + 1) cv') (by show b2 ≠ b2 + 1 + 1; omega)
            have A9 := A8.other ⟨b2 + 1 + 1, 12, none⟩ (.slice av' (done.length + 1) cv') (by show b2 + 1 ≠ b2 + 1 + 1; omega)
            have D9 := D8.set 12 (.slice av' (done.length + 1) cv')
            have O9 := own_other hown' (p := ⟨b2 + 1 + 1, 12, none⟩) hnw8 (.slice av' (done.length + 1) cv')
            refine ⟨⟨rest.drop 8, done ++ [rdRec rest], _, ?_, ?_, ⟨E9, R9, D9, ?_⟩, A9⟩, ?_⟩
            · show _ = _
              rw [HD.out, rdLog_cons HN.out, HR.out.2]
              simp
            · have := List.length_pos_iff.2 HN.out
              rw [List.length_append, List.length_drop, List.length_singleton]
              omega
            · rw [flat_snoc, HR.out.1, List.length_append, List.length_singleton]
              exact O9
            · rw [HAc.out, A9.cell]
              show (rest.drop 8).length < rest.length
              have := List.length_pos_iff.2 HN.out
              rw [List.length_drop]
              omega
          · have h3b : (byteAt rest 0 == 3) = false := by simp [h3]
            by_cases h1 : byteAt rest 0 = 1
            · have HTn : Hid (turns ⟨byteAt rest 0, byteAt rest 1, byteAt rest 2, 0, 0, 0, 0, 0⟩ = true) := by show _ = _; simp [turns, h1]
              have HR : Hid (rdRec rest = ⟨byteAt rest 0, byteAt rest 1, byteAt rest 2, byteAt rest 3, byteAt rest 4, byteAt rest 5, byteAt rest 6, 0⟩ ∧ recLen (byteAt rest 0) = 7) := by constructor <;> simp [rdRec, recLen, h1]
              clear h3 h1
              rw [HTn.out]
              go_wp2_with fail
              refine (HE _ 3 A2b).mono ?_
              rintro e w3a ⟨rfl, A3a, g3⟩
              have F3a := F2b.gr A2b g3
              have X3a := X2b.gr g3 hbe
              have xc3 := X3a.cell
              have xf3 := X3a.fr
              have F3 := F3a.set hbx HX.out 3 (.int .i64 (byteAt rest 3))
              have A3 := A3a.other ⟨bx, 3, none⟩ (.int .i64 (byteAt rest 3)) hbo
              have X3 : Blk (w3a.setCell ⟨bx, 3, none⟩ (.int .i64 (byteAt rest 3))) bx #[.int .i64 (byteAt rest 0), .int .i64 (byteAt rest 1), .int .i64 (byteAt rest 2), .int .i64 (byteAt rest 3), .int .i64 0, .int .i64 0, .int .i64 0, .int .i64 0] 46 := X3a.set 3 (.int .i64 (byteAt rest 3))
              clear g3 F2b X2b A2b
              go_wp2_with fail
              clear xc3 xf3 F3a X3a A3a
              generalize w3a.setCell ⟨bx, 3, none⟩ (.int .i64 (byteAt rest 3)) = w3 at *
              have xd3 := X3.cell
              refine (HE _ 4 A3).mono ?_
              rintro e w4a ⟨rfl, A4a, g4⟩
              have F4a := F3.gr A3 g4
              have X4a := X3.gr g4 hbe
              have xc4 := X4a.cell
              have xf4 := X4a.fr
              have F4 := F4a.set hbx HX.out 4 (.int .i64 (byteAt rest 4))
              have A4 := A4a.other ⟨bx, 4, none⟩ (.int .i64 (byteAt rest 4)) hbo
              have X4 : Blk (w4a.setCell ⟨bx, 4, none⟩ (.int .i64 (byteAt rest 4))) bx #[.int .i64 (byteAt rest 0), .int .i64 (byteAt rest 1), .int .i64 (byteAt rest 2), .int .i64 (byteAt rest 3), .int .i64 (byteAt rest 4), .int .i64 0, .int .i64 0, .int .i64 0] 46 := X4a.set 4 (.int .i64 (byteAt rest 4))
              clear g4 F3 X3 A3
              go_wp2_with fail
              clear xc4 xf4 F4a X4a A4a
              generalize w4a.setCell ⟨bx, 4, none⟩ (.int .i64 (byteAt rest 4)) = w4 at *
              have xd4 := X4.cell
              refine (HE _ 5 A4).mono ?_
              rintro e w5a ⟨rfl, A5a, g5⟩
              have F5a := F4.gr A4 g5
              have X5a := X4.gr g5 hbe
              have xc5 := X5a.cell
              have xf5 := X5a.fr
              have F5 := F5a.set hbx HX.out 5 (.int .i64 (byteAt rest 5))
              have A5 := A5a.other ⟨bx, 5, none⟩ (.int .i64 (byteAt rest 5)) hbo
              have X5 : Blk (w5a.setCell ⟨bx, 5, none⟩ (.int .i64 (byteAt rest 5))) bx #[.int .i64 (byteAt rest 0), .int .i64 (byteAt rest 1), .int .i64 (byteAt rest 2), .int .i64 (byteAt rest 3), .int .i64 (byteAt rest 4), .int .i64 (byteAt rest 5), .int .i64 0, .int .i64 0] 46 := X5a.set 5 (.int .i64 (byteAt rest 5))
              clear g5 F4 X4 A4
              go_wp2_with fail
              clear xc5 xf5 F5a X5a A5a
              generalize w5a.setCell ⟨bx, 5, none⟩ (.int .i64 (byteAt rest 5)) = w5 at *
              have xd5 := X5.cell
              refine (HE _ 6 A5).mono ?_
              rintro e w6a ⟨rfl, A6a, g6⟩
              have F6a := F5.gr A5 g6
              have X6a := X5.gr g6 hbe
              have xc6 := X6a.cell
              have xf6 := X6a.fr
              have F6 := F6a.set hbx HX.out 6 (.int .i64 (byteAt rest 6))
              have A6 := A6a.other ⟨bx, 6, none⟩ (.int .i64 (byteAt rest 6)) hbo
              have X6 : Blk (w6a.setCell ⟨bx, 6, none⟩ (.int .i64 (byteAt rest 6))) bx #[.int .i64 (byteAt rest 0), .int .i64 (byteAt rest 1), .int .i64 (byteAt rest 2), .int .i64 (byteAt rest 3), .int .i64 (byteAt rest 4), .int .i64 (byteAt rest 5), .int .i64 (byteAt rest 6), .int .i64 0] 46 := X6a.set 6 (.int .i64 (byteAt rest 6))
              clear g6 F5 X5 A5
              have fc := F6.wd.cell
              have xe := X6.cell
              have ff := F6.wd.fr
              have hsz : b2 ≤ w6a.heap.size := by have h0 : b2 + 1 + 1 < (w6a.setCell ⟨bx, 6, none⟩ (.int .i64 (byteAt rest 6))).heap.size := F6.wd.lt; simp at h0; omega
              have G1 := F6.ext ((Ext.refl (w6a.setCell ⟨bx, 6, none⟩ (.int .i64 (byteAt rest 6)))).alloc (.cells #[.int .i64 (byteAt rest 0), .int .i64 (byteAt rest 1), .int .i64 (byteAt rest 2), .int .i64 (byteAt rest 3), .int .i64 (byteAt rest 4), .int .i64 (byteAt rest 5), .int .i64 (byteAt rest 6), .int .i64 0] 46))
              have C1 := A6.alloc (.cells #[.int .i64 (byteAt rest 0), .int .i64 (byteAt rest 1), .int .i64 (byteAt rest 2), .int .i64 (byteAt rest 3), .int .i64 (byteAt rest 4), .int .i64 (byteAt rest 5), .int .i64 (byteAt rest 6), .int .i64 0] 46)
              have hnw := own_notR G1.own G1.wd (by decide)
              have hnr := own_notR G1.own G1.res (by decide)
              have hne := own_notR G1.own C1 (by decide)
              go_wp2_with (at_builtin; refine wpList_append_own _ rfl _ _ 26 rfl b2 46 i0 (.agg #[.int .i64 0, .int .i64 0, .int .i64 0, .int .i64 0, .int .i64 0, .int .i64 0, .int .i64 0, .int .i64 0]) 8 64 Tryd.underlying26 HI.out Z0.out Z1.out Z2.out rfl (by decide) (.slice av done.length cv) done.length (flat done) rfl G1.own ⟨w6a.heap.size, 0, none⟩ 1 1 [.int .i64 (byteAt rest 0), .int .i64 (byteAt rest 1), .int .i64 (byteAt rest 2), .int .i64 (byteAt rest 3), .int .i64 (byteAt rest 4), .int .i64 (byteAt rest 5), .int .i64 (byteAt rest 6), .int .i64 0] rfl rfl (cells_new _ [.int .i64 (byteAt rest 0), .int .i64 (byteAt rest 1), .int .i64 (byteAt rest 2), .int .i64 (byteAt rest 3), .int .i64 (byteAt rest 4), .int .i64 (byteAt rest 5), .int .i64 (byteAt rest 6), .int .i64 0] _ _ (by simp)) (fun x hx => by simp at hx; rcases hx with rfl | rfl | rfl | rfl | rfl | rfl | rfl | rfl <;> rfl) (by unfold maxLen; omega) (by omega) (by simp; omega) ?_; intro v' w8 hown' hgrow8 _; obtain ⟨av', cv', rfl⟩ := slice_ofR hown'; have D8 := G1.wd.grown hgrow8 hnw; have d8 := D8.cell; have e8 := D8.fr)
              have E8 := belowGr G1.low (by simp; omega) hgrow8 (fun r e => own_ge G1.own r e)
              have R8 := G1.res.grown hgrow8 hnr
              have A8 := C1.grown hgrow8 hne
              have hnw8 := own_notR hown' D8 (by decide)
              have E9 := Below.setCell E8 (p := ⟨b2 + 1 + 1, 12, none⟩) (by show b2 ≤ b2 + 1 + 1; omega) (.slice av' (done.length + 1) cv')
              have R9 := R8.other ⟨b2 + 1 + 1, 12, none⟩ (.slice av' (done.length + 1) cv') (by show b2 ≠ b2 + 1 + 1; omega)
              have A9 := A8.other ⟨b2 + 1 + 1, 12, none⟩ (.slice av' (done.length + 1) cv') (by show b2 + 1 ≠ b2 + 1 + 1; omega)
              have D9 := D8.set 12 (.slice av' (done.length + 1) cv')
              have O9 := own_other hown' (p := ⟨b2 + 1 + 1, 12, none⟩) hnw8 (.slice av' (done.length + 1) cv')
              refine ⟨⟨rest.drop 7, done ++ [rdRec rest], _, ?_, ?_, ⟨E9, R9, D9, ?_⟩, A9⟩, ?_⟩
              · show _ = _
                rw [HD.out, rdLog_cons HN.out, HR.out.2]
                simp
              · have := List.length_pos_iff.2 HN.out
                rw [List.length_append, List.length_drop, List.length_singleton]
                omega
              · rw [flat_snoc, HR.out.1, List.length_append, List.length_singleton]
                exact O9
              · rw [HAc.out, A9.cell]
                show (rest.drop 7).length < rest.length
                have := List.length_pos_iff.2 HN.out
                rw [List.length_drop]
                omega
            · have HTn : Hid (turns ⟨byteAt rest 0, byteAt rest 1, byteAt rest 2, 0, 0, 0, 0, 0⟩ = false) := by show _ = _; simp [turns, h1, h3]
              have HR : Hid (rdRec rest = ⟨byteAt rest 0, byteAt rest 1, byteAt rest 2, 0, 0, 0, 0, 0⟩ ∧ recLen (byteAt rest 0) = 3) := by constructor <;> simp [rdRec, recLen, h1, h3]
              clear h3 h1
              rw [HTn.out]
              have fc := F2b.wd.cell
              have xe := X2b.cell
              have ff := F2b.wd.fr
              have hsz : b2 ≤ w3.heap.size := by have h0 : b2 + 1 + 1 < w3.heap.size := F2b.wd.lt; omega
              have G1 := F2b.ext ((Ext.refl w3).alloc (.cells #[.int .i64 (byteAt rest 0), .int .i64 (byteAt rest 1), .int .i64 (byteAt rest 2), .int .i64 0, .int .i64 0, .int .i64 0, .int .i64 0, .int .i64 0] 46))
              have C1 := A2b.alloc (.cells #[.int .i64 (byteAt rest 0), .int .i64 (byteAt rest 1), .int .i64 (byteAt rest 2), .int .i64 0, .int .i64 0, .int .i64 0, .int .i64 0, .int .i64 0] 46)
              have hnw := own_notR G1.own G1.wd (by decide)
              have hnr := own_notR G1.own G1.res (by decide)
              have hne := own_notR G1.own C1 (by decide)
              go_wp2_with (at_builtin; refine wpList_append_own _ rfl _ _ 26 rfl b2 46 i0 (.agg #[.int .i64 0, .int .i64 0, .int .i64 0, .int .i64 0, .int .i64 0, .int .i64 0, .int .i64 0, .int .i64 0]) 8 64 Tryd.underlying26 HI.out Z0.out Z1.out Z2.out rfl (by decide) (.slice av done.length cv) done.length (flat done) rfl G1.own ⟨w3.heap.size, 0, none⟩ 1 1 [.int .i64 (byteAt rest 0), .int .i64 (byteAt rest 1), .int .i64 (byteAt rest 2), .int .i64 0, .int .i64 0, .int .i64 0, .int .i64 0, .int .i64 0] rfl rfl (cells_new _ [.int .i64 (byteAt rest 0), .int .i64 (byteAt rest 1), .int .i64 (byteAt rest 2), .int .i64 0, .int .i64 0, .int .i64 0, .int .i64 0, .int .i64 0] _ _ (by simp)) (fun x hx => by simp at hx; rcases hx with rfl | rfl | rfl | rfl <;> rfl) (by unfold maxLen; omega) (by omega) (by simp; omega) ?_; intro v' w8 hown' hgrow8 _; obtain ⟨av', cv', rfl⟩ := slice_ofR hown'; have D8 := G1.wd.grown hgrow8 hnw; have d8 := D8.cell; have e8 := D8.fr)
              have E8 := belowGr G1.low (by simp; omega) hgrow8 (fun r e => own_ge G1.own r e)
              have R8 := G1.res.grown hgrow8 hnr
              have A8 := C1.grown hgrow8 hne
              have hnw8 := own_notR hown' D8 (by decide)
              have E9 := Below.setCell E8 (p := ⟨b2 + 1 + 1, 12, none⟩) (by show b2 ≤ b2 + 1 + 1; omega) (.slice av' (done.length + 1) cv')
              have R9 := R8.other ⟨b2 + 1 + 1, 12, none⟩ (.slice av' (done.length + 1) cv') (by show b2 ≠ b2 + 1 + 1; omega)
              have A9 := A8.other ⟨b2 + 1 + 1, 12, none⟩ (.slice av' (done.length + 1) cv') (by show b2 + 1 ≠ b2 + 1 + 1; omega)
              have D9 := D8.set 12 (.slice av' (done.length + 1) cv')
              have O9 := own_other hown' (p := ⟨b2 + 1 + 1, 12, none⟩) hnw8 (.slice av' (done.length + 1) cv')
              refine ⟨⟨rest.drop 3, done ++ [rdRec rest], _, ?_, ?_, ⟨E9, R9, D9, ?_⟩, A9⟩, ?_⟩
              · show _ = _
                rw [HD.out, rdLog_cons HN.out, HR.out.2]
                simp
              · have := List.length_pos_iff.2 HN.out
                rw [List.length_append, List.length_drop, List.length_singleton]
                omega
              · rw [flat_snoc, HR.out.1, List.length_append, List.length_singleton]
                exact O9
              · rw [HAc.out, A9.cell]
                show (rest.drop 3).length < rest.length
                have := List.length_pos_iff.2 HN.out
                rw [List.length_drop]
                omega
end Go.Proofs.YtbfefocehnafgaaDoor.B
