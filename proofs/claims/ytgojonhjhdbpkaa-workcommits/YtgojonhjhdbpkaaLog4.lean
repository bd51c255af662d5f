/- The contract of the reference's taken: has another Txn a Write of that cell that stands? -/
import Derived.Test.YtgojonhjhdbpkaaLog3
namespace Go.Proofs.Ytgojonhjhdbpkaa.B
set_option maxRecDepth 100000
open Go.ChangeShapes Go.WideShapes Go.ChangeAt Go.RowKit

theorem takenAt_eq (l : List Rc) (t u p c : Int) : takenAt l t u p c = (u != t && (stateR l u != 4 && (standsR l u).any (hitAt l p c))) := rfl
theorem taken_drop (l : List Rc) (t p c : Int) (j : Nat) (h : j < 9) : ((List.range 9).drop j).any (fun u => takenAt l t (u + 1 : Nat) p c) = (takenAt l t ((j : Int) + 1) p c || ((List.range 9).drop (j + 1)).any (fun u => takenAt l t (u + 1 : Nat) p c)) := by
  have h' : j < (List.range 9).length := by simpa using h
  rw [List.drop_eq_getElem_cons h', List.any_cons, List.getElem_range]
  rfl
theorem hit_drop (f : Nat → Bool) (ns : List Nat) (m : Nat) (h : m < ns.length) : (ns.drop m).any f = (f ns[m] || (ns.drop (m + 1)).any f) := by
  rw [List.drop_eq_getElem_cons h, List.any_cons]

set_option maxHeartbeats 1000000 in
set_option maxRecDepth 100000 in
theorem taken_any (a : Option Addr) (len cap : Nat) (l : List Rc) (t p c : Int) (w : World) (h : Recs w a len l) (hl : len ≤ 1000) (hb : Backs l) :
    Calls Try.prog 61 #[.slice a len cap, .int .i64 t, .int .i64 p, .int .i64 c] w fun e w' => e = .returned (.bool (takenR l t p c)) ∧ Ext w w' := by
  go_enter Try.func61, Try.ntmps61
  go_wp2_with fail
  go_loopw [9] (fun i wr => ∃ j : Nat, j ≤ 9 ∧ i = .int .i64 ((j : Int) + 1) ∧ Ext w wr ∧ takenR l t p c = ((List.range 9).drop j).any (fun u => takenAt l t (u + 1 : Nat) p c)) (fun i _ => 10 - (intOf i).toNat)
  case atStart => exact ⟨0, Nat.zero_le _, rfl, Ext.refl _, rfl⟩
  case round =>
    obtain ⟨j, hj, rfl, hE, ho⟩ := hrel
    have HO := (show Hid _ from ho)
    clear ho
    by_cases hlt : j < 9
    · have HD := (show Hid _ from taken_drop l t p c j hlt)
      have HA := (show Hid _ from takenAt_eq l t ((j : Int) + 1) p c)
      generalize hT : ((List.range 9).drop (j + 1)).any (fun u => takenAt l t (u + 1 : Nat) p c) = T at HD
      have HT := (show Hid _ from hT)
      clear hT
      cases hu : (((j : Int) + 1) == t)
      · have HU : Hid ((((j : Int) + 1) != t) = true) := by rw [Hid, bne, hu]; rfl
        go_wp2_with fail
        refine (state_any a len cap l ((j : Int) + 1) _ (h.ext hE) hl).mono ?_
        rintro e w' ⟨rfl, rfl⟩
        cases hs : (stateR l ((j : Int) + 1) == 4)
        · have HS : Hid ((stateR l ((j : Int) + 1) != 4) = true) := by rw [Hid, bne, hs]; rfl
          go_wp2_with fail
          refine (stands_any a len cap l ((j : Int) + 1) _ (h.ext hE) hl (hb _)).mono ?_
          rintro e w1 ⟨⟨a', cap', rfl, hn⟩, hw1⟩
          have hE1 := hE.trans hw1
          have hmem : ∀ n ∈ standsR l ((j : Int) + 1), 1 ≤ n ∧ n ≤ l.length := fun n hn => standsR_mem hn
          have hnl : (standsR l ((j : Int) + 1)).length ≤ 1000 := Nat.le_trans (standsR_le _ _) (by rw [h.len]; exact hl)
          have HN : Hid (takenAt l t ((j : Int) + 1) p c = (standsR l ((j : Int) + 1)).any (hitAt l p c)) := by rw [Hid, HA.out, HU.out, HS.out]; rfl
          clear hs hu HU HS HA
          generalize standsR l ((j : Int) + 1) = ns at *
          go_wp2_with fail
          go_loop [29] (fun i => ∃ m : Nat, m ≤ ns.length ∧ i = .int .i64 m ∧ ns.any (hitAt l p c) = (ns.drop m).any (hitAt l p c)) (fun i => ns.length - (intOf i).toNat)
          case atStart => exact ⟨0, Nat.zero_le _, rfl, rfl⟩
          case round =>
            obtain ⟨m, hm, rfl, hi⟩ := hrel
            have HI := (show Hid _ from hi)
            clear hi
            by_cases hmt : m < ns.length
            · have HH := (show Hid _ from hit_drop (hitAt l p c) ns m hmt)
              rcases hn with hn | ⟨b, rfl, hc⟩
              · rw [hn] at hmt; simp at hmt
              · have hcm := hc m hmt
                obtain ⟨n1, n2⟩ := hmem ns[m] (List.getElem_mem hmt)
                clear hc hmem
                generalize ns[m] = n at *
                obtain ⟨q, rfl⟩ : ∃ q, n = q + 1 := ⟨n - 1, by omega⟩
                have hq : q < len := by rw [h.len] at n2; omega
                obtain ⟨b2, off, rfl, hql, h0, h1, h2, h3, h4, h5, h6, h7⟩ := (h.ext hE1).at hq
                have HR : Hid (hitAt l p c (q + 1) = (l[q].page == p && l[q].cell == c)) := by
                  rw [Hid, hitAt, Nat.add_sub_cancel, List.getElem?_eq_getElem hql]
                generalize l[q] = r at *
                cases k1 : (r.page == p)
                · have HR' : Hid (hitAt l p c (q + 1) = false) := by rw [Hid, HR.out, k1]; rfl
                  go_wp2_with fail
                  exact ⟨⟨m + 1, by omega, by go_num, by rw [HI.out, HH.out, HR'.out]; rfl⟩, by simp [intOf]; omega⟩
                · cases k2 : (r.cell == c)
                  · have HR' : Hid (hitAt l p c (q + 1) = false) := by rw [Hid, HR.out, k1, k2]; rfl
                    go_wp2_with fail
                    exact ⟨⟨m + 1, by omega, by go_num, by rw [HI.out, HH.out, HR'.out]; rfl⟩, by simp [intOf]; omega⟩
                  · have HR' : Hid (hitAt l p c (q + 1) = true) := by rw [Hid, HR.out, k1, k2]; rfl
                    go_wp2_with fail
                    go_ret
                    refine ⟨?_, hE1⟩
                    rw [HO.out, HD.out, HN.out, HI.out, HH.out, HR'.out]
                    rfl
            · have HF : Hid (ns.any (hitAt l p c) = false) := by
                rw [Hid, HI.out, List.drop_of_length_le (by omega)]; rfl
              go_wp2_with fail
              go_roundw
              case rel => exact ⟨j + 1, by omega, by go_num, hE1, by rw [HO.out, HD.out, HN.out, HF.out, HT.out]; rfl⟩
              case measure => simp [intOf]; omega
        · have HN : Hid (takenAt l t ((j : Int) + 1) p c = false) := by
            rw [Hid, HA.out, HU.out, show (stateR l ((j : Int) + 1) != 4) = false from by rw [bne, hs]; rfl]; rfl
          go_wp2_with fail
          go_roundw
          case rel => exact ⟨j + 1, by omega, by go_num, hE, by rw [HO.out, HD.out, HN.out, HT.out]; rfl⟩
          case measure => simp [intOf]; omega
      · have HN : Hid (takenAt l t ((j : Int) + 1) p c = false) := by
          rw [Hid, HA.out, show (((j : Int) + 1) != t) = false from by rw [bne, hu]; rfl]; rfl
        go_wp2_with fail
        go_roundw
        case rel => exact ⟨j + 1, by omega, by go_num, hE, by rw [HO.out, HD.out, HN.out, HT.out]; rfl⟩
        case measure => simp [intOf]; omega
    · have HF : Hid (takenR l t p c = false) := by
        rw [Hid, HO.out, List.drop_of_length_le (by simp; omega)]; rfl
      go_wp2_with fail
      go_ret
      exact ⟨by rw [HF.out]; rfl, hE⟩
end Go.Proofs.Ytgojonhjhdbpkaa.B
