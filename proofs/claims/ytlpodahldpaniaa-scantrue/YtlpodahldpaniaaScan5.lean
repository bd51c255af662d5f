/- The contract of the reference's RedoOf. -/
import Derived.Test.YtlpodahldpaniaaScan4
namespace Go.Proofs.Ytlpodahldpaniaa.B
set_option maxRecDepth 100000
open Go.ChangeShapes Go.WideShapes Go.ChangeAt Go.RowKit

set_option maxHeartbeats 8000000 in
set_option maxRecDepth 100000 in
theorem redoOf_any (p q r : Pg) (a : Option Addr) (len cap : Nat) (l : List Rc) (safe : Int) (w : World) (h : LogIn w a len cap l) :
    Calls Try.prog 17 #[wdVal p q r (.slice a len cap) safe] w fun e w' => e = .returned (.tuple #[.agg (ints (redoAns p q r l safe).1), .int .i64 ((redoAns p q r l safe).2 : Nat), .int .i64 (redoErr p q r l safe)]) ∧ Ext w w' := by
  have hll := h.recs.len
  have E0 := ((Ext.refl w).alloc (.cells (wdCells p q r (.slice a len cap) safe) 28)).alloc (.cells #[.int .i64 0, .int .i64 0, .int .i64 0, .int .i64 0, .int .i64 0, .int .i64 0, .int .i64 0, .int .i64 0, .int .i64 0, .int .i64 0, .int .i64 0, .int .i64 0] 25)
  have W0 := (Blk.new w w.heap.size (wdCells p q r (.slice a len cap) safe) 28 rfl).alloc (.cells #[.int .i64 0, .int .i64 0, .int .i64 0, .int .i64 0, .int .i64 0, .int .i64 0, .int .i64 0, .int .i64 0, .int .i64 0, .int .i64 0, .int .i64 0, .int .i64 0] 25)
  have Z0 := Blk.new (w.alloc (.cells (wdCells p q r (.slice a len cap) safe) 28)) (w.heap.size + 1) #[.int .i64 0, .int .i64 0, .int .i64 0, .int .i64 0, .int .i64 0, .int .i64 0, .int .i64 0, .int .i64 0, .int .i64 0, .int .i64 0, .int .i64 0, .int .i64 0] 25 (by simp)
  have H := worldError_any p q r a len cap l safe _ (h.recs.ext E0) h.le h.max
  have X1 : Hid (worldErr p q r l safe ≠ 0 → redoErr p q r l safe = worldErr p q r l safe ∧ redoAns p q r l safe = (List.replicate 12 0, 0)) := fun x => ⟨redoErr_w x, redoAns_n (by rw [redoErr_w x]; exact x)⟩
  have X2 : Hid (worldErr p q r l safe = 0 → safe ≠ (len : Nat) → redoErr p q r l safe = 1 ∧ redoAns p q r l safe = (List.replicate 12 0, 0)) := fun x y => by rw [← hll] at y; exact ⟨redoErr_1 x y, redoAns_n (by rw [redoErr_1 x y]; decide)⟩
  have X3 : Hid (worldErr p q r l safe = 0 → safe = (len : Nat) → redoErr p q r l safe = 0 ∧ redoAns p q r l safe = redoR (numsOf p q r) l) := fun x y => by rw [← hll] at y; exact ⟨redoErr_0 x y, redoAns_0 (redoErr_0 x y)⟩
  have HL : Hid (worldErr p q r l safe = 0 → len ≤ 60 ∧ Fits l) := fun x => by have := logErr_zero (worldErr_zero x).1; exact ⟨by omega, right_fits l this.2⟩
  generalize redoErr p q r l safe = re at *
  generalize redoAns p q r l safe = ra at *
  generalize worldErr p q r l safe = we at *
  have b0 := W0.cell
  go_enter Try.func17, Try.ntmps17
  go_wp2_with fail
  refine H.mono ?_
  rintro e w1 ⟨rfl, hE⟩
  have E := E0.trans hE
  have B := W0.ext hE
  have Z := Z0.ext hE
  clear H b0 W0 Z0 E0 hE
  by_cases h0 : we = 0
  · have HW := (show Hid (we = 0) from h0)
    obtain ⟨h60, hfits⟩ := HL.out h0
    subst h0
    have b1 := B.cell
    clear X1 HL
    by_cases hs : safe = (len : Nat)
    · obtain ⟨rfl, rfl⟩ := X3.out HW.out hs
      subst hs
      have hbs : (((len : Nat) : Int) != (len : Nat)) = false := by simp
      clear X2 X3 HW
      have E1 := E.alloc (.cells (ints (numsOf p q r)) 25)
      have O1 := Blk.new w1 w1.heap.size (ints (numsOf p q r)) 25 rfl
      have B1 := B.alloc (.cells (ints (numsOf p q r)) 25)
      have Z1 := Z.alloc (.cells (ints (numsOf p q r)) 25)
      have hs1 : w.heap.size + 1 < w1.heap.size := Z.lt
      generalize hbo : w1.heap.size = bo at *
      have HT : Hid (∀ k (hk : k < l.length), redoR (numsOf p q r) (l.take (k + 1)) = redoStep (redoR (numsOf p q r) (l.take k)) k l[k]) := fun k hk => redoR_take _ l k hk
      have HPL : Hid (∀ k, (redoR (numsOf p q r) (l.take k)).1.length = 12) := fun k => (redoR_len _ _).trans rfl
      have HC : Hid (∀ k, (redoR (numsOf p q r) (l.take k)).2 ≤ 60) := fun k => Nat.le_trans (redoR_count _ (l.take k)) (by rw [List.length_take]; omega)
      have HE : Hid (redoR (numsOf p q r) l = redoR (numsOf p q r) (l.take len)) := by rw [Hid, List.take_of_length_le (by omega)]
      have HZ : Hid (redoR (numsOf p q r) (l.take 0) = (numsOf p q r, 0)) := by rw [Hid, List.take_zero]; rfl
      obtain ⟨F, hF⟩ : ∃ F : Nat → List Int × Nat, ∀ k, redoR (numsOf p q r) (l.take k) = F k := ⟨_, fun _ => rfl⟩
      simp only [hF] at HT HPL HC HE HZ
      clear hF
      have HRL := h.recs
      go_wp2_with fail
      clear B Z E b1
      go_loopw [7, 8] (fun d i wr => ∃ k : Nat, k ≤ len ∧ i = .int .i64 k ∧ d = .int .i64 ((F k).2 : Nat) ∧ Ext w wr ∧ Blk wr w.heap.size (wdCells p q r (.slice a len cap) (len : Nat)) 28 ∧ Blk wr (w.heap.size + 1) #[.int .i64 0, .int .i64 0, .int .i64 0, .int .i64 0, .int .i64 0, .int .i64 0, .int .i64 0, .int .i64 0, .int .i64 0, .int .i64 0, .int .i64 0, .int .i64 0] 25 ∧ Blk wr bo (ints (F k).1) 25) (fun _ i _ => len - (intOf i).toNat)
      case atStart => exact ⟨0, Nat.zero_le _, rfl, by rw [HZ.out]; rfl, E1, B1, Z1, by rw [HZ.out]; exact O1⟩
      case round =>
        obtain ⟨k, hk, rfl, rfl, hE, B, Z, O⟩ := hrel
        clear E1 B1 Z1 O1
        by_cases hlt : k < len
        · obtain ⟨b, off, rfl, hkl, hrec⟩ := (HRL.ext hE).at hlt
          obtain ⟨h0, h1, h2, h3, h4, h5, h6, h7⟩ := hrec
          have HS := (show Hid (F (k + 1) = redoStep (F k) k l[k]) from HT.out k hkl)
          have hfit := hfits l[k] (List.getElem_mem hkl)
          have hpl := HPL.out k
          have hcl := HC.out k
          clear HT HPL HC HZ
          generalize l[k] = x at *
          obtain ⟨c, hc⟩ : ∃ c, F k = c := ⟨_, rfl⟩
          rw [hc] at O hpl hcl HS ⊢
          obtain ⟨ps, d⟩ := c
          dsimp only at O hpl hcl ⊢
          have bc := B.cell
          have R1 := Blk.new wr wr.heap.size x.cs 56 rfl
          have B1 := B.alloc (.cells x.cs 56)
          have Z1 := Z.alloc (.cells x.cs 56)
          have O1 := O.alloc (.cells x.cs 56)
          have E1 := hE.alloc (.cells x.cs 56)
          have hbr : bo < wr.heap.size := O.lt
          go_wp2_with fail
          refine (refTurns_any x _).mono ?_
          rintro e w2 ⟨rfl, hw⟩
          have R2 := R1.ext hw
          have B2 := B1.ext hw
          have Z2 := Z1.ext hw
          have O2 := O1.ext hw
          have E2 := E1.trans hw
          clear hw R1 B1 Z1 O1 E1 B Z O hE bc h0 h1 h2 h3 h4 h5 h6 h7 hc
          generalize wr.heap.size = br at *
          cases ht : turns x
          · have HSk : Hid (F (k + 1) = (ps, d)) := by rw [Hid, HS.out]; unfold redoStep; rw [if_neg (by rw [ht]; simp)]
            clear HS ht hfit
            go_wp2_with fail
            go_roundw
            case rel => exact ⟨k + 1, by omega, by go_num, by rw [HSk.out], E2, B2, Z2, by rw [HSk.out]; exact O2⟩
            case measure => simp [intOf]; omega
          · obtain ⟨p0, p2, q0, q2⟩ := hfit ht
            have HTr := (show Hid (turns x = true) from ht)
            clear ht hfit
            have p3 : x.page < 3 := by omega
            have q3 : x.cell < 3 := by omega
            have rc := R2.cell
            have of := O2.fr
            have hlt3 : x.page.toNat * 4 + 3 < ps.length := by omega
            have oc : w2.cell? ⟨bo, x.page.toNat * 4 + 3, none⟩ = some (.int .i64 (ps.getD (x.page.toNat * 4 + 3) 0)) := by rw [O2.cell, ints_get, List.getElem?_eq_getElem hlt3, List.getD_eq_getElem?_getD, List.getElem?_eq_getElem hlt3]; rfl
            by_cases hge : ps.getD (x.page.toNat * 4 + 3) 0 < (k : Int) + 1
            · have HSk : Hid (F (k + 1) = ((ps.set (x.page.toNat * 4 + x.cell.toNat) x.new).set (x.page.toNat * 4 + 3) ((k : Int) + 1), d + 1)) := by
                rw [Hid, HS.out]; unfold redoStep; rw [if_pos ⟨HTr.out, hge⟩]
              generalize ps.getD (x.page.toNat * 4 + 3) 0 = la at *
              obtain ⟨y, hy⟩ : ∃ y, w2.cell? ⟨bo, x.page.toNat * 4 + x.cell.toNat, none⟩ = some (.int .i64 y) := by
                have hlt : x.page.toNat * 4 + x.cell.toNat < ps.length := by omega
                exact ⟨ps[x.page.toNat * 4 + x.cell.toNat], by rw [O2.cell, ints_get, List.getElem?_eq_getElem hlt]; rfl⟩
              clear HS
              go_wp2_with fail
              go_region
              have hne : br ≠ bo := by omega
              have D0 := (O2.set (x.page.toNat * 4 + x.cell.toNat) (.int .i64 x.new)).drew
              rw [ints_set] at D0
              have B3 := (B2.other ⟨bo, x.page.toNat * 4 + x.cell.toNat, none⟩ (.int .i64 x.new) (by simp; omega)).drew
              have Z3 := (Z2.other ⟨bo, x.page.toNat * 4 + x.cell.toNat, none⟩ (.int .i64 x.new) (by simp; omega)).drew
              have R3 := (R2.other ⟨bo, x.page.toNat * 4 + x.cell.toNat, none⟩ (.int .i64 x.new) hne).drew
              have E3 := (E2.setCell (p := ⟨bo, x.page.toNat * 4 + x.cell.toNat, none⟩) (by simp; omega) (.int .i64 x.new)).drew
              generalize (w2.setCell ⟨bo, x.page.toNat * 4 + x.cell.toNat, none⟩ (.int .i64 x.new)).drew = w3 at *
              clear R2 B2 Z2 O2 E2 rc of oc hy y
              have rc := R3.cell
              have of := D0.fr
              obtain ⟨y, hy⟩ : ∃ y, w3.cell? ⟨bo, x.page.toNat * 4 + 3, none⟩ = some (.int .i64 y) := by
                have hlt : x.page.toNat * 4 + 3 < (ps.set (x.page.toNat * 4 + x.cell.toNat) x.new).length := by rw [List.length_set]; omega
                exact ⟨_, by rw [D0.cell, ints_get, List.getElem?_eq_getElem hlt]; rfl⟩
              go_wp2_with fail
              go_roundw
              case rel =>
                have D2 := D0.set (x.page.toNat * 4 + 3) (.int .i64 ((k : Int) + 1))
                rw [ints_set] at D2
                exact ⟨k + 1, by omega, by go_num, by rw [HSk.out]; go_num, E3.setCell (p := ⟨bo, x.page.toNat * 4 + 3, none⟩) (by simp; omega) _, B3.other _ _ (by simp; omega), Z3.other _ _ (by simp; omega), by rw [HSk.out]; exact D2⟩
              case measure => simp [intOf]; omega
            · have HSk : Hid (F (k + 1) = (ps, d)) := by rw [Hid, HS.out]; unfold redoStep; rw [if_neg (fun hh => hge hh.2)]
              generalize ps.getD (x.page.toNat * 4 + 3) 0 = la at *
              clear HS
              go_wp2_with fail
              go_roundw
              case rel => exact ⟨k + 1, by omega, by go_num, by rw [HSk.out], E2, B2, Z2, by rw [HSk.out]; exact O2⟩
              case measure => simp [intOf]; omega
        · obtain rfl : k = len := by omega
          have hpl := HPL.out k
          have hcl := HC.out k
          obtain ⟨c, hc⟩ : ∃ c, F k = c := ⟨_, rfl⟩
          have HFk : Hid (redoR (numsOf p q r) l = c) := HE.out.trans hc
          rw [hc] at O hpl hcl ⊢
          obtain ⟨qs, d⟩ := c
          dsimp only at O hpl hcl ⊢
          obtain ⟨x0, x1, x2, x3, x4, x5, x6, x7, x8, x9, x10, x11, rfl⟩ := list12 qs hpl
          rw [show ints [x0, x1, x2, x3, x4, x5, x6, x7, x8, x9, x10, x11] = #[.int .i64 x0, .int .i64 x1, .int .i64 x2, .int .i64 x3, .int .i64 x4, .int .i64 x5, .int .i64 x6, .int .i64 x7, .int .i64 x8, .int .i64 x9, .int .i64 x10, .int .i64 x11] from rfl] at O
          clear HT HPL HC HZ HE hc
          have bc := B.cell
          have zc := Z.cell
          have zf := Z.fr
          have oc := O.cell
          go_wp2_with fail
          refine bodyPost_ret (v := .tuple #[.agg #[.int .i64 x0, .int .i64 x1, .int .i64 x2, .int .i64 x3, .int .i64 x4, .int .i64 x5, .int .i64 x6, .int .i64 x7, .int .i64 x8, .int .i64 x9, .int .i64 x10, .int .i64 x11], .int .i64 (d : Nat), .int .i64 0]) (by simp [results, Try.results17, go_sem, zc]) rfl ⟨by rw [HFk.out]; rfl, ?_⟩
          exact ((((((((((((hE.setCell (by simp) _).setCell (by simp) _).setCell (by simp) _).setCell (by simp) _).setCell (by simp) _).setCell (by simp) _).setCell (by simp) _).setCell (by simp) _).setCell (by simp) _).setCell (by simp) _).setCell (by simp) _).setCell (by simp) _)
    · obtain ⟨rfl, rfl⟩ := X2.out HW.out hs
      have hbs : (safe != (len : Nat)) = true := by simpa using hs
      clear X2 X3
      have z := Z.cell
      have f := Z.fr
      go_wp2_with fail
      refine bodyPost_ret (v := .tuple #[.agg #[.int .i64 0, .int .i64 0, .int .i64 0, .int .i64 0, .int .i64 0, .int .i64 0, .int .i64 0, .int .i64 0, .int .i64 0, .int .i64 0, .int .i64 0, .int .i64 0], .int .i64 0, .int .i64 1]) (by simp [results, Try.results17, go_sem, z]) rfl ⟨rfl, ?_⟩
      exact ((((((((((((E.setCell (by simp) _).setCell (by simp) _).setCell (by simp) _).setCell (by simp) _).setCell (by simp) _).setCell (by simp) _).setCell (by simp) _).setCell (by simp) _).setCell (by simp) _).setCell (by simp) _).setCell (by simp) _).setCell (by simp) _)
  · obtain ⟨rfl, rfl⟩ := X1.out h0
    have hb : (re != 0) = true := by simpa using h0
    have z := Z.cell
    have f := Z.fr
    clear X1 X2 X3 HL
    go_wp2_with fail
    refine bodyPost_ret (v := .tuple #[.agg #[.int .i64 0, .int .i64 0, .int .i64 0, .int .i64 0, .int .i64 0, .int .i64 0, .int .i64 0, .int .i64 0, .int .i64 0, .int .i64 0, .int .i64 0, .int .i64 0], .int .i64 0, .int .i64 re]) (by simp [results, Try.results17, go_sem, z]) rfl ⟨rfl, ?_⟩
    exact ((((((((((((E.setCell (by simp) _).setCell (by simp) _).setCell (by simp) _).setCell (by simp) _).setCell (by simp) _).setCell (by simp) _).setCell (by simp) _).setCell (by simp) _).setCell (by simp) _).setCell (by simp) _).setCell (by simp) _).setCell (by simp) _)
end Go.Proofs.Ytlpodahldpaniaa.B
