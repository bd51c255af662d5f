/- The contracts of the scan's doAgain and Redo. -/
import Derived.Test.YtlpodahldpaniaaScan1
namespace Go.Proofs.Ytlpodahldpaniaa.B
set_option maxRecDepth 100000
open Go.ChangeShapes Go.WideShapes Go.ChangeAt Go.RowKit

/-- Twelve numbers that may be three pages. -/
def PgsOk (ps : List Int) : Prop := ∀ i, (i % 4 ≠ 3 → 0 ≤ ps.getD i 0 ∧ ps.getD i 0 ≤ 99) ∧ (i % 4 = 3 → 0 ≤ ps.getD i 0 ∧ ps.getD i 0 ≤ 60)
theorem redo_ok (d : List Int) (hd : d.length = 12) (h : PgsOk d) : ∀ l, Right l → PgsOk (redoR d l).1 := right_ind _ h fun l r hR ih he hf => by
  have hlen : (redoR d l).1.length = 12 := by rw [redoR_len, hd]
  have h60 := recErr_num he
  rw [redoR_snoc]
  unfold redoStep
  by_cases hc : turns r = true ∧ (redoR d l).1.getD (r.page.toNat * 4 + 3) 0 < (l.length : Int) + 1
  · rw [if_pos hc]
    have hfit := recErr_fits he hc.1
    have hv := recErr_vals he hc.1
    intro i
    dsimp only
    rw [getD_set, getD_set, List.length_set, hlen]
    have := ih i
    constructor
    · intro h4
      rw [if_neg (by omega)]
      split
      · exact ⟨hv.2.2.1, hv.2.2.2⟩
      · exact this.1 h4
    · intro h4
      split
      · omega
      · rw [if_neg (by omega)]
        exact this.2 h4
  · rw [if_neg hc]
    exact ih
set_option maxHeartbeats 16000000 in
set_option maxRecDepth 100000 in
theorem doAgain_any (ps : List Int) (hps : ps.length = 12) (hok : PgsOk ps) (a : Option Addr) (len cap : Nat) (l : List Rc) (w : World) (h : Recs w a len l) (hR : Right l) :
    Calls Try.prog 37 #[.agg (ints ps), .slice a len cap] w fun e w' => e = .returned (.tuple #[.agg (ints (redoR ps l).1), .int .i64 ((redoR ps l).2 : Nat)]) ∧ Ext w w' := by
  have h60 := right_len l hR
  have hll := h.len
  have HF : Hid (∀ k (hk : k < l.length), recErr ((k : Nat) + 1 : Nat) l[k] = 0) := fun k hk => by
    have := (right_follows hR (List.getElem?_eq_getElem hk)).1
    rw [List.length_take_of_le (by omega)] at this
    exact this
  have HOk : Hid (∀ k, PgsOk (redoR ps (l.take k)).1) := fun k => redo_ok ps hps hok _ (right_pre hR k)
  have HT : Hid (∀ k (hk : k < l.length), redoR ps (l.take (k + 1)) = redoStep (redoR ps (l.take k)) k l[k]) := fun k hk => redoR_take ps l k hk
  have HL : Hid (∀ k, (redoR ps (l.take k)).1.length = 12) := fun k => by rw [redoR_len, hps]
  have HC : Hid (∀ k, (redoR ps (l.take k)).2 ≤ 60) := fun k => Nat.le_trans (redoR_count ps (l.take k)) (by rw [List.length_take]; omega)
  have HE : Hid (redoR ps l = redoR ps (l.take len)) := by rw [Hid, List.take_of_length_le (by omega)]
  have H0 : Hid (redoR ps (l.take 0) = (ps, 0)) := by rw [Hid, List.take_zero]; rfl
  generalize hfn : (fun k => redoR ps (l.take k)) = F at *
  have HFn : Hid (∀ k, redoR ps (l.take k) = F k) := fun k => congrFun hfn k
  simp only [HFn.out] at HOk HT HL HC HE H0
  rw [HE.out]
  clear hok hR HE hfn HFn
  obtain ⟨a0, a1, a2, a3, a4, a5, a6, a7, a8, a9, a10, a11, rfl⟩ := list12 ps hps
  rw [show ints [a0, a1, a2, a3, a4, a5, a6, a7, a8, a9, a10, a11] = #[.int .i64 a0, .int .i64 a1, .int .i64 a2, .int .i64 a3, .int .i64 a4, .int .i64 a5, .int .i64 a6, .int .i64 a7, .int .i64 a8, .int .i64 a9, .int .i64 a10, .int .i64 a11] from rfl]
  have E0 := ((Ext.refl w).alloc (.cells #[.int .i64 a0, .int .i64 a1, .int .i64 a2, .int .i64 a3, .int .i64 a4, .int .i64 a5, .int .i64 a6, .int .i64 a7, .int .i64 a8, .int .i64 a9, .int .i64 a10, .int .i64 a11] 25)).alloc (.cells #[.int .i64 0, .int .i64 0, .int .i64 0, .int .i64 0, .int .i64 0, .int .i64 0, .int .i64 0, .int .i64 0, .int .i64 0, .int .i64 0, .int .i64 0, .int .i64 0] 25)
  have B0 := (Blk.new w w.heap.size #[.int .i64 a0, .int .i64 a1, .int .i64 a2, .int .i64 a3, .int .i64 a4, .int .i64 a5, .int .i64 a6, .int .i64 a7, .int .i64 a8, .int .i64 a9, .int .i64 a10, .int .i64 a11] 25 rfl).alloc (.cells #[.int .i64 0, .int .i64 0, .int .i64 0, .int .i64 0, .int .i64 0, .int .i64 0, .int .i64 0, .int .i64 0, .int .i64 0, .int .i64 0, .int .i64 0, .int .i64 0] 25)
  have N0 := Blk.new (w.alloc (.cells #[.int .i64 a0, .int .i64 a1, .int .i64 a2, .int .i64 a3, .int .i64 a4, .int .i64 a5, .int .i64 a6, .int .i64 a7, .int .i64 a8, .int .i64 a9, .int .i64 a10, .int .i64 a11] 25)) (w.heap.size + 1) #[.int .i64 0, .int .i64 0, .int .i64 0, .int .i64 0, .int .i64 0, .int .i64 0, .int .i64 0, .int .i64 0, .int .i64 0, .int .i64 0, .int .i64 0, .int .i64 0] 25 (by simp)
  go_enter Try.func37, Try.ntmps37
  go_wp2_with fail
  go_loopw [6, 12] (fun d i wr => ∃ k : Nat, k ≤ len ∧ i = .int .i64 k ∧ d = .int .i64 ((F k).2 : Nat) ∧ Ext w wr ∧ Blk wr w.heap.size (ints (F k).1) 25 ∧ Blk wr (w.heap.size + 1) #[.int .i64 0, .int .i64 0, .int .i64 0, .int .i64 0, .int .i64 0, .int .i64 0, .int .i64 0, .int .i64 0, .int .i64 0, .int .i64 0, .int .i64 0, .int .i64 0] 25) (fun _ i _ => len - (intOf i).toNat)
  case atStart => exact ⟨0, Nat.zero_le _, rfl, by rw [H0.out]; rfl, E0, by rw [H0.out]; exact B0, N0⟩
  case round =>
    obtain ⟨k, hk, rfl, rfl, hE, B, N⟩ := hrel
    by_cases hlt : k < len
    · obtain ⟨b, off, rfl, hkl, h0, h1, h2, h3, h4, h5, h6, h7⟩ := (h.ext hE).at hlt
      have HS := (show Hid (F (k + 1) = redoStep (F k) k l[k]) from HT.out k hkl)
      have hrec := HF.out k hkl
      have hin := HOk.out k
      have hpl := HL.out k
      have hcl := HC.out k
      clear HF HOk HT HL HC H0
      generalize l[k] = r at *
      obtain ⟨c, hc⟩ : ∃ c, F k = c := ⟨_, rfl⟩
      rw [hc] at B hin hpl hcl HS ⊢
      obtain ⟨qs, d⟩ := c
      dsimp only at B hin hpl hcl ⊢
      obtain ⟨kind, txn, prev, page, cell, old, new, next⟩ := r
      obtain ⟨x0, x1, x2, x3, x4, x5, x6, x7, x8, x9, x10, x11, rfl⟩ := list12 qs hpl
      rw [show ints [x0, x1, x2, x3, x4, x5, x6, x7, x8, x9, x10, x11] = #[.int .i64 x0, .int .i64 x1, .int .i64 x2, .int .i64 x3, .int .i64 x4, .int .i64 x5, .int .i64 x6, .int .i64 x7, .int .i64 x8, .int .i64 x9, .int .i64 x10, .int .i64 x11] from rfl] at B
      have R1 := Blk.new wr wr.heap.size (Rc.mk kind txn prev page cell old new next).cs 56 rfl
      have B1 := B.alloc (.cells (Rc.mk kind txn prev page cell old new next).cs 56)
      have N1 := N.alloc (.cells (Rc.mk kind txn prev page cell old new next).cs 56)
      have E1 := hE.alloc (.cells (Rc.mk kind txn prev page cell old new next).cs 56)
      have hbn : w.heap.size ≠ wr.heap.size := by have := B.lt; omega
      go_wp2_with fail
      refine (turns_any (Rc.mk kind txn prev page cell old new next) _).mono ?_
      rintro e w1 ⟨rfl, hw1⟩
      replace R1 := R1.ext hw1
      replace B1 := B1.ext hw1
      replace N1 := N1.ext hw1
      replace E1 := E1.trans hw1
      clear hw1 B N hE h0 h1 h2 h3 h4 h5 h6 h7
      generalize wr.heap.size = br at *
      have HRec := (show Hid (recErr ((k : Nat) + 1 : Nat) (Rc.mk kind txn prev page cell old new next) = 0) from hrec)
      clear hrec
      cases ht : turns (Rc.mk kind txn prev page cell old new next)
      · have HSk : Hid (F (k + 1) = ([x0, x1, x2, x3, x4, x5, x6, x7, x8, x9, x10, x11], d)) := by
          rw [Hid, HS.out]; unfold redoStep; rw [if_neg (by rw [ht]; simp)]
        clear hin HRec
        go_wp2_with fail
        go_roundw
        case rel => exact ⟨k + 1, by omega, by go_num, by rw [HSk.out], E1, by rw [HSk.out]; exact B1, N1⟩
        case measure => simp [intOf]; omega
      · have HTr := (show Hid (turns (Rc.mk kind txn prev page cell old new next) = true) from ht)
        have hfit := recErr_fits HRec.out ht
        have hv := recErr_vals HRec.out ht
        dsimp only at hfit hv
        have hsb : setBad cell new ((k : Int) + 1) = false := set_ok (by omega) (by omega) (by omega)
        have i0 : 0 ≤ x0 ∧ x0 ≤ 99 := (hin 0).1 (by decide)
        have i1 : 0 ≤ x1 ∧ x1 ≤ 99 := (hin 1).1 (by decide)
        have i2 : 0 ≤ x2 ∧ x2 ≤ 99 := (hin 2).1 (by decide)
        have i3 : 0 ≤ x3 ∧ x3 ≤ 60 := (hin 3).2 (by decide)
        have i4 : 0 ≤ x4 ∧ x4 ≤ 99 := (hin 4).1 (by decide)
        have i5 : 0 ≤ x5 ∧ x5 ≤ 99 := (hin 5).1 (by decide)
        have i6 : 0 ≤ x6 ∧ x6 ≤ 99 := (hin 6).1 (by decide)
        have i7 : 0 ≤ x7 ∧ x7 ≤ 60 := (hin 7).2 (by decide)
        have i8 : 0 ≤ x8 ∧ x8 ≤ 99 := (hin 8).1 (by decide)
        have i9 : 0 ≤ x9 ∧ x9 ≤ 99 := (hin 9).1 (by decide)
        have i10 : 0 ≤ x10 ∧ x10 ≤ 99 := (hin 10).1 (by decide)
        have i11 : 0 ≤ x11 ∧ x11 ≤ 60 := (hin 11).2 (by decide)
        have G0 : Hid (pgErr ⟨x0, x1, x2, x3⟩ = 0) := pg_ok i0 i1 i2 i3
        have G1 : Hid (pgErr ⟨x4, x5, x6, x7⟩ = 0) := pg_ok i4 i5 i6 i7
        have G2 : Hid (pgErr ⟨x8, x9, x10, x11⟩ = 0) := pg_ok i8 i9 i10 i11
        have HSB := (show Hid (setBad cell new ((k : Int) + 1) = false) from hsb)
        have hp : page = 0 ∨ page = 1 ∨ page = 2 := by omega
        have HCell : Hid (cell = 0 ∨ cell = 1 ∨ cell = 2) := by unfold Hid; omega
        have hrc := R1.cell
        have hbc := B1.cell
        clear hin ht hsb i0 i1 i2 i3 i4 i5 i6 i7 i8 i9 i10 i11 hfit hv
        rcases hp with rfl | rfl | rfl
        · by_cases hge : (k : Int) + 1 ≤ x3
          · have HSk : Hid (F (k + 1) = ([x0, x1, x2, x3, x4, x5, x6, x7, x8, x9, x10, x11], d)) := by
              rw [Hid, HS.out]; unfold redoStep; rw [if_neg]; rintro ⟨_, h2⟩; exact absurd h2 (Int.not_lt.2 hge)
            clear HS HRec HTr
            go_wp2_with fail
            go_roundw
            case rel => exact ⟨k + 1, by omega, by go_num, by rw [HSk.out], E1, by rw [HSk.out]; exact B1, N1⟩
            case measure => simp [intOf]; omega
          · have HSk : Hid (F (k + 1) = (([x0, x1, x2, x3, x4, x5, x6, x7, x8, x9, x10, x11].set (0 * 4 + cell.toNat) new).set (0 * 4 + 3) ((k : Int) + 1), d + 1)) := by
              rw [Hid, HS.out]; unfold redoStep; rw [if_pos ⟨HTr.out, Int.not_le.1 hge⟩]; rfl
            clear HS HRec
            go_wp2_with fail
            have KC : Hid (∀ w', Gr (some w.heap.size) w1 w' → (∀ o, w'.cell? ⟨br, o, none⟩ = (Rc.mk kind txn prev 0 cell old new next).cs[o]?)) := fun w' e => (R1.gr e (by simpa using Ne.symm hbn)).cell
            refine wp_region_held_drew (S := fun w' => Gr (some w.heap.size) w1 w' ∧ (∀ o, w'.cell? ⟨br, o, none⟩ = (Rc.mk kind txn prev 0 cell old new next).cs[o]?)) (by kernel_rfl) ⟨(Gr.refl (some w.heap.size) w1).drew, KC.out _ (Gr.refl (some w.heap.size) w1).drew⟩ (fun hHeld => ?_)
            refine wpAnyH_take (i := 0) (v := ?v1) rfl (by kernel_rfl) (by kernel_rfl) (by kernel_rfl) (fun _ _ _ h => h) (Or.inl ⟨by rfl, ?hy1⟩) hHeld ?r1
            case hy1 => first | (intro w hSw; (try dsimp only at hSw); go_simp; done) | (intro w hSw; (try dsimp only at hSw); go_simp; with_reducible rfl)
            simp only [Act.put]
            refine wpAnyH_take (i := 1) (v := ?v2) rfl (by kernel_rfl) (by kernel_rfl) (by kernel_rfl) (fun _ _ _ h => h) (Or.inl ⟨by rfl, ?hy2⟩) hHeld ?r2
            case hy2 => first | (intro w hSw; (try dsimp only at hSw); go_simp; done) | (intro w hSw; (try dsimp only at hSw); go_simp; with_reducible rfl)
            simp only [Act.put]
            refine wpAnyH_take (i := 2) (v := ?v3) rfl (by kernel_rfl) (by kernel_rfl) (by kernel_rfl) (fun _ _ _ h => h) (Or.inl ⟨by rfl, ?hy3⟩) hHeld ?r3
            case hy3 => first | (intro w hSw; (try dsimp only at hSw); go_simp; done) | (intro w hSw; (try dsimp only at hSw); go_simp; with_reducible rfl)
            simp only [Act.put]
            refine wpAnyH_take (i := 3) (v := ?v4) rfl (by kernel_rfl) (by kernel_rfl) (by kernel_rfl) (fun _ _ _ h => h) (Or.inl ⟨by rfl, ?hy4⟩) hHeld ?r4
            case hy4 => first | (intro w hSw; (try dsimp only at hSw); go_simp; done) | (intro w hSw; (try dsimp only at hSw); go_simp; with_reducible rfl)
            simp only [Act.put]
            refine wpAnyH_take (i := 4) (v := ?v5) rfl (by kernel_rfl) (by kernel_rfl) (by kernel_rfl) (fun _ _ _ h => h) (Or.inl ⟨by rfl, ?hy5⟩) hHeld ?r5
            case hy5 => first | (intro w hSw; (try dsimp only at hSw); go_simp; done) | (intro w hSw; (try dsimp only at hSw); go_simp; with_reducible rfl)
            simp only [Act.put]
            refine wpAnyH_take (i := 6) (v := ?v6) rfl (by kernel_rfl) (by kernel_rfl) (by kernel_rfl) (fun _ _ _ h => h) (Or.inl ⟨by rfl, ?hy6⟩) hHeld ?r6
            case hy6 => first | (intro w hSw; (try dsimp only at hSw); go_simp; done) | (intro w hSw; (try dsimp only at hSw); go_simp; with_reducible rfl)
            simp only [Act.put]
            refine wpAnyH_take (i := 7) (v := ?v7) rfl (by kernel_rfl) (by kernel_rfl) (by kernel_rfl) (fun _ _ _ h => h) (Or.inl ⟨by rfl, ?hy7⟩) hHeld ?r7
            case hy7 => first | (intro w hSw; (try dsimp only at hSw); go_simp; done) | (intro w hSw; (try dsimp only at hSw); go_simp; with_reducible rfl)
            simp only [Act.put]
            refine wpAnyH_take (i := 8) (v := ?v8) rfl (by kernel_rfl) (by kernel_rfl) (by kernel_rfl) (fun _ _ _ h => h) (Or.inl ⟨by rfl, ?hy8⟩) hHeld ?r8
            case hy8 => first | (intro w hSw; (try dsimp only at hSw); go_simp; done) | (intro w hSw; (try dsimp only at hSw); go_simp; with_reducible rfl)
            simp only [Act.put]
            refine wpAnyH_take (i := 9) (v := ?v9) rfl (by kernel_rfl) (by kernel_rfl) (by kernel_rfl) (fun _ _ _ h => h) (Or.inl ⟨by rfl, ?hy9⟩) hHeld ?r9
            case hy9 => first | (intro w hSw; (try dsimp only at hSw); go_simp; done) | (intro w hSw; (try dsimp only at hSw); go_simp; with_reducible rfl)
            simp only [Act.put]
            refine wpAnyH_take (i := 10) (v := ?v10) rfl (by kernel_rfl) (by kernel_rfl) (by kernel_rfl) (fun _ _ _ h => h) (Or.inl ⟨by rfl, ?hy10⟩) hHeld ?r10
            case hy10 => first | (intro w hSw; (try dsimp only at hSw); go_simp; done) | (intro w hSw; (try dsimp only at hSw); go_simp; with_reducible rfl)
            simp only [Act.put]
            refine wpAnyH_ready (rs := [5]) (by kernel_rfl) (by simp) ?_
            refine AllReadyH.cons rfl (fun K hK => ?_) AllReadyH.nil
            go_simp
            refine hK.out _ _ hHeld (fun hHeld => ?_)
            clear hK K
            refine wpAnyH_ready (rs := [11]) (by kernel_rfl) (by simp) ?_
            refine AllReadyH.cons rfl (fun K hK => ?_) AllReadyH.nil
            go_simp
            refine (set_any ⟨x0, x1, x2, x3⟩ cell new ((k : Int) + 1) _).mono ?_
            rintro e w2 ⟨rfl, hw2⟩
            have hy : Gr (some w.heap.size) w1 w2 := hHeld.1.ext hw2
            have D := (Blk.drew B1).ext hw2
            have E2 := E1.drew.trans hw2
            have N2 := (Blk.drew N1).ext hw2
            have dc := D.cell
            have df := D.fr
            go_wp2_with fail
            clear hHeld
            refine hK.out _ _ ⟨hy, KC.out _ hy⟩ (fun hHeld => ?_)
            clear hK K
            refine wpAnyH_take (i := 12) (v := ?v11) rfl (by kernel_rfl) (by kernel_rfl) (by kernel_rfl) (fun _ _ _ h => h) (Or.inl ⟨by rfl, ?hy11⟩) hHeld ?r11
            case hy11 => first | (intro w hSw; (try dsimp only at hSw); go_simp; done) | (intro w hSw; (try dsimp only at hSw); go_simp; with_reducible rfl)
            simp only [Act.put]
            refine wpAnyH_take (i := 13) (v := ?v12) rfl (by kernel_rfl) (by kernel_rfl) (by kernel_rfl) (fun _ _ _ h => h) (Or.inl ⟨by rfl, ?hy12⟩) hHeld ?r12
            case hy12 => first | (intro w hSw; (try dsimp only at hSw); go_simp; done) | (intro w hSw; (try dsimp only at hSw); go_simp; with_reducible rfl)
            simp only [Act.put]
            refine wpAnyH_take (i := 14) (v := ?v13) rfl (by kernel_rfl) (by kernel_rfl) (by kernel_rfl) (fun _ _ _ h => h) (Or.inl ⟨by rfl, ?hy13⟩) hHeld ?r13
            case hy13 => first | (intro w hSw; (try dsimp only at hSw); go_simp; done) | (intro w hSw; (try dsimp only at hSw); go_simp; with_reducible rfl)
            simp only [Act.put]
            refine wpAnyH_take (i := 15) (v := ?v14) rfl (by kernel_rfl) (by kernel_rfl) (by kernel_rfl) (fun _ _ _ h => h) (Or.inl ⟨by rfl, ?hy14⟩) hHeld ?r14
            case hy14 => first | (intro w hSw; (try dsimp only at hSw); go_simp; done) | (intro w hSw; (try dsimp only at hSw); go_simp; with_reducible rfl)
            simp only [Act.put]
            refine wpAnyH_ready (rs := [16]) (by kernel_rfl) (by simp) ?_
            refine AllReadyH.cons rfl (fun K hK => ?_) AllReadyH.nil
            go_simp
            have hz := fun (u0 u1 u2 u3 : Value) => (((hy.set (p := ⟨w.heap.size, 0, none⟩) (Or.inr rfl) u0).set (p := ⟨w.heap.size, 1, none⟩) (Or.inr rfl) u1).set (p := ⟨w.heap.size, 2, none⟩) (Or.inr rfl) u2).set (p := ⟨w.heap.size, 3, none⟩) (Or.inr rfl) u3
            refine hK.out _ _ ⟨hz _ _ _ _, KC.out _ (hz _ _ _ _)⟩ (fun hHeld => ?_)
            clear hK K
            refine wpAnyH_done (by kernel_rfl) ?_ _
            clear KC hHeld dc df
            go_wp2_with fail
            go_roundw
            case rel =>
              refine ⟨k + 1, by omega, by go_num, by rw [HSk.out]; go_num, (((E2.setCell (p := ⟨w.heap.size, 0, none⟩) (Nat.le_refl _) _).setCell (p := ⟨w.heap.size, 1, none⟩) (Nat.le_refl _) _).setCell (p := ⟨w.heap.size, 2, none⟩) (Nat.le_refl _) _).setCell (p := ⟨w.heap.size, 3, none⟩) (Nat.le_refl _) _, ?_, ?_⟩
              · have D2 := (((D.set 0 (.int .i64 (setOf ⟨x0, x1, x2, x3⟩ cell new ((k : Int) + 1)).1.c0)).set 1 (.int .i64 (setOf ⟨x0, x1, x2, x3⟩ cell new ((k : Int) + 1)).1.c1)).set 2 (.int .i64 (setOf ⟨x0, x1, x2, x3⟩ cell new ((k : Int) + 1)).1.c2)).set 3 (.int .i64 (setOf ⟨x0, x1, x2, x3⟩ cell new ((k : Int) + 1)).1.last)
                rw [HSk.out]
                rw [setOf_good G0.out HSB.out] at D2 ⊢
                rcases HCell.out with rfl | rfl | rfl <;> exact D2
              · exact (((N2.other ⟨w.heap.size, 0, none⟩ _ (by simp)).other ⟨w.heap.size, 1, none⟩ _ (by simp)).other ⟨w.heap.size, 2, none⟩ _ (by simp)).other ⟨w.heap.size, 3, none⟩ _ (by simp)
            case measure => simp [intOf]; omega
        · by_cases hge : (k : Int) + 1 ≤ x7
          · have HSk : Hid (F (k + 1) = ([x0, x1, x2, x3, x4, x5, x6, x7, x8, x9, x10, x11], d)) := by
              rw [Hid, HS.out]; unfold redoStep; rw [if_neg]; rintro ⟨_, h2⟩; exact absurd h2 (Int.not_lt.2 hge)
            clear HS HRec HTr
            go_wp2_with fail
            go_roundw
            case rel => exact ⟨k + 1, by omega, by go_num, by rw [HSk.out], E1, by rw [HSk.out]; exact B1, N1⟩
            case measure => simp [intOf]; omega
          · have HSk : Hid (F (k + 1) = (([x0, x1, x2, x3, x4, x5, x6, x7, x8, x9, x10, x11].set (1 * 4 + cell.toNat) new).set (1 * 4 + 3) ((k : Int) + 1), d + 1)) := by
              rw [Hid, HS.out]; unfold redoStep; rw [if_pos ⟨HTr.out, Int.not_le.1 hge⟩]; rfl
            clear HS HRec
            go_wp2_with fail
            have KC : Hid (∀ w', Gr (some w.heap.size) w1 w' → (∀ o, w'.cell? ⟨br, o, none⟩ = (Rc.mk kind txn prev 1 cell old new next).cs[o]?)) := fun w' e => (R1.gr e (by simpa using Ne.symm hbn)).cell
            refine wp_region_held_drew (S := fun w' => Gr (some w.heap.size) w1 w' ∧ (∀ o, w'.cell? ⟨br, o, none⟩ = (Rc.mk kind txn prev 1 cell old new next).cs[o]?)) (by kernel_rfl) ⟨(Gr.refl (some w.heap.size) w1).drew, KC.out _ (Gr.refl (some w.heap.size) w1).drew⟩ (fun hHeld => ?_)
            refine wpAnyH_take (i := 0) (v := ?v15) rfl (by kernel_rfl) (by kernel_rfl) (by kernel_rfl) (fun _ _ _ h => h) (Or.inl ⟨by rfl, ?hy15⟩) hHeld ?r15
            case hy15 => first | (intro w hSw; (try dsimp only at hSw); go_simp; done) | (intro w hSw; (try dsimp only at hSw); go_simp; with_reducible rfl)
            simp only [Act.put]
            refine wpAnyH_take (i := 1) (v := ?v16) rfl (by kernel_rfl) (by kernel_rfl) (by kernel_rfl) (fun _ _ _ h => h) (Or.inl ⟨by rfl, ?hy16⟩) hHeld ?r16
            case hy16 => first | (intro w hSw; (try dsimp only at hSw); go_simp; done) | (intro w hSw; (try dsimp only at hSw); go_simp; with_reducible rfl)
            simp only [Act.put]
            refine wpAnyH_take (i := 2) (v := ?v17) rfl (by kernel_rfl) (by kernel_rfl) (by kernel_rfl) (fun _ _ _ h => h) (Or.inl ⟨by rfl, ?hy17⟩) hHeld ?r17
            case hy17 => first | (intro w hSw; (try dsimp only at hSw); go_simp; done) | (intro w hSw; (try dsimp only at hSw); go_simp; with_reducible rfl)
            simp only [Act.put]
            refine wpAnyH_take (i := 3) (v := ?v18) rfl (by kernel_rfl) (by kernel_rfl) (by kernel_rfl) (fun _ _ _ h => h) (Or.inl ⟨by rfl, ?hy18⟩) hHeld ?r18
            case hy18 => first | (intro w hSw; (try dsimp only at hSw); go_simp; done) | (intro w hSw; (try dsimp only at hSw); go_simp; with_reducible rfl)
            simp only [Act.put]
            refine wpAnyH_take (i := 4) (v := ?v19) rfl (by kernel_rfl) (by kernel_rfl) (by kernel_rfl) (fun _ _ _ h => h) (Or.inl ⟨by rfl, ?hy19⟩) hHeld ?r19
            case hy19 => first | (intro w hSw; (try dsimp only at hSw); go_simp; done) | (intro w hSw; (try dsimp only at hSw); go_simp; with_reducible rfl)
            simp only [Act.put]
            refine wpAnyH_take (i := 6) (v := ?v20) rfl (by kernel_rfl) (by kernel_rfl) (by kernel_rfl) (fun _ _ _ h => h) (Or.inl ⟨by rfl, ?hy20⟩) hHeld ?r20
            case hy20 => first | (intro w hSw; (try dsimp only at hSw); go_simp; done) | (intro w hSw; (try dsimp only at hSw); go_simp; with_reducible rfl)
            simp only [Act.put]
            refine wpAnyH_take (i := 7) (v := ?v21) rfl (by kernel_rfl) (by kernel_rfl) (by kernel_rfl) (fun _ _ _ h => h) (Or.inl ⟨by rfl, ?hy21⟩) hHeld ?r21
            case hy21 => first | (intro w hSw; (try dsimp only at hSw); go_simp; done) | (intro w hSw; (try dsimp only at hSw); go_simp; with_reducible rfl)
            simp only [Act.put]
            refine wpAnyH_take (i := 8) (v := ?v22) rfl (by kernel_rfl) (by kernel_rfl) (by kernel_rfl) (fun _ _ _ h => h) (Or.inl ⟨by rfl, ?hy22⟩) hHeld ?r22
            case hy22 => first | (intro w hSw; (try dsimp only at hSw); go_simp; done) | (intro w hSw; (try dsimp only at hSw); go_simp; with_reducible rfl)
            simp only [Act.put]
            refine wpAnyH_take (i := 9) (v := ?v23) rfl (by kernel_rfl) (by kernel_rfl) (by kernel_rfl) (fun _ _ _ h => h) (Or.inl ⟨by rfl, ?hy23⟩) hHeld ?r23
            case hy23 => first | (intro w hSw; (try dsimp only at hSw); go_simp; done) | (intro w hSw; (try dsimp only at hSw); go_simp; with_reducible rfl)
            simp only [Act.put]
            refine wpAnyH_take (i := 10) (v := ?v24) rfl (by kernel_rfl) (by kernel_rfl) (by kernel_rfl) (fun _ _ _ h => h) (Or.inl ⟨by rfl, ?hy24⟩) hHeld ?r24
            case hy24 => first | (intro w hSw; (try dsimp only at hSw); go_simp; done) | (intro w hSw; (try dsimp only at hSw); go_simp; with_reducible rfl)
            simp only [Act.put]
            refine wpAnyH_ready (rs := [5]) (by kernel_rfl) (by simp) ?_
            refine AllReadyH.cons rfl (fun K hK => ?_) AllReadyH.nil
            go_simp
            refine hK.out _ _ hHeld (fun hHeld => ?_)
            clear hK K
            refine wpAnyH_ready (rs := [11]) (by kernel_rfl) (by simp) ?_
            refine AllReadyH.cons rfl (fun K hK => ?_) AllReadyH.nil
            go_simp
            refine (set_any ⟨x4, x5, x6, x7⟩ cell new ((k : Int) + 1) _).mono ?_
            rintro e w2 ⟨rfl, hw2⟩
            have hy : Gr (some w.heap.size) w1 w2 := hHeld.1.ext hw2
            have D := (Blk.drew B1).ext hw2
            have E2 := E1.drew.trans hw2
            have N2 := (Blk.drew N1).ext hw2
            have dc := D.cell
            have df := D.fr
            go_wp2_with fail
            clear hHeld
            refine hK.out _ _ ⟨hy, KC.out _ hy⟩ (fun hHeld => ?_)
            clear hK K
            refine wpAnyH_take (i := 12) (v := ?v25) rfl (by kernel_rfl) (by kernel_rfl) (by kernel_rfl) (fun _ _ _ h => h) (Or.inl ⟨by rfl, ?hy25⟩) hHeld ?r25
            case hy25 => first | (intro w hSw; (try dsimp only at hSw); go_simp; done) | (intro w hSw; (try dsimp only at hSw); go_simp; with_reducible rfl)
            simp only [Act.put]
            refine wpAnyH_take (i := 13) (v := ?v26) rfl (by kernel_rfl) (by kernel_rfl) (by kernel_rfl) (fun _ _ _ h => h) (Or.inl ⟨by rfl, ?hy26⟩) hHeld ?r26
            case hy26 => first | (intro w hSw; (try dsimp only at hSw); go_simp; done) | (intro w hSw; (try dsimp only at hSw); go_simp; with_reducible rfl)
            simp only [Act.put]
            refine wpAnyH_take (i := 14) (v := ?v27) rfl (by kernel_rfl) (by kernel_rfl) (by kernel_rfl) (fun _ _ _ h => h) (Or.inl ⟨by rfl, ?hy27⟩) hHeld ?r27
            case hy27 => first | (intro w hSw; (try dsimp only at hSw); go_simp; done) | (intro w hSw; (try dsimp only at hSw); go_simp; with_reducible rfl)
            simp only [Act.put]
            refine wpAnyH_take (i := 15) (v := ?v28) rfl (by kernel_rfl) (by kernel_rfl) (by kernel_rfl) (fun _ _ _ h => h) (Or.inl ⟨by rfl, ?hy28⟩) hHeld ?r28
            case hy28 => first | (intro w hSw; (try dsimp only at hSw); go_simp; done) | (intro w hSw; (try dsimp only at hSw); go_simp; with_reducible rfl)
            simp only [Act.put]
            refine wpAnyH_ready (rs := [16]) (by kernel_rfl) (by simp) ?_
            refine AllReadyH.cons rfl (fun K hK => ?_) AllReadyH.nil
            go_simp
            have hz := fun (u0 u1 u2 u3 : Value) => (((hy.set (p := ⟨w.heap.size, 4, none⟩) (Or.inr rfl) u0).set (p := ⟨w.heap.size, 5, none⟩) (Or.inr rfl) u1).set (p := ⟨w.heap.size, 6, none⟩) (Or.inr rfl) u2).set (p := ⟨w.heap.size, 7, none⟩) (Or.inr rfl) u3
            refine hK.out _ _ ⟨hz _ _ _ _, KC.out _ (hz _ _ _ _)⟩ (fun hHeld => ?_)
            clear hK K
            refine wpAnyH_done (by kernel_rfl) ?_ _
            clear KC hHeld dc df
            go_wp2_with fail
            go_roundw
            case rel =>
              refine ⟨k + 1, by omega, by go_num, by rw [HSk.out]; go_num, (((E2.setCell (p := ⟨w.heap.size, 4, none⟩) (Nat.le_refl _) _).setCell (p := ⟨w.heap.size, 5, none⟩) (Nat.le_refl _) _).setCell (p := ⟨w.heap.size, 6, none⟩) (Nat.le_refl _) _).setCell (p := ⟨w.heap.size, 7, none⟩) (Nat.le_refl _) _, ?_, ?_⟩
              · have D2 := (((D.set 4 (.int .i64 (setOf ⟨x4, x5, x6, x7⟩ cell new ((k : Int) + 1)).1.c0)).set 5 (.int .i64 (setOf ⟨x4, x5, x6, x7⟩ cell new ((k : Int) + 1)).1.c1)).set 6 (.int .i64 (setOf ⟨x4, x5, x6, x7⟩ cell new ((k : Int) + 1)).1.c2)).set 7 (.int .i64 (setOf ⟨x4, x5, x6, x7⟩ cell new ((k : Int) + 1)).1.last)
                rw [HSk.out]
                rw [setOf_good G1.out HSB.out] at D2 ⊢
                rcases HCell.out with rfl | rfl | rfl <;> exact D2
              · exact (((N2.other ⟨w.heap.size, 4, none⟩ _ (by simp)).other ⟨w.heap.size, 5, none⟩ _ (by simp)).other ⟨w.heap.size, 6, none⟩ _ (by simp)).other ⟨w.heap.size, 7, none⟩ _ (by simp)
            case measure => simp [intOf]; omega
        · by_cases hge : (k : Int) + 1 ≤ x11
          · have HSk : Hid (F (k + 1) = ([x0, x1, x2, x3, x4, x5, x6, x7, x8, x9, x10, x11], d)) := by
              rw [Hid, HS.out]; unfold redoStep; rw [if_neg]; rintro ⟨_, h2⟩; exact absurd h2 (Int.not_lt.2 hge)
            clear HS HRec HTr
            go_wp2_with fail
            go_roundw
            case rel => exact ⟨k + 1, by omega, by go_num, by rw [HSk.out], E1, by rw [HSk.out]; exact B1, N1⟩
            case measure => simp [intOf]; omega
          · have HSk : Hid (F (k + 1) = (([x0, x1, x2, x3, x4, x5, x6, x7, x8, x9, x10, x11].set (2 * 4 + cell.toNat) new).set (2 * 4 + 3) ((k : Int) + 1), d + 1)) := by
              rw [Hid, HS.out]; unfold redoStep; rw [if_pos ⟨HTr.out, Int.not_le.1 hge⟩]; rfl
            clear HS HRec
            go_wp2_with fail
            have KC : Hid (∀ w', Gr (some w.heap.size) w1 w' → (∀ o, w'.cell? ⟨br, o, none⟩ = (Rc.mk kind txn prev 2 cell old new next).cs[o]?)) := fun w' e => (R1.gr e (by simpa using Ne.symm hbn)).cell
            refine wp_region_held_drew (S := fun w' => Gr (some w.heap.size) w1 w' ∧ (∀ o, w'.cell? ⟨br, o, none⟩ = (Rc.mk kind txn prev 2 cell old new next).cs[o]?)) (by kernel_rfl) ⟨(Gr.refl (some w.heap.size) w1).drew, KC.out _ (Gr.refl (some w.heap.size) w1).drew⟩ (fun hHeld => ?_)
            refine wpAnyH_take (i := 0) (v := ?v29) rfl (by kernel_rfl) (by kernel_rfl) (by kernel_rfl) (fun _ _ _ h => h) (Or.inl ⟨by rfl, ?hy29⟩) hHeld ?r29
            case hy29 => first | (intro w hSw; (try dsimp only at hSw); go_simp; done) | (intro w hSw; (try dsimp only at hSw); go_simp; with_reducible rfl)
            simp only [Act.put]
            refine wpAnyH_take (i := 1) (v := ?v30) rfl (by kernel_rfl) (by kernel_rfl) (by kernel_rfl) (fun _ _ _ h => h) (Or.inl ⟨by rfl, ?hy30⟩) hHeld ?r30
            case hy30 => first | (intro w hSw; (try dsimp only at hSw); go_simp; done) | (intro w hSw; (try dsimp only at hSw); go_simp; with_reducible rfl)
            simp only [Act.put]
            refine wpAnyH_take (i := 2) (v := ?v31) rfl (by kernel_rfl) (by kernel_rfl) (by kernel_rfl) (fun _ _ _ h => h) (Or.inl ⟨by rfl, ?hy31⟩) hHeld ?r31
            case hy31 => first | (intro w hSw; (try dsimp only at hSw); go_simp; done) | (intro w hSw; (try dsimp only at hSw); go_simp; with_reducible rfl)
            simp only [Act.put]
            refine wpAnyH_take (i := 3) (v := ?v32) rfl (by kernel_rfl) (by kernel_rfl) (by kernel_rfl) (fun _ _ _ h => h) (Or.inl ⟨by rfl, ?hy32⟩) hHeld ?r32
            case hy32 => first | (intro w hSw; (try dsimp only at hSw); go_simp; done) | (intro w hSw; (try dsimp only at hSw); go_simp; with_reducible rfl)
            simp only [Act.put]
            refine wpAnyH_take (i := 4) (v := ?v33) rfl (by kernel_rfl) (by kernel_rfl) (by kernel_rfl) (fun _ _ _ h => h) (Or.inl ⟨by rfl, ?hy33⟩) hHeld ?r33
            case hy33 => first | (intro w hSw; (try dsimp only at hSw); go_simp; done) | (intro w hSw; (try dsimp only at hSw); go_simp; with_reducible rfl)
            simp only [Act.put]
            refine wpAnyH_take (i := 6) (v := ?v34) rfl (by kernel_rfl) (by kernel_rfl) (by kernel_rfl) (fun _ _ _ h => h) (Or.inl ⟨by rfl, ?hy34⟩) hHeld ?r34
            case hy34 => first | (intro w hSw; (try dsimp only at hSw); go_simp; done) | (intro w hSw; (try dsimp only at hSw); go_simp; with_reducible rfl)
            simp only [Act.put]
            refine wpAnyH_take (i := 7) (v := ?v35) rfl (by kernel_rfl) (by kernel_rfl) (by kernel_rfl) (fun _ _ _ h => h) (Or.inl ⟨by rfl, ?hy35⟩) hHeld ?r35
            case hy35 => first | (intro w hSw; (try dsimp only at hSw); go_simp; done) | (intro w hSw; (try dsimp only at hSw); go_simp; with_reducible rfl)
            simp only [Act.put]
            refine wpAnyH_take (i := 8) (v := ?v36) rfl (by kernel_rfl) (by kernel_rfl) (by kernel_rfl) (fun _ _ _ h => h) (Or.inl ⟨by rfl, ?hy36⟩) hHeld ?r36
            case hy36 => first | (intro w hSw; (try dsimp only at hSw); go_simp; done) | (intro w hSw; (try dsimp only at hSw); go_simp; with_reducible rfl)
            simp only [Act.put]
            refine wpAnyH_take (i := 9) (v := ?v37) rfl (by kernel_rfl) (by kernel_rfl) (by kernel_rfl) (fun _ _ _ h => h) (Or.inl ⟨by rfl, ?hy37⟩) hHeld ?r37
            case hy37 => first | (intro w hSw; (try dsimp only at hSw); go_simp; done) | (intro w hSw; (try dsimp only at hSw); go_simp; with_reducible rfl)
            simp only [Act.put]
            refine wpAnyH_take (i := 10) (v := ?v38) rfl (by kernel_rfl) (by kernel_rfl) (by kernel_rfl) (fun _ _ _ h => h) (Or.inl ⟨by rfl, ?hy38⟩) hHeld ?r38
            case hy38 => first | (intro w hSw; (try dsimp only at hSw); go_simp; done) | (intro w hSw; (try dsimp only at hSw); go_simp; with_reducible rfl)
            simp only [Act.put]
            refine wpAnyH_ready (rs := [5]) (by kernel_rfl) (by simp) ?_
            refine AllReadyH.cons rfl (fun K hK => ?_) AllReadyH.nil
            go_simp
            refine hK.out _ _ hHeld (fun hHeld => ?_)
            clear hK K
            refine wpAnyH_ready (rs := [11]) (by kernel_rfl) (by simp) ?_
            refine AllReadyH.cons rfl (fun K hK => ?_) AllReadyH.nil
            go_simp
            refine (set_any ⟨x8, x9, x10, x11⟩ cell new ((k : Int) + 1) _).mono ?_
            rintro e w2 ⟨rfl, hw2⟩
            have hy : Gr (some w.heap.size) w1 w2 := hHeld.1.ext hw2
            have D := (Blk.drew B1).ext hw2
            have E2 := E1.drew.trans hw2
            have N2 := (Blk.drew N1).ext hw2
            have dc := D.cell
            have df := D.fr
            go_wp2_with fail
            clear hHeld
            refine hK.out _ _ ⟨hy, KC.out _ hy⟩ (fun hHeld => ?_)
            clear hK K
            refine wpAnyH_take (i := 12) (v := ?v39) rfl (by kernel_rfl) (by kernel_rfl) (by kernel_rfl) (fun _ _ _ h => h) (Or.inl ⟨by rfl, ?hy39⟩) hHeld ?r39
            case hy39 => first | (intro w hSw; (try dsimp only at hSw); go_simp; done) | (intro w hSw; (try dsimp only at hSw); go_simp; with_reducible rfl)
            simp only [Act.put]
            refine wpAnyH_take (i := 13) (v := ?v40) rfl (by kernel_rfl) (by kernel_rfl) (by kernel_rfl) (fun _ _ _ h => h) (Or.inl ⟨by rfl, ?hy40⟩) hHeld ?r40
            case hy40 => first | (intro w hSw; (try dsimp only at hSw); go_simp; done) | (intro w hSw; (try dsimp only at hSw); go_simp; with_reducible rfl)
            simp only [Act.put]
            refine wpAnyH_take (i := 14) (v := ?v41) rfl (by kernel_rfl) (by kernel_rfl) (by kernel_rfl) (fun _ _ _ h => h) (Or.inl ⟨by rfl, ?hy41⟩) hHeld ?r41
            case hy41 => first | (intro w hSw; (try dsimp only at hSw); go_simp; done) | (intro w hSw; (try dsimp only at hSw); go_simp; with_reducible rfl)
            simp only [Act.put]
            refine wpAnyH_take (i := 15) (v := ?v42) rfl (by kernel_rfl) (by kernel_rfl) (by kernel_rfl) (fun _ _ _ h => h) (Or.inl ⟨by rfl, ?hy42⟩) hHeld ?r42
            case hy42 => first | (intro w hSw; (try dsimp only at hSw); go_simp; done) | (intro w hSw; (try dsimp only at hSw); go_simp; with_reducible rfl)
            simp only [Act.put]
            refine wpAnyH_ready (rs := [16]) (by kernel_rfl) (by simp) ?_
            refine AllReadyH.cons rfl (fun K hK => ?_) AllReadyH.nil
            go_simp
            have hz := fun (u0 u1 u2 u3 : Value) => (((hy.set (p := ⟨w.heap.size, 8, none⟩) (Or.inr rfl) u0).set (p := ⟨w.heap.size, 9, none⟩) (Or.inr rfl) u1).set (p := ⟨w.heap.size, 10, none⟩) (Or.inr rfl) u2).set (p := ⟨w.heap.size, 11, none⟩) (Or.inr rfl) u3
            refine hK.out _ _ ⟨hz _ _ _ _, KC.out _ (hz _ _ _ _)⟩ (fun hHeld => ?_)
            clear hK K
            refine wpAnyH_done (by kernel_rfl) ?_ _
            clear KC hHeld dc df
            go_wp2_with fail
            go_roundw
            case rel =>
              refine ⟨k + 1, by omega, by go_num, by rw [HSk.out]; go_num, (((E2.setCell (p := ⟨w.heap.size, 8, none⟩) (Nat.le_refl _) _).setCell (p := ⟨w.heap.size, 9, none⟩) (Nat.le_refl _) _).setCell (p := ⟨w.heap.size, 10, none⟩) (Nat.le_refl _) _).setCell (p := ⟨w.heap.size, 11, none⟩) (Nat.le_refl _) _, ?_, ?_⟩
              · have D2 := (((D.set 8 (.int .i64 (setOf ⟨x8, x9, x10, x11⟩ cell new ((k : Int) + 1)).1.c0)).set 9 (.int .i64 (setOf ⟨x8, x9, x10, x11⟩ cell new ((k : Int) + 1)).1.c1)).set 10 (.int .i64 (setOf ⟨x8, x9, x10, x11⟩ cell new ((k : Int) + 1)).1.c2)).set 11 (.int .i64 (setOf ⟨x8, x9, x10, x11⟩ cell new ((k : Int) + 1)).1.last)
                rw [HSk.out]
                rw [setOf_good G2.out HSB.out] at D2 ⊢
                rcases HCell.out with rfl | rfl | rfl <;> exact D2
              · exact (((N2.other ⟨w.heap.size, 8, none⟩ _ (by simp)).other ⟨w.heap.size, 9, none⟩ _ (by simp)).other ⟨w.heap.size, 10, none⟩ _ (by simp)).other ⟨w.heap.size, 11, none⟩ _ (by simp)
            case measure => simp [intOf]; omega
    · obtain rfl : k = len := by omega
      have hpl := HL.out k
      have hcl := HC.out k
      obtain ⟨c, hc⟩ : ∃ c, F k = c := ⟨_, rfl⟩
      have HFk := (show Hid (F k = c) from hc)
      rw [hc] at B hpl hcl ⊢
      obtain ⟨qs, d⟩ := c
      dsimp only at B hpl hcl ⊢
      obtain ⟨x0, x1, x2, x3, x4, x5, x6, x7, x8, x9, x10, x11, rfl⟩ := list12 qs hpl
      rw [show ints [x0, x1, x2, x3, x4, x5, x6, x7, x8, x9, x10, x11] = #[.int .i64 x0, .int .i64 x1, .int .i64 x2, .int .i64 x3, .int .i64 x4, .int .i64 x5, .int .i64 x6, .int .i64 x7, .int .i64 x8, .int .i64 x9, .int .i64 x10, .int .i64 x11] from rfl] at B
      clear HF HOk HT HL HC H0 hc
      have n_ := N.cell
      have f_ := N.fr
      have b_ := B.cell
      go_wp2_with fail
      refine bodyPost_ret (v := .tuple #[.agg #[.int .i64 x0, .int .i64 x1, .int .i64 x2, .int .i64 x3, .int .i64 x4, .int .i64 x5, .int .i64 x6, .int .i64 x7, .int .i64 x8, .int .i64 x9, .int .i64 x10, .int .i64 x11], .int .i64 (d : Nat)]) (by simp [results, Try.results37, go_sem, n_]) rfl ⟨by rw [HFk.out]; rfl, ?_⟩
      exact ((((((((((((hE.setCell (by simp) _).setCell (by simp) _).setCell (by simp) _).setCell (by simp) _).setCell (by simp) _).setCell (by simp) _).setCell (by simp) _).setCell (by simp) _).setCell (by simp) _).setCell (by simp) _).setCell (by simp) _).setCell (by simp) _)
end Go.Proofs.Ytlpodahldpaniaa.B
