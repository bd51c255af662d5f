/- The contract of the scan's Redo. -/
import Derived.Test.YtlpodahldpaniaaScan3
namespace Go.Proofs.Ytlpodahldpaniaa.B
set_option maxRecDepth 100000
open Go.ChangeShapes Go.WideShapes Go.ChangeAt Go.RowKit

abbrev put12 (w : World) (b : Nat) (x0 x1 x2 x3 x4 x5 x6 x7 x8 x9 x10 x11 : Value) : World := ((((((((((((w.setCell ⟨b, 0, none⟩ x0).setCell ⟨b, 1, none⟩ x1).setCell ⟨b, 2, none⟩ x2).setCell ⟨b, 3, none⟩ x3).setCell ⟨b, 4, none⟩ x4).setCell ⟨b, 5, none⟩ x5).setCell ⟨b, 6, none⟩ x6).setCell ⟨b, 7, none⟩ x7).setCell ⟨b, 8, none⟩ x8).setCell ⟨b, 9, none⟩ x9).setCell ⟨b, 10, none⟩ x10).setCell ⟨b, 11, none⟩ x11)
theorem put12_ext {a w : World} (h : Ext a w) (b : Nat) (hb : a.heap.size ≤ b) (x0 x1 x2 x3 x4 x5 x6 x7 x8 x9 x10 x11 : Value) : Ext a (put12 w b x0 x1 x2 x3 x4 x5 x6 x7 x8 x9 x10 x11) := ((((((((((((h.setCell (p := ⟨b, 0, none⟩) hb x0).setCell (p := ⟨b, 1, none⟩) hb x1).setCell (p := ⟨b, 2, none⟩) hb x2).setCell (p := ⟨b, 3, none⟩) hb x3).setCell (p := ⟨b, 4, none⟩) hb x4).setCell (p := ⟨b, 5, none⟩) hb x5).setCell (p := ⟨b, 6, none⟩) hb x6).setCell (p := ⟨b, 7, none⟩) hb x7).setCell (p := ⟨b, 8, none⟩) hb x8).setCell (p := ⟨b, 9, none⟩) hb x9).setCell (p := ⟨b, 10, none⟩) hb x10).setCell (p := ⟨b, 11, none⟩) hb x11)
theorem put12_other {w : World} {k : Nat} {c : Array Value} {t : TypeId} (h : Blk w k c t) (b : Nat) (hk : k ≠ b) (x0 x1 x2 x3 x4 x5 x6 x7 x8 x9 x10 x11 : Value) : Blk (put12 w b x0 x1 x2 x3 x4 x5 x6 x7 x8 x9 x10 x11) k c t := ((((((((((((h.other ⟨b, 0, none⟩ x0 hk).other ⟨b, 1, none⟩ x1 hk).other ⟨b, 2, none⟩ x2 hk).other ⟨b, 3, none⟩ x3 hk).other ⟨b, 4, none⟩ x4 hk).other ⟨b, 5, none⟩ x5 hk).other ⟨b, 6, none⟩ x6 hk).other ⟨b, 7, none⟩ x7 hk).other ⟨b, 8, none⟩ x8 hk).other ⟨b, 9, none⟩ x9 hk).other ⟨b, 10, none⟩ x10 hk).other ⟨b, 11, none⟩ x11 hk)
theorem put12_blk {w : World} {b : Nat} {y0 y1 y2 y3 y4 y5 y6 y7 y8 y9 y10 y11 : Value} {t : TypeId} (h : Blk w b #[y0, y1, y2, y3, y4, y5, y6, y7, y8, y9, y10, y11] t) (x0 x1 x2 x3 x4 x5 x6 x7 x8 x9 x10 x11 : Value) : Blk (put12 w b x0 x1 x2 x3 x4 x5 x6 x7 x8 x9 x10 x11) b #[x0, x1, x2, x3, x4, x5, x6, x7, x8, x9, x10, x11] t := by
  have h2 := ((((((((((((h.set 0 x0).set 1 x1).set 2 x2).set 3 x3).set 4 x4).set 5 x5).set 6 x6).set 7 x7).set 8 x8).set 9 x9).set 10 x10).set 11 x11)
  simpa using h2
/-- The document's answer of Redo. -/
def redoErr (p q r : Pg) (l : List Rc) (safe : Int) : Int := if worldErr p q r l safe = 0 then (if safe = (l.length : Nat) then 0 else 1) else worldErr p q r l safe
def redoAns (p q r : Pg) (l : List Rc) (safe : Int) : List Int × Nat := if redoErr p q r l safe = 0 then redoR (numsOf p q r) l else (List.replicate 12 0, 0)
theorem redoErr_w {p q r : Pg} {l : List Rc} {safe : Int} (h : worldErr p q r l safe ≠ 0) : redoErr p q r l safe = worldErr p q r l safe := by unfold redoErr; rw [if_neg h]
theorem redoErr_1 {p q r : Pg} {l : List Rc} {safe : Int} (h : worldErr p q r l safe = 0) (hs : safe ≠ (l.length : Nat)) : redoErr p q r l safe = 1 := by unfold redoErr; rw [if_pos h, if_neg hs]
theorem redoErr_0 {p q r : Pg} {l : List Rc} {safe : Int} (h : worldErr p q r l safe = 0) (hs : safe = (l.length : Nat)) : redoErr p q r l safe = 0 := by unfold redoErr; rw [if_pos h, if_pos hs]
theorem redoAns_0 {p q r : Pg} {l : List Rc} {safe : Int} (h : redoErr p q r l safe = 0) : redoAns p q r l safe = redoR (numsOf p q r) l := by unfold redoAns; rw [if_pos h]
theorem redoAns_n {p q r : Pg} {l : List Rc} {safe : Int} (h : redoErr p q r l safe ≠ 0) : redoAns p q r l safe = (List.replicate 12 0, 0) := by unfold redoAns; rw [if_neg h]
theorem nums_ok {p q r : Pg} {l : List Rc} {safe : Int} (h : worldErr p q r l safe = 0) : PgsOk (numsOf p q r) := by
  have hR := (logErr_zero (worldErr_zero h).1).2
  have h0 := (world_told h (i := 0) (by decide)).2.2
  have h1 := (world_told h (i := 1) (by decide)).2.2
  have h2 := (world_told h (i := 2) (by decide)).2.2
  have g0 := right_pages _ (right_pre hR (selPg p q r 0).last.toNat)
  have g1 := right_pages _ (right_pre hR (selPg p q r 1).last.toNat)
  have g2 := right_pages _ (right_pre hR (selPg p q r 2).last.toNat)
  generalize pagesR (l.take (selPg p q r 0).last.toNat) = u0 at *
  generalize pagesR (l.take (selPg p q r 1).last.toNat) = u1 at *
  generalize pagesR (l.take (selPg p q r 2).last.toNat) = u2 at *
  have e0 : p = pgAt u0 0 := h0.symm
  have e1 : q = pgAt u1 1 := h1.symm
  have e2 : r = pgAt u2 2 := h2.symm
  rw [e0, e1, e2]
  intro i
  have hc : i = 0 ∨ i = 1 ∨ i = 2 ∨ i = 3 ∨ i = 4 ∨ i = 5 ∨ i = 6 ∨ i = 7 ∨ i = 8 ∨ i = 9 ∨ i = 10 ∨ i = 11 ∨ 12 ≤ i := by omega
  rcases hc with rfl | rfl | rfl | rfl | rfl | rfl | rfl | rfl | rfl | rfl | rfl | rfl | hi
  · exact g0 0
  · exact g0 1
  · exact g0 2
  · exact g0 3
  · exact g1 4
  · exact g1 5
  · exact g1 6
  · exact g1 7
  · exact g2 8
  · exact g2 9
  · exact g2 10
  · exact g2 11
  · have : (numsOf (pgAt u0 0) (pgAt u1 1) (pgAt u2 2)).getD i 0 = 0 := by rw [List.getD_eq_getElem?_getD, List.getElem?_eq_none (by exact hi)]; rfl
    rw [this]
    exact ⟨fun _ => by decide, fun _ => by decide⟩
set_option maxHeartbeats 8000000 in
set_option maxRecDepth 100000 in
theorem redo_any (p q r : Pg) (a : Option Addr) (len cap : Nat) (l : List Rc) (safe : Int) (w : World) (h : LogIn w a len cap l) :
    Calls Try.prog 16 #[wdVal p q r (.slice a len cap) safe] w fun e w' => e = .returned (.tuple #[.agg (ints (redoAns p q r l safe).1), .int .i64 ((redoAns p q r l safe).2 : Nat), .int .i64 (redoErr p q r l safe)]) ∧ Ext w w' := by
  have E0 := ((Ext.refl w).alloc (.cells (wdCells p q r (.slice a len cap) safe) 28)).alloc (.cells #[.int .i64 0, .int .i64 0, .int .i64 0, .int .i64 0, .int .i64 0, .int .i64 0, .int .i64 0, .int .i64 0, .int .i64 0, .int .i64 0, .int .i64 0, .int .i64 0] 25)
  have Z0 := Blk.new (w.alloc (.cells (wdCells p q r (.slice a len cap) safe) 28)) (w.heap.size + 1) #[.int .i64 0, .int .i64 0, .int .i64 0, .int .i64 0, .int .i64 0, .int .i64 0, .int .i64 0, .int .i64 0, .int .i64 0, .int .i64 0, .int .i64 0, .int .i64 0] 25 (by simp)
  have H := open_any p q r a len cap l safe _ (h.recs.ext E0) h.nil h.max
  have X1 : Hid (worldErr p q r l safe ≠ 0 → redoErr p q r l safe = worldErr p q r l safe ∧ redoAns p q r l safe = (List.replicate 12 0, 0)) := fun x => ⟨redoErr_w x, redoAns_n (by rw [redoErr_w x]; exact x)⟩
  have X2 : Hid (worldErr p q r l safe = 0 → safe ≠ (l.length : Nat) → redoErr p q r l safe = 1 ∧ redoAns p q r l safe = (List.replicate 12 0, 0)) := fun x y => ⟨redoErr_1 x y, redoAns_n (by rw [redoErr_1 x y]; decide)⟩
  have X3 : Hid (worldErr p q r l safe = 0 → safe = (l.length : Nat) → redoErr p q r l safe = 0 ∧ redoAns p q r l safe = redoR (numsOf p q r) l) := fun x y => ⟨redoErr_0 x y, redoAns_0 (redoErr_0 x y)⟩
  have HOk : Hid (worldErr p q r l safe = 0 → PgsOk (numsOf p q r)) := fun x => nums_ok x
  generalize redoErr p q r l safe = re at *
  generalize redoAns p q r l safe = ra at *
  generalize worldErr p q r l safe = we at *
  go_enter Try.func16, Try.ntmps16
  go_wp2_with fail
  refine H.mono ?_
  rintro e w1 ⟨v, rfl, hE, ⟨h0, db, pb, mt, mh, tx, ho, lv, rfl, hD⟩ | ⟨h0, rfl⟩⟩
  · have Z := Z0.ext hE
    have E := E0.trans hE
    have hok := HOk.out h0
    have h60 := right_len l hD.book.right
    have c0 := hD.blk.cell
    have c14 : w1.cell? ⟨pb, 14, none⟩ = some (.int .i64 (l.length : Nat)) := by rw [hD.book.blk.cell]; exact (bookCells_12 _ mt mh _ (pagesR_len l)).2.2
    have HW := (show Hid (we = 0) from h0)
    subst h0
    clear H X1 Z0 E0 hE HOk
    go_wp2_with fail
    go_quiet (fail)
    by_cases hs : safe = (l.length : Nat)
    · obtain ⟨rfl, rfl⟩ := X3.out HW.out hs
      subst hs
      have hbs : (((l.length : Nat) : Int) != (l.length : Nat)) = false := by simp
      clear X2 X3
      obtain ⟨la, lcap, rfl, hrl, _, _⟩ := recs_own' hD.own
      have HAgain : Hid (∀ W, Ext w1 W → Calls Try.prog 37 #[.agg #[.int .i64 p.c0, .int .i64 p.c1, .int .i64 p.c2, .int .i64 p.last, .int .i64 q.c0, .int .i64 q.c1, .int .i64 q.c2, .int .i64 q.last, .int .i64 r.c0, .int .i64 r.c1, .int .i64 r.c2, .int .i64 r.last], .slice la l.length lcap] W fun e w' => e = .returned (.tuple #[.agg (ints (redoR (numsOf p q r) l).1), .int .i64 ((redoR (numsOf p q r) l).2 : Nat)]) ∧ Ext W w') := fun W hW => doAgain_any (numsOf p q r) rfl hok la l.length lcap l W (hrl.ext hW) hD.book.right
      have hpl : (redoR (numsOf p q r) l).1.length = 12 := by rw [redoR_len]; rfl
      have hcl := redoR_count (numsOf p q r) l
      obtain ⟨rr, hrr⟩ : ∃ rr, redoR (numsOf p q r) l = rr := ⟨_, rfl⟩
      rw [hrr] at HAgain hpl hcl
      have HRR := (show Hid (redoR (numsOf p q r) l = rr) from hrr)
      have D0 := hD.blk
      clear hD hrr hok c14 c0
      obtain ⟨qs, d⟩ := rr
      dsimp only at hpl hcl
      obtain ⟨x0, x1, x2, x3, x4, x5, x6, x7, x8, x9, x10, x11, rfl⟩ := list12 qs hpl
      have HA : Hid (∀ W, Ext w1 W → Calls Try.prog 37 #[.agg #[.int .i64 p.c0, .int .i64 p.c1, .int .i64 p.c2, .int .i64 p.last, .int .i64 q.c0, .int .i64 q.c1, .int .i64 q.c2, .int .i64 q.last, .int .i64 r.c0, .int .i64 r.c1, .int .i64 r.c2, .int .i64 r.last], .slice la l.length lcap] W fun e w' => e = .returned (.tuple #[.agg #[.int .i64 x0, .int .i64 x1, .int .i64 x2, .int .i64 x3, .int .i64 x4, .int .i64 x5, .int .i64 x6, .int .i64 x7, .int .i64 x8, .int .i64 x9, .int .i64 x10, .int .i64 x11], .int .i64 (d : Nat)]) ∧ Ext W w') := HAgain.out
      clear HAgain
      go_wp2_with fail
      have X0 := (Ext.refl w1).drewN nq
      generalize w1.drewN nq = W at *
      go_cut [7, 8] (fun s7 s8 wx => ∃ bz : Nat, s7 = .pointer (some ⟨bz, 0, none⟩) ∧ s8 = .int .i64 (d : Nat) ∧ Blk wx bz #[.int .i64 x0, .int .i64 x1, .int .i64 x2, .int .i64 x3, .int .i64 x4, .int .i64 x5, .int .i64 x6, .int .i64 x7, .int .i64 x8, .int .i64 x9, .int .i64 x10, .int .i64 x11] 25 ∧ Ext w1 wx ∧ w1.heap.size ≤ bz)
      case first =>
        have X1 := X0.drew
        have HS : Hid (∀ w', Ext w1 w' → ∀ o, w'.cell? ⟨db, o, none⟩ = (dkCells pb p q r (.slice la l.length lcap) (l.length : Nat))[o]?) := fun w' e => (D0.ext e).cell
        refine wp_region_held_drew (S := fun w' => ∀ o, w'.cell? ⟨db, o, none⟩ = (dkCells pb p q r (.slice la l.length lcap) (l.length : Nat))[o]?) (by kernel_rfl) (HS.out _ X1) (fun hHeld => ?_)
        refine wpAnyH_take (i := 0) (v := ?v1) rfl (by kernel_rfl) (by kernel_rfl) (by kernel_rfl) (fun _ _ _ h => h) (Or.inl ⟨by rfl, ?hy1⟩) hHeld ?r1
        case hy1 => first | (intro w hSw; (try dsimp only at hSw); go_simp; done) | (intro w hSw; (try dsimp only at hSw); go_simp; with_reducible rfl)
        simp only [Act.put]
        refine wpAnyH_take (i := 1) (v := ?v2) rfl (by kernel_rfl) (by kernel_rfl) (by kernel_rfl) (fun _ _ _ h => h) (Or.inl ⟨by rfl, ?hy2⟩) hHeld ?r2
        case hy2 => first | (intro w hSw; (try dsimp only at hSw); go_simp; done) | (intro w hSw; (try dsimp only at hSw); go_simp; with_reducible rfl)
        simp only [Act.put]
        refine wpAnyH_take (i := 2) (v := ?v3) rfl (by kernel_rfl) (by kernel_rfl) (by kernel_rfl) (fun _ _ _ h => h) (Or.inl ⟨by rfl, ?hy3⟩) hHeld ?r3
        case hy3 => first | (intro w hSw; (try dsimp only at hSw); go_simp; done) | (intro w hSw; (try dsimp only at hSw); go_simp; with_reducible rfl)
        simp only [Act.put]
        refine wpAnyH_take (i := 3) (v := ?v4) rfl (by kernel_rfl) (by kernel_rfl) (by kernel_rfl) (fun _ _ _ h => h) (Or.inl ⟨by rfl, ?hy4⟩) hHeld ?r4
        case hy4 => first | (intro w hSw; (try dsimp only at hSw); go_simp; done) | (intro w hSw; (try dsimp only at hSw); go_simp; with_reducible rfl)
        simp only [Act.put]
        refine wpAnyH_take (i := 4) (v := ?v5) rfl (by kernel_rfl) (by kernel_rfl) (by kernel_rfl) (fun _ _ _ h => h) (Or.inl ⟨by rfl, ?hy5⟩) hHeld ?r5
        case hy5 => first | (intro w hSw; (try dsimp only at hSw); go_simp; done) | (intro w hSw; (try dsimp only at hSw); go_simp; with_reducible rfl)
        simp only [Act.put]
        refine wpAnyH_take (i := 5) (v := ?v6) rfl (by kernel_rfl) (by kernel_rfl) (by kernel_rfl) (fun _ _ _ h => h) (Or.inl ⟨by rfl, ?hy6⟩) hHeld ?r6
        case hy6 => first | (intro w hSw; (try dsimp only at hSw); go_simp; done) | (intro w hSw; (try dsimp only at hSw); go_simp; with_reducible rfl)
        simp only [Act.put]
        refine wpAnyH_take (i := 6) (v := ?v7) rfl (by kernel_rfl) (by kernel_rfl) (by kernel_rfl) (fun _ _ _ h => h) (Or.inl ⟨by rfl, ?hy7⟩) hHeld ?r7
        case hy7 => first | (intro w hSw; (try dsimp only at hSw); go_simp; done) | (intro w hSw; (try dsimp only at hSw); go_simp; with_reducible rfl)
        simp only [Act.put]
        refine wpAnyH_take (i := 7) (v := ?v8) rfl (by kernel_rfl) (by kernel_rfl) (by kernel_rfl) (fun _ _ _ h => h) (Or.inl ⟨by rfl, ?hy8⟩) hHeld ?r8
        case hy8 => first | (intro w hSw; (try dsimp only at hSw); go_simp; done) | (intro w hSw; (try dsimp only at hSw); go_simp; with_reducible rfl)
        simp only [Act.put]
        refine wpAnyH_ready (rs := [8, 12]) (by kernel_rfl) (by simp) ?_
        refine AllReadyH.cons rfl (fun K hK => ?_) (AllReadyH.cons rfl (fun K hK => ?_) AllReadyH.nil)
        · go_simp
          refine (HA.out _ X1).mono ?_
          rintro e w2 ⟨rfl, hw⟩
          have X2 := X1.trans hw
          go_wp2_with fail
          refine hK.out _ _ (HS.out _ X2) (fun hHeld => ?_)
          clear hK K
          refine wpAnyH_take (i := 9) (v := ?v9) rfl (by kernel_rfl) (by kernel_rfl) (by kernel_rfl) (fun _ _ _ h => h) (Or.inl ⟨by rfl, ?hy9⟩) hHeld ?r9
          case hy9 => first | (intro w hSw; (try dsimp only at hSw); go_simp; done) | (intro w hSw; (try dsimp only at hSw); go_simp; with_reducible rfl)
          simp only [Act.put]
          refine wpAnyH_take (i := 10) (v := ?v10) rfl (by kernel_rfl) (by kernel_rfl) (by kernel_rfl) (fun _ _ _ h => h) (Or.inl ⟨by rfl, ?hy10⟩) hHeld ?r10
          case hy10 => first | (intro w hSw; (try dsimp only at hSw); go_simp; done) | (intro w hSw; (try dsimp only at hSw); go_simp; with_reducible rfl)
          simp only [Act.put]
          refine wpAnyH_take (i := 11) (v := ?v11) rfl (by kernel_rfl) (by kernel_rfl) (by kernel_rfl) (fun _ _ _ h => h) (Or.inl ⟨by rfl, ?hy11⟩) hHeld ?r11
          case hy11 => first | (intro w hSw; (try dsimp only at hSw); go_simp; done) | (intro w hSw; (try dsimp only at hSw); go_simp; with_reducible rfl)
          simp only [Act.put]
          refine wpAnyH_ready (rs := [12]) (by kernel_rfl) (by simp) ?_
          refine AllReadyH.cons rfl (fun K hK => ?_) AllReadyH.nil
          go_simp
          have X3 := X2.alloc (.cells #[.int .i64 0, .int .i64 0, .int .i64 0, .int .i64 0, .int .i64 0, .int .i64 0, .int .i64 0, .int .i64 0, .int .i64 0, .int .i64 0, .int .i64 0, .int .i64 0] 25)
          have Z3 := Blk.new w2 w2.heap.size #[.int .i64 0, .int .i64 0, .int .i64 0, .int .i64 0, .int .i64 0, .int .i64 0, .int .i64 0, .int .i64 0, .int .i64 0, .int .i64 0, .int .i64 0, .int .i64 0] 25 rfl
          have hbz : w1.heap.size ≤ w2.heap.size := X2.size
          refine hK.out _ _ (HS.out _ X3) (fun hHeld => ?_)
          clear hK K
          generalize w2.alloc (.cells #[.int .i64 0, .int .i64 0, .int .i64 0, .int .i64 0, .int .i64 0, .int .i64 0, .int .i64 0, .int .i64 0, .int .i64 0, .int .i64 0, .int .i64 0, .int .i64 0] 25) = w3 at *
          have z3 := Z3.cell
          have f3 := Z3.fr
          have X4 := put12_ext X3 w2.heap.size hbz (.int .i64 x0) (.int .i64 x1) (.int .i64 x2) (.int .i64 x3) (.int .i64 x4) (.int .i64 x5) (.int .i64 x6) (.int .i64 x7) (.int .i64 x8) (.int .i64 x9) (.int .i64 x10) (.int .i64 x11)
          have Z4 := put12_blk Z3 (.int .i64 x0) (.int .i64 x1) (.int .i64 x2) (.int .i64 x3) (.int .i64 x4) (.int .i64 x5) (.int .i64 x6) (.int .i64 x7) (.int .i64 x8) (.int .i64 x9) (.int .i64 x10) (.int .i64 x11)
          refine wpAnyH_ready (rs := [13]) (by kernel_rfl) (by simp) ?_
          refine AllReadyH.cons rfl (fun K hK => ?_) AllReadyH.nil
          go_simp
          refine hK.out _ _ (HS.out _ X4) (fun hHeld => ?_)
          clear hK K
          refine wpAnyH_ready (rs := [14]) (by kernel_rfl) (by simp) ?_
          refine AllReadyH.cons rfl (fun K hK => ?_) AllReadyH.nil
          go_simp
          refine hK.out _ _ (HS.out _ X4) (fun hHeld => ?_)
          clear hK K hHeld
          refine wpAnyH_done (by kernel_rfl) ?_ _
          go_wp2_with fail
          go_meet
          case rel => exact ⟨_, rfl, rfl, Z4, X4, hbz⟩
        · go_simp
          have X1b := X0.alloc (.cells #[.int .i64 0, .int .i64 0, .int .i64 0, .int .i64 0, .int .i64 0, .int .i64 0, .int .i64 0, .int .i64 0, .int .i64 0, .int .i64 0, .int .i64 0, .int .i64 0] 25)
          have Z1 := Blk.new W W.heap.size #[.int .i64 0, .int .i64 0, .int .i64 0, .int .i64 0, .int .i64 0, .int .i64 0, .int .i64 0, .int .i64 0, .int .i64 0, .int .i64 0, .int .i64 0, .int .i64 0] 25 rfl
          have hbz : w1.heap.size ≤ W.heap.size := X0.size
          refine hK.out _ _ (HS.out _ X1b.drew) (fun hHeld => ?_)
          clear hK K
          refine wpAnyH_ready (rs := [8]) (by kernel_rfl) (by simp) ?_
          refine AllReadyH.cons rfl (fun K hK => ?_) AllReadyH.nil
          go_simp
          refine (HA.out _ X1b.drew).mono ?_
          rintro e w3 ⟨rfl, hw⟩
          have X3 := X1b.drew.trans hw
          have Z3 := (Blk.drew Z1).ext hw
          go_wp2_with fail
          refine hK.out _ _ (HS.out _ X3) (fun hHeld => ?_)
          clear hK K
          refine wpAnyH_take (i := 9) (v := ?v12) rfl (by kernel_rfl) (by kernel_rfl) (by kernel_rfl) (fun _ _ _ h => h) (Or.inl ⟨by rfl, ?hy12⟩) hHeld ?r12
          case hy12 => first | (intro w hSw; (try dsimp only at hSw); go_simp; done) | (intro w hSw; (try dsimp only at hSw); go_simp; with_reducible rfl)
          simp only [Act.put]
          refine wpAnyH_take (i := 10) (v := ?v13) rfl (by kernel_rfl) (by kernel_rfl) (by kernel_rfl) (fun _ _ _ h => h) (Or.inl ⟨by rfl, ?hy13⟩) hHeld ?r13
          case hy13 => first | (intro w hSw; (try dsimp only at hSw); go_simp; done) | (intro w hSw; (try dsimp only at hSw); go_simp; with_reducible rfl)
          simp only [Act.put]
          refine wpAnyH_take (i := 11) (v := ?v14) rfl (by kernel_rfl) (by kernel_rfl) (by kernel_rfl) (fun _ _ _ h => h) (Or.inl ⟨by rfl, ?hy14⟩) hHeld ?r14
          case hy14 => first | (intro w hSw; (try dsimp only at hSw); go_simp; done) | (intro w hSw; (try dsimp only at hSw); go_simp; with_reducible rfl)
          simp only [Act.put]
          have z3 := Z3.cell
          have f3 := Z3.fr
          have X4 := put12_ext X3 W.heap.size hbz (.int .i64 x0) (.int .i64 x1) (.int .i64 x2) (.int .i64 x3) (.int .i64 x4) (.int .i64 x5) (.int .i64 x6) (.int .i64 x7) (.int .i64 x8) (.int .i64 x9) (.int .i64 x10) (.int .i64 x11)
          have Z4 := put12_blk Z3 (.int .i64 x0) (.int .i64 x1) (.int .i64 x2) (.int .i64 x3) (.int .i64 x4) (.int .i64 x5) (.int .i64 x6) (.int .i64 x7) (.int .i64 x8) (.int .i64 x9) (.int .i64 x10) (.int .i64 x11)
          refine wpAnyH_ready (rs := [13]) (by kernel_rfl) (by simp) ?_
          refine AllReadyH.cons rfl (fun K hK => ?_) AllReadyH.nil
          go_simp
          refine hK.out _ _ (HS.out _ X4) (fun hHeld => ?_)
          clear hK K
          refine wpAnyH_ready (rs := [14]) (by kernel_rfl) (by simp) ?_
          refine AllReadyH.cons rfl (fun K hK => ?_) AllReadyH.nil
          go_simp
          refine hK.out _ _ (HS.out _ X4) (fun hHeld => ?_)
          clear hK K hHeld
          refine wpAnyH_done (by kernel_rfl) ?_ _
          go_wp2_with fail
          go_meet
          case rel => exact ⟨_, rfl, rfl, Z4, X4, hbz⟩
      case rest =>
        obtain ⟨bz, rfl, rfl, Bz, hx, hbz⟩ := hcut
        have E2 := E.trans hx
        have Z2 := Z.ext hx
        have hne : bz ≠ w.heap.size + 1 := by have := Z.lt; omega
        have z2 := Z2.cell
        have f2 := Z2.fr
        have b2 := Bz.cell
        go_wp2_with fail
        refine bodyPost_ret (v := .tuple #[.agg #[.int .i64 x0, .int .i64 x1, .int .i64 x2, .int .i64 x3, .int .i64 x4, .int .i64 x5, .int .i64 x6, .int .i64 x7, .int .i64 x8, .int .i64 x9, .int .i64 x10, .int .i64 x11], .int .i64 (d : Nat), .int .i64 0]) (by simp [results, Try.results16, go_sem, z2]) rfl ⟨by rw [HRR.out]; rfl, ?_⟩
        exact ((((((((((((E2.setCell (by simp) _).setCell (by simp) _).setCell (by simp) _).setCell (by simp) _).setCell (by simp) _).setCell (by simp) _).setCell (by simp) _).setCell (by simp) _).setCell (by simp) _).setCell (by simp) _).setCell (by simp) _).setCell (by simp) _)
    · obtain ⟨rfl, rfl⟩ := X2.out HW.out hs
      have hbs : (safe != (l.length : Nat)) = true := by simpa using hs
      clear X2 X3
      have z := (Z.drewN nq).cell
      have f := (Z.drewN nq).fr
      have E2 := E.drewN nq
      go_wp2_with fail
      refine bodyPost_ret (v := .tuple #[.agg #[.int .i64 0, .int .i64 0, .int .i64 0, .int .i64 0, .int .i64 0, .int .i64 0, .int .i64 0, .int .i64 0, .int .i64 0, .int .i64 0, .int .i64 0, .int .i64 0], .int .i64 0, .int .i64 1]) (by simp [results, Try.results16, go_sem, z]) rfl ⟨rfl, ?_⟩
      exact ((((((((((((E2.setCell (by simp) _).setCell (by simp) _).setCell (by simp) _).setCell (by simp) _).setCell (by simp) _).setCell (by simp) _).setCell (by simp) _).setCell (by simp) _).setCell (by simp) _).setCell (by simp) _).setCell (by simp) _).setCell (by simp) _)
  · obtain ⟨rfl, rfl⟩ := X1.out h0
    have hb : (re != 0) = true := by simpa using h0
    have Z := Z0.ext hE
    have E := E0.trans hE
    have z := Z.cell
    have f := Z.fr
    clear H X1 X2 X3 HOk
    go_wp2_with fail
    refine bodyPost_ret (v := .tuple #[.agg #[.int .i64 0, .int .i64 0, .int .i64 0, .int .i64 0, .int .i64 0, .int .i64 0, .int .i64 0, .int .i64 0, .int .i64 0, .int .i64 0, .int .i64 0, .int .i64 0], .int .i64 0, .int .i64 re]) (by simp [results, Try.results16, go_sem, z]) rfl ⟨rfl, ?_⟩
    exact ((((((((((((E.setCell (by simp) _).setCell (by simp) _).setCell (by simp) _).setCell (by simp) _).setCell (by simp) _).setCell (by simp) _).setCell (by simp) _).setCell (by simp) _).setCell (by simp) _).setCell (by simp) _).setCell (by simp) _).setCell (by simp) _)
end Go.Proofs.Ytlpodahldpaniaa.B
