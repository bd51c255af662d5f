/- The contract of the crew's mend: so many records at most. -/
import Derived.Test.YtlpodahldpaniaaGreatCrew2
namespace Go.Proofs.YtlpodahldpaniaaGreat.B
set_option maxRecDepth 100000
open Go.ChangeShapes Go.WideShapes Go.ChangeAt Go.RowKit

/-- The document's error of so many records at most, of a log all of which is safe. -/
def halfErr (n : Nat) (l : List Rc) : Int := if 60 < l.length + min n (needR l) then 2 else 0
def halfNum (n : Nat) (l : List Rc) : Nat := if 60 < l.length + min n (needR l) then 0 else min n (needR l)
theorem half_ok {n : Nat} {l : List Rc} (h : l.length + min n (needR l) ≤ 60) : halfErr n l = 0 ∧ halfNum n l = min n (needR l) := by
  unfold halfErr halfNum
  rw [if_neg (by omega), if_neg (by omega)]
  exact ⟨rfl, rfl⟩
theorem half_many {n : Nat} {l : List Rc} (h : 60 < l.length + min n (needR l)) : halfErr n l = 2 ∧ halfNum n l = 0 := by
  unfold halfErr halfNum
  rw [if_pos h, if_pos h]
  exact ⟨rfl, rfl⟩
/-- A block of another type is none of the desk's. -/
theorem DeskOk.notMine {w : World} {base db pb mt mh : Nat} {l : List Rc} {tx : List TxE} {ho : List HE} {p q r : Pg} {lv : Value} {safe : Int} (h : DeskOk w base db pb mt mh l tx ho p q r lv safe) {k : Nat} {c : Array Value} {t : TypeId} (hk : Blk w k c t)
    (h1 : t ≠ 72) (h2 : t ≠ 76) (h3 : 65 ≠ t) : ¬ Mine db pb mt mh tx lv k := by
  rintro (rfl | rfl | rfl | rfl | ⟨u, hu, hk2⟩ | hk2)
  · exact h1 (blk_eq hk h.blk)
  · exact h2 (blk_eq hk h.book.blk)
  · exact blk_notmap hk h.book.txs rfl
  · exact blk_notmap hk h.book.hos rfl
  · exact own_notblk (h.book.own u hu) hk h3 k hk2 rfl
  · exact own_notblk h.own hk h3 k hk2 rfl
/-- How far mending is, when k records are put. -/
structure MendAt (l : List Rc) (n k : Nat) (m : List Rc) : Prop where
  log : m = mendN k l
  right : Right m
  need : needR m + k = needR l
  len : m.length = l.length + k
  le : k ≤ n
theorem MendAt.next {l : List Rc} {n k : Nat} {m : List Rc} (h : MendAt l n k m) (hn : isNext m = true) (hk : k < n) (h60 : m.length < 60) : MendAt l n (k + 1) (m ++ [mendRec m]) ∧ stepErr m (mendRec m) = 0 := by
  obtain ⟨he, hf, _, hd⟩ := mend_step h.right hn h60
  refine ⟨⟨?_, (right_snoc _ _).2 ⟨h.right, he, hf⟩, by have := h.need; omega, by rw [List.length_append, List.length_singleton, h.len]; omega, by omega⟩, (stepErr_zero _ _).2 ⟨he, hf⟩⟩
  rw [← mendN_add, ← h.log, show mendN 1 m = mendN 0 (m ++ [mendRec m]) from mendN_succ hn]
  rfl
theorem MendAt.stop {l : List Rc} {n k : Nat} {m : List Rc} (h : MendAt l n k m) (hs : isNext m = false ∨ k = n) : halfErr n l = 0 ∧ halfNum n l = k ∧ mendN n l = m := by
  have h60 := right_len m h.right
  have h1 := h.need
  have h2 := h.len
  have h3 := h.le
  have hmin : min n (needR l) = k := by
    rcases hs with hs | hs
    · have := need_zero.2 hs; omega
    · omega
  obtain ⟨g1, g2⟩ := half_ok (n := n) (l := l) (by omega)
  refine ⟨g1, by omega, ?_⟩
  rcases hs with hs | rfl
  · rw [show n = k + (n - k) from by omega, ← mendN_add, ← h.log, mendN_none hs]
  · exact h.log.symm
theorem MendAt.many {l : List Rc} {n k : Nat} {m : List Rc} (h : MendAt l n k m) (hn : isNext m = true) (hk : k < n) (h60 : 60 ≤ m.length) : halfErr n l = 2 ∧ halfNum n l = 0 := by
  have h1 := h.need
  have h2 := h.len
  have : needR m ≠ 0 := fun e => by rw [need_zero.1 e] at hn; cases hn
  exact half_many (by omega)
theorem needR_le (l : List Rc) (hR : Right l) : needR l ≤ 10000 := by
  have : ∀ t, needAt l t ≤ 1001 := fun t => by
    have := stand_len hR t
    unfold needAt
    split
    · omega
    · split <;> omega
  have h1 := this 1
  have h2 := this 2
  have h3 := this 3
  have h4 := this 4
  have h5 := this 5
  have h6 := this 6
  have h7 := this 7
  have h8 := this 8
  have h9 := this 9
  unfold needR
  omega
theorem Ext.drewB {n : Nat} {a b : World} (h : Below n a b) : Below n a b.drew := Below.drew h
set_option maxHeartbeats 8000000 in
theorem crewMend_any {base db pb mt mh : Nat} {l : List Rc} {tx : List TxE} {ho : List HE} {p q s : Pg} {lv : Value} {safe : Int} (cb : Nat) (most : Int) (w : World) (h : DeskOk w base db pb mt mh l tx ho p q s lv safe) (C : Blk w cb #[.pointer (some ⟨db, 0, none⟩)] 85) :
    Calls Tryz.prog 19 #[.pointer (some ⟨cb, 0, none⟩), .int .i64 most] w fun e w' => e = .returned (.tuple #[.int .i64 (halfNum most.toNat l : Nat), .int .i64 (halfErr most.toNat l)]) ∧ Below base w w' ∧
      (halfErr most.toNat l = 0 → Blk w' cb #[.pointer (some ⟨db, 0, none⟩)] 85 ∧ ∃ tx' ho' lv', DeskOk w' base db pb mt mh (mendN most.toNat l) tx' ho' p q s lv' safe) := by
  have hbase : base ≤ w.heap.size := Nat.le_trans h.ge (Nat.le_of_lt h.blk.lt)
  have hnl := needR_le l h.book.right
  have M0 : MendAt l most.toNat 0 l := ⟨rfl, h.book.right, rfl, rfl, Nat.zero_le _⟩
  have HStop : Hid (∀ k m, MendAt l most.toNat k m → (isNext m = false ∨ k = most.toNat) → halfErr most.toNat l = 0 ∧ halfNum most.toNat l = k ∧ mendN most.toNat l = m) := fun k m h1 h2 => h1.stop h2
  have HMany : Hid (∀ k m, MendAt l most.toNat k m → isNext m = true → k < most.toNat → 60 ≤ m.length → halfErr most.toNat l = 2 ∧ halfNum most.toNat l = 0) := fun k m h1 h2 h3 h4 => h1.many h2 h3 h4
  have HNeed : Hid (∀ k m, MendAt l most.toNat k m → k ≤ needR l ∧ (isNext m = true → k < needR l)) := fun k m h1 => by
    have := h1.need
    refine ⟨by omega, fun hn => ?_⟩
    have : needR m ≠ 0 := fun e => by rw [need_zero.1 e] at hn; cases hn
    omega
  generalize halfErr most.toNat l = he at *
  generalize halfNum most.toNat l = hnn at *
  generalize mendN most.toNat l = ml at *
  go_enter Tryz.func19, Tryz.ntmps19
  go_wp2_with fail
  go_loopw [6] (fun i wr => ∃ (k : Nat) (m : List Rc) (tx' : List TxE) (ho' : List HE) (lv' : Value), i = .int .i64 k ∧ MendAt l most.toNat k m ∧ DeskOk wr base db pb mt mh m tx' ho' p q s lv' safe ∧ Below base w wr ∧ Blk wr cb #[.pointer (some ⟨db, 0, none⟩)] 85) (fun i _ => needR l + 1 - (intOf i).toNat)
  case atStart => exact ⟨0, l, tx, ho, lv, rfl, M0, h, Below.mono (Ext.refl w) hbase, C⟩
  case round =>
    obtain ⟨k, m, tx', ho', lv', rfl, hM, hD, hbel, hC⟩ := hrel
    have h60 := right_len m hD.book.right
    have hbase1 : base ≤ wr.heap.size := Nat.le_trans hD.ge (Nat.le_of_lt hD.blk.lt)
    have hkn := (HNeed.out k m hM).1
    by_cases hlt : (k : Int) < most
    · have HLt : Hid (k < most.toNat) := by unfold Hid; omega
      have HN := crewNext_any cb wr hD hC
      have HNx : Hid (isNext m = true → k < needR l) := (HNeed.out k m hM).2
      have HSt : Hid (isNext m = false → he = 0 ∧ hnn = k ∧ ml = m) := fun x => HStop.out k m hM (Or.inl x)
      have HMa : Hid (isNext m = true → 60 ≤ m.length → he = 2 ∧ hnn = 0) := fun x y => HMany.out k m hM x HLt.out y
      have HGo : Hid (isNext m = true → m.length < 60 → MendAt l most.toNat (k + 1) (m ++ [nextAns m]) ∧ stepErr m (nextAns m) = 0) := fun x y => by
        have hna : nextAns m = mendRec m := by unfold nextAns; rw [x, if_pos rfl]
        rw [hna]
        exact hM.next x HLt.out y
      clear HStop HMany HNeed hM M0
      generalize isNext m = isn at *
      generalize nextAns m = na at *
      obtain ⟨r0, r1, r2, r3, r4, r5, r6, r7⟩ := na
      go_wp2_with fail
      refine HN.mono ?_
      rintro e w1 ⟨rfl, hE⟩
      have o1 := hE.alloc (.cells #[.int .i64 r0, .int .i64 r1, .int .i64 r2, .int .i64 r3, .int .i64 r4, .int .i64 r5, .int .i64 r6, .int .i64 r7] 65)
      have R1 := Blk.new w1 w1.heap.size #[.int .i64 r0, .int .i64 r1, .int .i64 r2, .int .i64 r3, .int .i64 r4, .int .i64 r5, .int .i64 r6, .int .i64 r7] 65 rfl
      have HMine : Hid (∀ k, Mine db pb mt mh tx' lv' k → k < w1.heap.size) := fun k hk => (hD.ext hE).mine hk
      have D1 := hD.ext o1
      have C1 := hC.ext o1
      have B1 : Below base w (w1.alloc (.cells #[.int .i64 r0, .int .i64 r1, .int .i64 r2, .int .i64 r3, .int .i64 r4, .int .i64 r5, .int .i64 r6, .int .i64 r7] 65)) := Below.trans hbel (Below.mono o1 hbase1)
      clear HN hE o1 hD hC hbel
      cases isn
      · obtain ⟨h1, h2, h3⟩ := HSt.out rfl
        have HR : Hid (he = 0 ∧ hnn = k ∧ ml = m) := ⟨h1, h2, h3⟩
        clear HSt HMa HGo HNx h1 h2 h3
        go_wp2_with fail
        go_ret2
        exact ⟨by rw [HR.out.1, HR.out.2.1]; rfl, B1, fun _ => ⟨C1, tx', ho', lv', by rw [HR.out.2.2]; exact D1⟩⟩
      · have hklt := HNx.out rfl
        clear HSt HNx
        have cc := C1.cell
        go_wp2_with fail
        refine (room_any 1 _ D1 (by omega)).mono ?_
        rintro e w2 ⟨rfl, rfl⟩
        by_cases hroom : m.length + 1 ≤ 60
        · have hb1 : decide (m.length + 1 ≤ 60) = true := by simpa using hroom
          rw [hb1]
          obtain ⟨g1, g2⟩ := HGo.out (by simp) (by omega)
          have HM := (show Hid _ from g1)
          have HSE := (show Hid (stepErr m ⟨r0, r1, r2, r3, r4, r5, r6, r7⟩ = 0) from g2)
          clear HMa HGo hb1 g1 g2
          go_wp2_with fail
          have HNM1 : Hid (¬ Mine db pb mt mh tx' lv' cb) := D1.notMine C1 (by decide) (by decide) (by decide)
          have HRl : Hid (∀ k, Mine db pb mt mh tx' lv' k → k < w1.heap.size) := HMine
          have HS : Hid (∀ W', Blk W' cb #[.pointer (some ⟨db, 0, none⟩)] 85 → Blk W' w1.heap.size #[.int .i64 r0, .int .i64 r1, .int .i64 r2, .int .i64 r3, .int .i64 r4, .int .i64 r5, .int .i64 r6, .int .i64 r7] 65 → (∀ o, W'.cell? ⟨cb, o, none⟩ = #[Value.pointer (some ⟨db, 0, none⟩)][o]?) ∧ ∀ o, W'.cell? ⟨w1.heap.size, o, none⟩ = #[.int .i64 r0, .int .i64 r1, .int .i64 r2, .int .i64 r3, .int .i64 r4, .int .i64 r5, .int .i64 r6, .int .i64 r7][o]?) := fun W' x y => ⟨x.cell, y.cell⟩
          refine wp_region_held_drew (S := fun w' => (∀ o, w'.cell? ⟨cb, o, none⟩ = #[Value.pointer (some ⟨db, 0, none⟩)][o]?) ∧ ∀ o, w'.cell? ⟨w1.heap.size, o, none⟩ = #[.int .i64 r0, .int .i64 r1, .int .i64 r2, .int .i64 r3, .int .i64 r4, .int .i64 r5, .int .i64 r6, .int .i64 r7][o]?) (by kernel_rfl) (HS.out _ C1.drew R1.drew) (fun hHeld => ?_)
          refine wpAnyH_take (i := 0) (v := ?v1) rfl (by kernel_rfl) (by kernel_rfl) (by kernel_rfl) (fun _ _ _ h => h) (Or.inl ⟨by rfl, ?hy1⟩) hHeld ?r1
          case hy1 => first | (intro w hSw; (try dsimp only at hSw); go_simp; done) | (intro w hSw; (try dsimp only at hSw); go_simp; with_reducible rfl)
          simp only [Act.put]
          refine wpAnyH_take (i := 1) (v := ?v2) rfl (by kernel_rfl) (by kernel_rfl) (by kernel_rfl) (fun _ _ _ h => h) (Or.inl ⟨by rfl, ?hy2⟩) hHeld ?r2
          case hy2 => first | (intro w hSw; (try dsimp only at hSw); go_simp; done) | (intro w hSw; (try dsimp only at hSw); go_simp; with_reducible rfl)
          simp only [Act.put]
          refine wpAnyH_take (i := 2) (v := ?v3) rfl (by kernel_rfl) (by kernel_rfl) (by kernel_rfl) (fun _ _ _ h => h) (Or.inl ⟨by rfl, ?hy3⟩) hHeld ?r3
          case hy3 => first | (intro w hSw; (try dsimp only at hSw); go_simp; done) | (intro w hSw; (try dsimp only at hSw); go_simp; with_reducible rfl)
          simp only [Act.put]
          refine wpAnyH_take (i := 3) (v := ?v4) rfl (by kernel_rfl) (by kernel_rfl) (by kernel_rfl) (fun _ _ _ h => h) (Or.inl ⟨by rfl, ?hy4⟩) hHeld ?r4
          case hy4 => first | (intro w hSw; (try dsimp only at hSw); go_simp; done) | (intro w hSw; (try dsimp only at hSw); go_simp; with_reducible rfl)
          simp only [Act.put]
          refine wpAnyH_take (i := 4) (v := ?v5) rfl (by kernel_rfl) (by kernel_rfl) (by kernel_rfl) (fun _ _ _ h => h) (Or.inl ⟨by rfl, ?hy5⟩) hHeld ?r5
          case hy5 => first | (intro w hSw; (try dsimp only at hSw); go_simp; done) | (intro w hSw; (try dsimp only at hSw); go_simp; with_reducible rfl)
          simp only [Act.put]
          refine wpAnyH_ready (rs := [5]) (by kernel_rfl) (by simp) ?_
          refine AllReadyH.cons rfl (fun K hK => ?_) AllReadyH.nil
          go_simp
          refine (add_ok ⟨r0, r1, r2, r3, r4, r5, r6, r7⟩ _ (D1.ext (Ext.refl _).drew) HSE.out).mono ?_
          rintro e w3 ⟨rfl, hbel3, hfr, tx2, ho2, lv2, hD3⟩
          have C3 : Blk w3 cb #[.pointer (some ⟨db, 0, none⟩)] 85 := by
            have := hfr cb C1.lt HNM1.out
            unfold Blk; rw [this]; exact C1
          have R3 : Blk w3 w1.heap.size #[.int .i64 r0, .int .i64 r1, .int .i64 r2, .int .i64 r3, .int .i64 r4, .int .i64 r5, .int .i64 r6, .int .i64 r7] 65 := by
            have := hfr w1.heap.size R1.lt (fun hm => by have := HRl.out _ hm; omega)
            unfold Blk; rw [this]; exact R1
          have B3 : Below base w w3 := Below.trans (Ext.drewB B1) hbel3
          clear hHeld
          go_wp2_with fail
          refine hK.out _ _ (HS.out _ C3 R3) (fun hHeld => ?_)
          clear hK K
          refine wpAnyH_ready (rs := [6]) (by kernel_rfl) (by simp) ?_
          refine AllReadyH.cons rfl (fun K hK => ?_) AllReadyH.nil
          go_simp
          refine hK.out _ _ (HS.out _ C3 R3) (fun hHeld => ?_)
          clear hK K hHeld
          refine wpAnyH_done (by kernel_rfl) ?_ _
          clear D1 C1 R1 B1 hbel3 hfr HS HNM1 HRl
          go_wp2_with fail
          go_roundw
          case rel => exact ⟨k + 1, _, tx2, ho2, lv2, by go_num, HM.out, hD3, B3, C3⟩
          case measure => simp [intOf]; omega
        · have hb1 : decide (m.length + 1 ≤ 60) = false := by simpa using hroom
          rw [hb1]
          obtain ⟨h1, h2⟩ := HMa.out (by simp) (by omega)
          have HR : Hid (he = 2 ∧ hnn = 0) := ⟨h1, h2⟩
          clear HMa HGo h1 h2 hb1
          go_wp2_with fail
          go_ret2
          exact ⟨by rw [HR.out.1, HR.out.2]; rfl, B1, fun x => by rw [HR.out.1] at x; cases x⟩
    · have HR : Hid (he = 0 ∧ hnn = k ∧ ml = m) := HStop.out k m hM (Or.inr (by have := hM.le; omega))
      clear HStop HMany HNeed hM M0
      go_wp2_with fail
      go_ret2
      exact ⟨by rw [HR.out.1, HR.out.2.1]; rfl, hbel, fun _ => ⟨hC, tx', ho', lv', by rw [HR.out.2.2]; exact hD⟩⟩
end Go.Proofs.YtlpodahldpaniaaGreat.B
