/- The contract of the crew's mend: so many records at most. The contracts of the desk's Lay, of several pages, and of the crew's leave; everyPage. -/
import Derived.Test.YtibfgbmhmdggmaaGreatDoorCrew2
namespace Go.Proofs.YtibfgbmhmdggmaaGreatDoor.B
set_option maxHeartbeats 32000000
set_option maxRecDepth 100000
open Go.ChangeShapes Go.WideShapes Go.ChangeAt Go.RowKit
def halfErr (n : Nat) (l : List Rc) : Int := if 60 < l.length + min n (needR l) then 2 else 0
def halfNum (n : Nat) (l : List Rc) : Nat := if 60 < l.length + min n (needR l) then 0 else min n (needR l)
theorem half_ok {n : Nat} {l : List Rc} (h : l.length + min n (needR l) ≤ 60) : halfErr n l = 0 ∧ halfNum n l = min n (needR l) := by
 unfold halfErr halfNum
 rw [if_neg (by omega), if_neg (by omega)]
 exact ⟨rfl, rfl⟩
theorem half_many {n : Nat} {l : List Rc} (h : 60 < l.length + min n (needR l)) : halfErr n l = 2 ∧ halfNum n l = 0 := by
 unfold halfErr halfNum
 rw [if_pos h, if_pos h]
 exact ⟨rfl, rfl⟩
theorem DeskOk.notMine {w : World} {base db pb mt mh : Nat} {l : List Rc} {tx : List TxE} {ho : List HE} {p q r : Pg} {lv : Value} {safe : Int} (h : DeskOk w base db pb mt mh l tx ho p q r lv safe) {k : Nat} {c : Array Value} {t : TypeId} (hk : Blk w k c t)
  (h1 : t ≠ 130) (h2 : t ≠ 134) (h3 : 81 ≠ t) : ¬ Mine db pb mt mh tx lv k := by
 rintro (rfl | rfl | rfl | rfl | ⟨u, hu, hk2⟩ | hk2)
 ·exact h1 (blk_eq hk h.blk)
 ·exact h2 (blk_eq hk h.book.blk)
 ·exact blk_notmap hk h.book.txs rfl
 ·exact blk_notmap hk h.book.hos rfl
 ·exact own_notblk (h.book.own u hu) hk h3 k hk2 rfl
 ·exact own_notblk h.own hk h3 k hk2 rfl
structure MendAt (l : List Rc) (n k : Nat) (m : List Rc) : Prop where
 log : m = mendN k l
 right : Right m
 need : needR m + k = needR l
 len : m.length = l.length + k
 le : k ≤ n
theorem MendAt.next {l : List Rc} {n k : Nat} {m : List Rc} (h : MendAt l n k m) (hn : isNext m = true) (hk : k < n) (h60 : m.length < 60) : MendAt l n (k + 1) (m ++ [mendRec m]) ∧ stepErr m (mendRec m) = 0 := by
 obtain ⟨he, hf, _, hd⟩ := mend_step h.right hn h60
 refine ⟨⟨?_, (right_snoc _ _).2 ⟨h.right, he, hf⟩, by have := h.need; omega, by rw [List.length_append, List.length_singleton, h.len]; omega, by omega⟩, (stepErr_zero _ _).2 ⟨he, hf⟩⟩
 rw [← mendN_add, ← h.log, show mendN 1 m = mendN 0 (m ++ [mendRec m]) from mendN_succ hn]
 rfl
theorem MendAt.stop {l : List Rc} {n k : Nat} {m : List Rc} (h : MendAt l n k m) (hs : isNext m = false ∨ k = n) : halfErr n l = 0 ∧ halfNum n l = k ∧ mendN n l = m := by
 have h60 := right_len m h.right
 have h1 := h.need
 have h2 := h.len
 have h3 := h.le
 have hmin : min n (needR l) = k := by
  rcases hs with hs | hs
  ·have := need_zero.2 hs; omega
  ·omega
 obtain ⟨g1, g2⟩ := half_ok (n := n) (l := l) (by omega)
 refine ⟨g1, by omega, ?_⟩
 rcases hs with hs | rfl
 ·rw [show n = k + (n - k) from by omega, ← mendN_add, ← h.log, mendN_none hs]
 ·exact h.log.symm
theorem MendAt.many {l : List Rc} {n k : Nat} {m : List Rc} (h : MendAt l n k m) (hn : isNext m = true) (hk : k < n) (h60 : 60 ≤ m.length) : halfErr n l = 2 ∧ halfNum n l = 0 := by
 have h1 := h.need
 have h2 := h.len
 have : needR m ≠ 0 := fun e => by rw [need_zero.1 e] at hn; cases hn
 exact half_many (by omega)
theorem needR_le (l : List Rc) (hR : Right l) : needR l ≤ 10000 := by
 have : ∀ t, needAt l t ≤ 1001 := fun t => by
  have := stand_len hR t
  unfold needAt
  split
  ·omega
  ·split <;> omega
 have h1 := this 1
 have h2 := this 2
 have h3 := this 3
 have h4 := this 4
 have h5 := this 5
 have h6 := this 6
 have h7 := this 7
 have h8 := this 8
 have h9 := this 9
 unfold needR
 omega
theorem Ext.drewB {n : Nat} {a b : World} (h : Below n a b) : Below n a b.drew := Below.drew h
theorem crewMend_any {base db pb mt mh : Nat} {l : List Rc} {tx : List TxE} {ho : List HE} {p q s : Pg} {lv : Value} {safe : Int} (cb : Nat) (most : Int) (w : World) (h : DeskOk w base db pb mt mh l tx ho p q s lv safe) (C : Blk w cb #[.pointer (some ⟨db, 0, none⟩)] 167) :
  Calls Tryz.prog 111 #[.pointer (some ⟨cb, 0, none⟩), .int .i64 most] w fun e w' => e = .returned (.tuple #[.int .i64 (halfNum most.toNat l : Nat), .int .i64 (halfErr most.toNat l)]) ∧ Below base w w' ∧
   (halfErr most.toNat l = 0 → Blk w' cb #[.pointer (some ⟨db, 0, none⟩)] 167 ∧ ∃ tx' ho' lv', DeskOk w' base db pb mt mh (mendN most.toNat l) tx' ho' p q s lv' safe) := by
 have hbase : base ≤ w.heap.size := Nat.le_trans h.ge (Nat.le_of_lt h.blk.lt)
 have hnl := needR_le l h.book.right
 have M0 : MendAt l most.toNat 0 l := ⟨rfl, h.book.right, rfl, rfl, Nat.zero_le _⟩
 have HStop : Hid (∀ k m, MendAt l most.toNat k m → (isNext m = false ∨ k = most.toNat) → halfErr most.toNat l = 0 ∧ halfNum most.toNat l = k ∧ mendN most.toNat l = m) := fun k m h1 h2 => h1.stop h2
 have HMany : Hid (∀ k m, MendAt l most.toNat k m → isNext m = true → k < most.toNat → 60 ≤ m.length → halfErr most.toNat l = 2 ∧ halfNum most.toNat l = 0) := fun k m h1 h2 h3 h4 => h1.many h2 h3 h4
 have HNeed : Hid (∀ k m, MendAt l most.toNat k m → k ≤ needR l ∧ (isNext m = true → k < needR l)) := fun k m h1 => by
  have := h1.need
  refine ⟨by omega, fun hn => ?_⟩
  have : needR m ≠ 0 := fun e => by rw [need_zero.1 e] at hn; cases hn
  omega
 generalize halfErr most.toNat l = he at *
 generalize halfNum most.toNat l = hnn at *
 generalize mendN most.toNat l = ml at *
 go_enter Tryz.func111, Tryz.ntmps111
 go_wp2_with fail
 go_loopw [6] (fun i wr => ∃ (k : Nat) (m : List Rc) (tx' : List TxE) (ho' : List HE) (lv' : Value), i = .int .i64 k ∧ MendAt l most.toNat k m ∧ DeskOk wr base db pb mt mh m tx' ho' p q s lv' safe ∧ Below base w wr ∧ Blk wr cb #[.pointer (some ⟨db, 0, none⟩)] 167) (fun i _ => needR l + 1 - (intOf i).toNat)
 case atStart => exact ⟨0, l, tx, ho, lv, rfl, M0, h, Below.mono (Ext.refl w) hbase, C⟩
 case round =>
  obtain ⟨k, m, tx', ho', lv', rfl, hM, hD, hbel, hC⟩ := hrel
  have h60 := right_len m hD.book.right
  have hbase1 : base ≤ wr.heap.size := Nat.le_trans hD.ge (Nat.le_of_lt hD.blk.lt)
  have hkn := (HNeed.out k m hM).1
  by_cases hlt : (k : Int) < most
  ·have HLt : Hid (k < most.toNat) := by unfold Hid; omega
   have HN := crewNext_any cb wr hD hC
   have HNx : Hid (isNext m = true → k < needR l) := (HNeed.out k m hM).2
   have HSt : Hid (isNext m = false → he = 0 ∧ hnn = k ∧ ml = m) := fun x => HStop.out k m hM (Or.inl x)
   have HMa : Hid (isNext m = true → 60 ≤ m.length → he = 2 ∧ hnn = 0) := fun x y => HMany.out k m hM x HLt.out y
   have HGo : Hid (isNext m = true → m.length < 60 → MendAt l most.toNat (k + 1) (m ++ [nextAns m]) ∧ stepErr m (nextAns m) = 0) := fun x y => by
    have hna : nextAns m = mendRec m := by unfold nextAns; rw [x, if_pos rfl]
    rw [hna]
    exact hM.next x HLt.out y
   clear HStop HMany HNeed hM M0
   generalize isNext m = isn at *
   generalize nextAns m = na at *
   obtain ⟨r0, r1, r2, r3, r4, r5, r6, r7⟩ := na
   go_wp2_with fail
   refine HN.mono ?_
   rintro e w1 ⟨rfl, hE⟩
   have o1 := hE.alloc (.cells #[.int .i64 r0, .int .i64 r1, .int .i64 r2, .int .i64 r3, .int .i64 r4, .int .i64 r5, .int .i64 r6, .int .i64 r7] 81)
   have R1 := Blk.new w1 w1.heap.size #[.int .i64 r0, .int .i64 r1, .int .i64 r2, .int .i64 r3, .int .i64 r4, .int .i64 r5, .int .i64 r6, .int .i64 r7] 81 rfl
   have HMine : Hid (∀ k, Mine db pb mt mh tx' lv' k → k < w1.heap.size) := fun k hk => (hD.ext hE).mine hk
   have D1 := hD.ext o1
   have C1 := hC.ext o1
   have B1 : Below base w (w1.alloc (.cells #[.int .i64 r0, .int .i64 r1, .int .i64 r2, .int .i64 r3, .int .i64 r4, .int .i64 r5, .int .i64 r6, .int .i64 r7] 81)) := Below.trans hbel (Below.mono o1 hbase1)
   clear HN hE o1 hD hC hbel
   cases isn
   ·obtain ⟨h1, h2, h3⟩ := HSt.out rfl
    have HR : Hid (he = 0 ∧ hnn = k ∧ ml = m) := ⟨h1, h2, h3⟩
    clear HSt HMa HGo HNx h1 h2 h3
    go_wp2_with fail
    go_ret2
    exact ⟨by rw [HR.out.1, HR.out.2.1]; rfl, B1, fun _ => ⟨C1, tx', ho', lv', by rw [HR.out.2.2]; exact D1⟩⟩
   ·have hklt := HNx.out rfl
    clear HSt HNx
    have cc := C1.cell
    go_wp2_with fail
    refine (room_any 1 _ D1 (by omega)).mono ?_
    rintro e w2 ⟨rfl, rfl⟩
    by_cases hroom : m.length + 1 ≤ 60
    ·have hb1 : decide (m.length + 1 ≤ 60) = true := by simpa using hroom
     rw [hb1]
     obtain ⟨g1, g2⟩ := HGo.out (by simp) (by omega)
     have HM := (show Hid _ from g1)
     have HSE := (show Hid (stepErr m ⟨r0, r1, r2, r3, r4, r5, r6, r7⟩ = 0) from g2)
     clear HMa HGo hb1 g1 g2
     go_wp2_with fail
     have HNM1 : Hid (¬ Mine db pb mt mh tx' lv' cb) := D1.notMine C1 (by decide) (by decide) (by decide)
     have HRl : Hid (∀ k, Mine db pb mt mh tx' lv' k → k < w1.heap.size) := HMine
     have HS : Hid (∀ W', Blk W' cb #[.pointer (some ⟨db, 0, none⟩)] 167 → Blk W' w1.heap.size #[.int .i64 r0, .int .i64 r1, .int .i64 r2, .int .i64 r3, .int .i64 r4, .int .i64 r5, .int .i64 r6, .int .i64 r7] 81 → (∀ o, W'.cell? ⟨cb, o, none⟩ = #[Value.pointer (some ⟨db, 0, none⟩)][o]?) ∧ ∀ o, W'.cell? ⟨w1.heap.size, o, none⟩ = #[.int .i64 r0, .int .i64 r1, .int .i64 r2, .int .i64 r3, .int .i64 r4, .int .i64 r5, .int .i64 r6, .int .i64 r7][o]?) := fun W' x y => ⟨x.cell, y.cell⟩
     refine wp_region_held_drew (S := fun w' => (∀ o, w'.cell? ⟨cb, o, none⟩ = #[Value.pointer (some ⟨db, 0, none⟩)][o]?) ∧ ∀ o, w'.cell? ⟨w1.heap.size, o, none⟩ = #[.int .i64 r0, .int .i64 r1, .int .i64 r2, .int .i64 r3, .int .i64 r4, .int .i64 r5, .int .i64 r6, .int .i64 r7][o]?) (by kernel_rfl) (HS.out _ C1.drew R1.drew) (fun hHeld => ?_)
     refine tkn 0 rfl hHeld ?_
     simp only [Act.put]
     refine tkn 1 rfl hHeld ?_
     simp only [Act.put]
     refine tkn 2 rfl hHeld ?_
     simp only [Act.put]
     refine tkn 3 rfl hHeld ?_
     simp only [Act.put]
     refine tkn 4 rfl hHeld ?_
     simp only [Act.put]
     refine exn 5 rfl fun K hK => ?_
     go_simp
     refine (add_ok ⟨r0, r1, r2, r3, r4, r5, r6, r7⟩ _ (D1.ext (Ext.refl _).drew) HSE.out).mono ?_
     rintro e w3 ⟨rfl, hbel3, hfr, tx2, ho2, lv2, hD3⟩
     have C3 : Blk w3 cb #[.pointer (some ⟨db, 0, none⟩)] 167 := by
      have := hfr cb C1.lt HNM1.out
      unfold Blk; rw [this]; exact C1
     have R3 : Blk w3 w1.heap.size #[.int .i64 r0, .int .i64 r1, .int .i64 r2, .int .i64 r3, .int .i64 r4, .int .i64 r5, .int .i64 r6, .int .i64 r7] 81 := by
      have := hfr w1.heap.size R1.lt (fun hm => by have := HRl.out _ hm; omega)
      unfold Blk; rw [this]; exact R1
     have B3 : Below base w w3 := Below.trans (Ext.drewB B1) hbel3
     clear hHeld
     go_wp2_with fail
     refine hK.out _ _ (HS.out _ C3 R3) (fun hHeld => ?_)
     clear hK K
     refine exn 6 rfl fun K hK => ?_
     go_simp
     refine hK.out _ _ (HS.out _ C3 R3) (fun hHeld => ?_)
     clear hK K hHeld
     refine wpAnyH_done (by kernel_rfl) ?_ _
     clear D1 C1 R1 B1 hbel3 hfr HS HNM1 HRl
     go_wp2_with fail
     go_roundw
     case rel => exact ⟨k + 1, _, tx2, ho2, lv2, by go_num, HM.out, hD3, B3, C3⟩
     case measure => simp [intOf]; omega
    ·have hb1 : decide (m.length + 1 ≤ 60) = false := by simpa using hroom
     rw [hb1]
     obtain ⟨h1, h2⟩ := HMa.out (by simp) (by omega)
     have HR : Hid (he = 2 ∧ hnn = 0) := ⟨h1, h2⟩
     clear HMa HGo h1 h2 hb1
     go_wp2_with fail
     go_ret2
     exact ⟨by rw [HR.out.1, HR.out.2]; rfl, B1, fun x => by rw [HR.out.1] at x; cases x⟩
  ·have HR : Hid (he = 0 ∧ hnn = k ∧ ml = m) := HStop.out k m hM (Or.inr (by have := hM.le; omega))
   clear HStop HMany HNeed hM M0
   go_wp2_with fail
   go_ret2
   exact ⟨by rw [HR.out.1, HR.out.2.1]; rfl, hbel, fun _ => ⟨hC, tx', ho', lv', by rw [HR.out.2.2]; exact hD⟩⟩
theorem secure_gr {base db pb mt mh : Nat} {l : List Rc} {tx : List TxE} {ho : List HE} {p q s : Pg} {lv : Value} {safe : Int} (n : Int) (w : World) (h : DeskOk w base db pb mt mh l tx ho p q s lv safe) :
  Calls Tryz.prog 106 #[.pointer (some ⟨db, 0, none⟩), .int .i64 n] w fun e w' => e = .returned (.tuple #[]) ∧ Gr (some db) w w' ∧ DeskOk w' base db pb mt mh l tx ho p q s lv (maxI safe n) := by
 have c14 : w.cell? ⟨db, 14, none⟩ = some (.int .i64 safe) := by rw [h.blk.cell]; rfl
 have f14 := h.blk.fr 14
 by_cases hn : safe < n
 ·have HM : Hid (maxI safe n = n) := maxI_lt hn
  have hD := h.setSafe n
  have hB : Gr (some db) w (w.setCell ⟨db, 14, none⟩ (.int .i64 n)) := (Gr.refl (some db) w).set (p := ⟨db, 14, none⟩) (Or.inr rfl) _
  go_enter Tryz.func106, Tryz.ntmps106
  go_wp2_with fail
  refine bodyPost_end (results_none rfl _ _ _) rfl ?_
  exact ⟨rfl, hB, by rw [HM.out]; exact hD⟩
 ·have HM : Hid (maxI safe n = safe) := maxI_ge hn
  go_enter Tryz.func106, Tryz.ntmps106
  go_wp2_with fail
  refine bodyPost_end (results_none rfl _ _ _) rfl ?_
  exact ⟨rfl, Gr.refl _ _, by rw [HM.out]; exact h⟩
theorem secure_no {base db pb mt mh : Nat} {l : List Rc} {tx : List TxE} {ho : List HE} {p q s : Pg} {lv : Value} {safe : Int} (n : Int) (w : World) (h : DeskOk w base db pb mt mh l tx ho p q s lv safe) (hn : n ≤ safe) :
  Calls Tryz.prog 106 #[.pointer (some ⟨db, 0, none⟩), .int .i64 n] w fun e w' => e = .returned (.tuple #[]) ∧ w' = w := by
 have c14 : w.cell? ⟨db, 14, none⟩ = some (.int .i64 safe) := by rw [h.blk.cell]; rfl
 have hn' : ¬ safe < n := by omega
 go_enter Tryz.func106, Tryz.ntmps106
 go_wp2_with fail
 refine bodyPost_end (results_none rfl _ _ _) rfl ?_
 exact ⟨rfl, rfl⟩
theorem outside_nil (lo hi : Int) (a : Option Addr) (cap : Nat) (w : World) :
  Calls Tryz.prog 105 #[.int .i64 lo, .int .i64 hi, .slice a 0 cap] w fun e w' => e = .returned (.bool false) ∧ w' = w := by
 go_enter Tryz.func105, Tryz.ntmps105
 go_wp2
 go_loop [11] (fun i => i = .int .i64 0) (fun _ => 0)
 case atStart => rfl
 case round =>
  obtain rfl := hrel
  go_wp2
  go_ret
  exact ⟨rfl, rfl⟩
theorem outside_ints {base : Nat} {a : Option Addr} (lo hi : Int) (cap : Nat) (xs : List Int) (w : World) (h : Ints base w a xs) (hl : xs.length ≤ 1000) :
  Calls Tryz.prog 105 #[.int .i64 lo, .int .i64 hi, .slice a xs.length cap] w fun e w' => e = .returned (.bool (out lo hi xs)) ∧ w' = w := by
 rcases h with rfl | ⟨b, _, rfl, hc⟩
 ·exact outside_nil lo hi a cap w
 ·exact outside_any lo hi b 0 cap xs w (by omega) (fun i hi => by rw [Nat.zero_add]; exact hc i hi)
theorem Ints.gr {base : Nat} {row : Option Nat} {w w' : World} {a : Option Addr} {xs : List Int} (h : Ints base w a xs) (g : Gr row w w') (hn : ∀ b, a = some ⟨b, 0, none⟩ → xs ≠ [] → some b ≠ row) : Ints base w' a xs := by
 rcases h with h | ⟨b, hb, rfl, hc⟩
 ·exact Or.inl h
 ·by_cases hx : xs = []
  ·exact Or.inl hx
  ·refine Or.inr ⟨b, hb, rfl, fun i hi => ?_⟩
   have h1 := hc i hi
   have : w'.heap[b]? = w.heap[b]? := g.block b (cell_lt h1) (hn b rfl hx)
   simp only [World.cell?, this] at h1 ⊢
   exact h1
theorem Ints.notDesk {base b0 db pb mt mh : Nat} {l : List Rc} {tx : List TxE} {ho : List HE} {p q s : Pg} {lv : Value} {safe : Int} {w : World} {a : Option Addr} {xs : List Int} (h : Ints b0 w a xs) (hD : DeskOk w base db pb mt mh l tx ho p q s lv safe) : ∀ b, a = some ⟨b, 0, none⟩ → xs ≠ [] → some b ≠ some db := by
 rintro b rfl hx e
 injection e with e
 subst e
 rcases h with h | ⟨b', _, e, hc⟩
 ·exact hx h
 ·injection e with e
  injection e with e
  subst e
  have h1 := hc 0 (by rcases xs with _ | ⟨y, ys⟩; exact absurd rfl hx; simp)
  rw [hD.blk.cell] at h1
  simp at h1
theorem laid_take {l : List Rc} {xs : List Int} {k : Nat} (hk : k < xs.length) (i : Nat) (d : Pg) : laidPg l ((xs.take (k + 1)).contains (i : Int)) i d = if xs[k] = (i : Int) then pgAt (pagesR l) i else laidPg l ((xs.take k).contains (i : Int)) i d := by
 have : (xs.take (k + 1)).contains (i : Int) = ((xs.take k).contains (i : Int) || (xs[k] == (i : Int))) := by
  rw [List.take_succ_eq_append_getElem hk]
  rw [Bool.eq_iff_iff]
  simp only [List.contains_iff_mem, List.mem_append, List.mem_singleton, Bool.or_eq_true, beq_iff_eq]
  constructor
  ·rintro (h | h)
   ·exact Or.inl h
   ·exact Or.inr h.symm
  ·rintro (h | h)
   ·exact Or.inl h
   ·exact Or.inr h.symm
 rw [this]
 by_cases hx : xs[k] = (i : Int)
 ·rw [if_pos hx, show (xs[k] == (i : Int)) = true from by simpa using hx, Bool.or_true]
  rfl
 ·rw [if_neg hx, show (xs[k] == (i : Int)) = false from by simpa using hx, Bool.or_false]
theorem layMany_any {base b0 db pb mt mh : Nat} {l : List Rc} {tx : List TxE} {ho : List HE} {p q s : Pg} {lv : Value} {safe : Int} {a : Option Addr} (xs : List Int) (cap : Nat) (w : World) (h : DeskOk w base db pb mt mh l tx ho p q s lv safe) (I : Ints b0 w a xs)
  (hx : ∀ x ∈ xs, x = 0 ∨ x = 1 ∨ x = 2) (hl : xs.length ≤ 1000) (hs : ∀ i, i < 3 → (pgAt (pagesR l) i).last ≤ safe) :
  Calls Tryz.prog 108 #[.pointer (some ⟨db, 0, none⟩), .slice a xs.length cap] w fun e w' => e = .returned (.int .i64 0) ∧ Gr (some db) w w' ∧
   DeskOk w' base db pb mt mh l tx ho (laidPg l (xs.contains 0) 0 p) (laidPg l (xs.contains 1) 1 q) (laidPg l (xs.contains 2) 2 s) lv safe := by
 have HOut : out 0 2 xs = false := by
  unfold out
  rw [List.any_eq_false]
  intro x hxx
  have := hx x hxx
  simp
  omega
 have hnd := I.notDesk h
 have HT0 : Hid (∀ k (hk : k < xs.length), laidPg l ((xs.take (k + 1)).contains 0) 0 p = if xs[k] = 0 then pgAt (pagesR l) 0 else laidPg l ((xs.take k).contains 0) 0 p) := fun k hk => laid_take hk 0 p
 have HT1 : Hid (∀ k (hk : k < xs.length), laidPg l ((xs.take (k + 1)).contains 1) 1 q = if xs[k] = 1 then pgAt (pagesR l) 1 else laidPg l ((xs.take k).contains 1) 1 q) := fun k hk => laid_take hk 1 q
 have HT2 : Hid (∀ k (hk : k < xs.length), laidPg l ((xs.take (k + 1)).contains 2) 2 s = if xs[k] = 2 then pgAt (pagesR l) 2 else laidPg l ((xs.take k).contains 2) 2 s) := fun k hk => laid_take hk 2 s
 have HA : Hid (xs.take xs.length = xs) := List.take_length
 have HZ : Hid (laidPg l ((xs.take 0).contains 0) 0 p = p ∧ laidPg l ((xs.take 0).contains 1) 1 q = q ∧ laidPg l ((xs.take 0).contains 2) 2 s = s) := ⟨rfl, rfl, rfl⟩
 have H := outside_ints 0 2 cap xs w I hl
 rw [HOut] at H
 clear HOut
 go_enter Tryz.func108, Tryz.ntmps108
 go_wp2_with fail
 refine H.mono ?_
 rintro e w1 ⟨rfl, rfl⟩
 clear H
 go_wp2_with fail
 go_loopw [11] (fun i wr => ∃ k : Nat, k ≤ xs.length ∧ i = .int .i64 k ∧ Gr (some db) w1 wr ∧ DeskOk wr base db pb mt mh l tx ho (laidPg l ((xs.take k).contains 0) 0 p) (laidPg l ((xs.take k).contains 1) 1 q) (laidPg l ((xs.take k).contains 2) 2 s) lv safe) (fun i _ => xs.length - (intOf i).toNat)
 case atStart => exact ⟨0, Nat.zero_le _, rfl, Gr.refl _ _, by rw [HZ.out.1, HZ.out.2.1, HZ.out.2.2]; exact h⟩
 case round =>
  obtain ⟨k, hk, rfl, hG, hD⟩ := hrel
  by_cases hlt : k < xs.length
  ·obtain ⟨b, rfl, hc⟩ := (I.gr hG hnd).at hlt
   have hxk := hx xs[k] (List.getElem_mem hlt)
   have T0 := HT0.out k hlt
   have T1 := HT1.out k hlt
   have T2 := HT2.out k hlt
   generalize xs[k] = y at *
   have H0 : Hid (y = 0 → laidPg l ((xs.take (k + 1)).contains 0) 0 p = pgAt (pagesR l) 0 ∧ laidPg l ((xs.take (k + 1)).contains 1) 1 q = laidPg l ((xs.take k).contains 1) 1 q ∧ laidPg l ((xs.take (k + 1)).contains 2) 2 s = laidPg l ((xs.take k).contains 2) 2 s) := fun e => by subst e; exact ⟨T0, T1, T2⟩
   have H1 : Hid (y = 1 → laidPg l ((xs.take (k + 1)).contains 0) 0 p = laidPg l ((xs.take k).contains 0) 0 p ∧ laidPg l ((xs.take (k + 1)).contains 1) 1 q = pgAt (pagesR l) 1 ∧ laidPg l ((xs.take (k + 1)).contains 2) 2 s = laidPg l ((xs.take k).contains 2) 2 s) := fun e => by subst e; exact ⟨T0, T1, T2⟩
   have H2 : Hid (y = 2 → laidPg l ((xs.take (k + 1)).contains 0) 0 p = laidPg l ((xs.take k).contains 0) 0 p ∧ laidPg l ((xs.take (k + 1)).contains 1) 1 q = laidPg l ((xs.take k).contains 1) 1 q ∧ laidPg l ((xs.take (k + 1)).contains 2) 2 s = pgAt (pagesR l) 2) := fun e => by subst e; exact ⟨T0, T1, T2⟩
   clear T0 T1 T2 HT0 HT1 HT2 HZ HA I hnd
   generalize laidPg l ((xs.take k).contains 0) 0 p = P at *
   generalize laidPg l ((xs.take k).contains 1) 1 q = Q at *
   generalize laidPg l ((xs.take k).contains 2) 2 s = S at *
   rcases hxk with rfl | rfl | rfl
   ·have KP : Hid (∀ w', BookOk w' base pb mt mh l tx ho → w'.cell? ⟨pb, 0, none⟩ = some (.int .i64 (pgAt (pagesR l) 0).c0) ∧ w'.cell? ⟨pb, 1, none⟩ = some (.int .i64 (pgAt (pagesR l) 0).c1) ∧ w'.cell? ⟨pb, 2, none⟩ = some (.int .i64 (pgAt (pagesR l) 0).c2) ∧ w'.cell? ⟨pb, 3, none⟩ = some (.int .i64 (pgAt (pagesR l) 0).last)) := fun w' hb => by
     refine ⟨?_, ?_, ?_, ?_⟩ <;> rw [hb.blk.cell, bookCells_page _ mt mh _ (pagesR_len l) _ (by decide)] <;> rfl
    have hle := hs 0 (by decide)
    have HN := (show Hid _ from H0.out rfl)
    clear H0 H1 H2
    generalize pgAt (pagesR l) 0 = x at *
    have c0 : wr.cell? ⟨db, 0, none⟩ = some (.pointer (some ⟨pb, 0, none⟩)) := by rw [hD.blk.cell]; rfl
    obtain ⟨k0, k1, k2, k3⟩ := KP.out _ hD.book
    go_wp2_with fail
    refine (secure_no x.last wr hD hle).mono ?_
    rintro e w2 ⟨rfl, rfl⟩
    clear c0 k0 k1 k2 k3
    go_wp2_with fail
    have D2d := hD.ext (Ext.refl w2).drew
    have KC : Hid (∀ w' p' q' s' sf, DeskOk w' base db pb mt mh l tx ho p' q' s' lv sf → w'.cell? ⟨db, 0, none⟩ = some (.pointer (some ⟨pb, 0, none⟩)) ∧ w'.cell? ⟨pb, 0, none⟩ = some (.int .i64 x.c0) ∧ w'.cell? ⟨pb, 1, none⟩ = some (.int .i64 x.c1) ∧ w'.cell? ⟨pb, 2, none⟩ = some (.int .i64 x.c2) ∧ w'.cell? ⟨pb, 3, none⟩ = some (.int .i64 x.last)) := fun w' p' q' s' sf hd => ⟨by rw [hd.blk.cell]; rfl, KP.out w' hd.book⟩
    refine wp_region_held_drew (S := fun w' => w'.cell? ⟨db, 0, none⟩ = some (.pointer (some ⟨pb, 0, none⟩)) ∧ w'.cell? ⟨pb, 0, none⟩ = some (.int .i64 x.c0) ∧ w'.cell? ⟨pb, 1, none⟩ = some (.int .i64 x.c1) ∧ w'.cell? ⟨pb, 2, none⟩ = some (.int .i64 x.c2) ∧ w'.cell? ⟨pb, 3, none⟩ = some (.int .i64 x.last)) (by kernel_rfl) (KC.out _ _ _ _ _ D2d) (fun hHeld => ?_)
    refine tkn 0 rfl hHeld ?_
    simp only [Act.put]
    refine tkn 1 rfl hHeld ?_
    simp only [Act.put]
    refine tkn 2 rfl hHeld ?_
    simp only [Act.put]
    refine tkn 3 rfl hHeld ?_
    simp only [Act.put]
    refine tkn 4 rfl hHeld ?_
    simp only [Act.put]
    refine tkn 5 rfl hHeld ?_
    simp only [Act.put]
    refine tkn 6 rfl hHeld ?_
    simp only [Act.put]
    refine tkn 7 rfl hHeld ?_
    simp only [Act.put]
    refine tkn 8 rfl hHeld ?_
    simp only [Act.put]
    refine tkn 9 rfl hHeld ?_
    simp only [Act.put]
    refine tkn 10 rfl hHeld ?_
    simp only [Act.put]
    refine tkn 11 rfl hHeld ?_
    simp only [Act.put]
    refine tkn 12 rfl hHeld ?_
    simp only [Act.put]
    refine tkn 13 rfl hHeld ?_
    simp only [Act.put]
    have dc := hD.blk.cell
    have df := hD.blk.fr
    refine exn 14 rfl fun K hK => ?_
    go_simp
    have D3 := hD.lay0 x
    have G3 := (((((Gr.refl (some db) w2).set (p := ⟨db, 1, none⟩) (Or.inr rfl) (.int .i64 x.c0)).set (p := ⟨db, 2, none⟩) (Or.inr rfl) (.int .i64 x.c1)).set (p := ⟨db, 3, none⟩) (Or.inr rfl) (.int .i64 x.c2)).set (p := ⟨db, 4, none⟩) (Or.inr rfl) (.int .i64 x.last))
    clear hHeld dc df
    refine hK.out _ _ (KC.out _ _ _ _ _ (D3.ext (Ext.refl _).drew)) (fun hHeld => ?_)
    clear hK K
    refine wpAnyH_done (by kernel_rfl) ?_ _
    clear hHeld
    go_wp2_with fail
    go_roundw
    case rel => exact ⟨k + 1, by omega, by go_num, (hG.trans G3).drew, by rw [HN.out.1, HN.out.2.1, HN.out.2.2]; exact D3.ext (Ext.refl _).drew⟩
    case measure => simp [intOf]; omega
   ·have KP : Hid (∀ w', BookOk w' base pb mt mh l tx ho → w'.cell? ⟨pb, 4, none⟩ = some (.int .i64 (pgAt (pagesR l) 1).c0) ∧ w'.cell? ⟨pb, 5, none⟩ = some (.int .i64 (pgAt (pagesR l) 1).c1) ∧ w'.cell? ⟨pb, 6, none⟩ = some (.int .i64 (pgAt (pagesR l) 1).c2) ∧ w'.cell? ⟨pb, 7, none⟩ = some (.int .i64 (pgAt (pagesR l) 1).last)) := fun w' hb => by
     refine ⟨?_, ?_, ?_, ?_⟩ <;> rw [hb.blk.cell, bookCells_page _ mt mh _ (pagesR_len l) _ (by decide)] <;> rfl
    have hle := hs 1 (by decide)
    have HN := (show Hid _ from H1.out rfl)
    clear H0 H1 H2
    generalize pgAt (pagesR l) 1 = x at *
    have c0 : wr.cell? ⟨db, 0, none⟩ = some (.pointer (some ⟨pb, 0, none⟩)) := by rw [hD.blk.cell]; rfl
    obtain ⟨k0, k1, k2, k3⟩ := KP.out _ hD.book
    go_wp2_with fail
    refine (secure_no x.last wr hD hle).mono ?_
    rintro e w2 ⟨rfl, rfl⟩
    clear c0 k0 k1 k2 k3
    go_wp2_with fail
    have D2d := hD.ext (Ext.refl w2).drew
    have KC : Hid (∀ w' p' q' s' sf, DeskOk w' base db pb mt mh l tx ho p' q' s' lv sf → w'.cell? ⟨db, 0, none⟩ = some (.pointer (some ⟨pb, 0, none⟩)) ∧ w'.cell? ⟨pb, 4, none⟩ = some (.int .i64 x.c0) ∧ w'.cell? ⟨pb, 5, none⟩ = some (.int .i64 x.c1) ∧ w'.cell? ⟨pb, 6, none⟩ = some (.int .i64 x.c2) ∧ w'.cell? ⟨pb, 7, none⟩ = some (.int .i64 x.last)) := fun w' p' q' s' sf hd => ⟨by rw [hd.blk.cell]; rfl, KP.out w' hd.book⟩
    refine wp_region_held_drew (S := fun w' => w'.cell? ⟨db, 0, none⟩ = some (.pointer (some ⟨pb, 0, none⟩)) ∧ w'.cell? ⟨pb, 4, none⟩ = some (.int .i64 x.c0) ∧ w'.cell? ⟨pb, 5, none⟩ = some (.int .i64 x.c1) ∧ w'.cell? ⟨pb, 6, none⟩ = some (.int .i64 x.c2) ∧ w'.cell? ⟨pb, 7, none⟩ = some (.int .i64 x.last)) (by kernel_rfl) (KC.out _ _ _ _ _ D2d) (fun hHeld => ?_)
    refine tkn 0 rfl hHeld ?_
    simp only [Act.put]
    refine tkn 1 rfl hHeld ?_
    simp only [Act.put]
    refine tkn 2 rfl hHeld ?_
    simp only [Act.put]
    refine tkn 3 rfl hHeld ?_
    simp only [Act.put]
    refine tkn 4 rfl hHeld ?_
    simp only [Act.put]
    refine tkn 5 rfl hHeld ?_
    simp only [Act.put]
    refine tkn 6 rfl hHeld ?_
    simp only [Act.put]
    refine tkn 7 rfl hHeld ?_
    simp only [Act.put]
    refine tkn 8 rfl hHeld ?_
    simp only [Act.put]
    refine tkn 9 rfl hHeld ?_
    simp only [Act.put]
    refine tkn 10 rfl hHeld ?_
    simp only [Act.put]
    refine tkn 11 rfl hHeld ?_
    simp only [Act.put]
    refine tkn 12 rfl hHeld ?_
    simp only [Act.put]
    refine tkn 13 rfl hHeld ?_
    simp only [Act.put]
    have dc := hD.blk.cell
    have df := hD.blk.fr
    refine exn 14 rfl fun K hK => ?_
    go_simp
    have D3 := hD.lay1 x
    have G3 := (((((Gr.refl (some db) w2).set (p := ⟨db, 5, none⟩) (Or.inr rfl) (.int .i64 x.c0)).set (p := ⟨db, 6, none⟩) (Or.inr rfl) (.int .i64 x.c1)).set (p := ⟨db, 7, none⟩) (Or.inr rfl) (.int .i64 x.c2)).set (p := ⟨db, 8, none⟩) (Or.inr rfl) (.int .i64 x.last))
    clear hHeld dc df
    refine hK.out _ _ (KC.out _ _ _ _ _ (D3.ext (Ext.refl _).drew)) (fun hHeld => ?_)
    clear hK K
    refine wpAnyH_done (by kernel_rfl) ?_ _
    clear hHeld
    go_wp2_with fail
    go_roundw
    case rel => exact ⟨k + 1, by omega, by go_num, (hG.trans G3).drew, by rw [HN.out.1, HN.out.2.1, HN.out.2.2]; exact D3.ext (Ext.refl _).drew⟩
    case measure => simp [intOf]; omega
   ·have KP : Hid (∀ w', BookOk w' base pb mt mh l tx ho → w'.cell? ⟨pb, 8, none⟩ = some (.int .i64 (pgAt (pagesR l) 2).c0) ∧ w'.cell? ⟨pb, 9, none⟩ = some (.int .i64 (pgAt (pagesR l) 2).c1) ∧ w'.cell? ⟨pb, 10, none⟩ = some (.int .i64 (pgAt (pagesR l) 2).c2) ∧ w'.cell? ⟨pb, 11, none⟩ = some (.int .i64 (pgAt (pagesR l) 2).last)) := fun w' hb => by
     refine ⟨?_, ?_, ?_, ?_⟩ <;> rw [hb.blk.cell, bookCells_page _ mt mh _ (pagesR_len l) _ (by decide)] <;> rfl
    have hle := hs 2 (by decide)
    have HN := (show Hid _ from H2.out rfl)
    clear H0 H1 H2
    generalize pgAt (pagesR l) 2 = x at *
    have c0 : wr.cell? ⟨db, 0, none⟩ = some (.pointer (some ⟨pb, 0, none⟩)) := by rw [hD.blk.cell]; rfl
    obtain ⟨k0, k1, k2, k3⟩ := KP.out _ hD.book
    go_wp2_with fail
    refine (secure_no x.last wr hD hle).mono ?_
    rintro e w2 ⟨rfl, rfl⟩
    clear c0 k0 k1 k2 k3
    go_wp2_with fail
    have D2d := hD.ext (Ext.refl w2).drew
    have KC : Hid (∀ w' p' q' s' sf, DeskOk w' base db pb mt mh l tx ho p' q' s' lv sf → w'.cell? ⟨db, 0, none⟩ = some (.pointer (some ⟨pb, 0, none⟩)) ∧ w'.cell? ⟨pb, 8, none⟩ = some (.int .i64 x.c0) ∧ w'.cell? ⟨pb, 9, none⟩ = some (.int .i64 x.c1) ∧ w'.cell? ⟨pb, 10, none⟩ = some (.int .i64 x.c2) ∧ w'.cell? ⟨pb, 11, none⟩ = some (.int .i64 x.last)) := fun w' p' q' s' sf hd => ⟨by rw [hd.blk.cell]; rfl, KP.out w' hd.book⟩
    refine wp_region_held_drew (S := fun w' => w'.cell? ⟨db, 0, none⟩ = some (.pointer (some ⟨pb, 0, none⟩)) ∧ w'.cell? ⟨pb, 8, none⟩ = some (.int .i64 x.c0) ∧ w'.cell? ⟨pb, 9, none⟩ = some (.int .i64 x.c1) ∧ w'.cell? ⟨pb, 10, none⟩ = some (.int .i64 x.c2) ∧ w'.cell? ⟨pb, 11, none⟩ = some (.int .i64 x.last)) (by kernel_rfl) (KC.out _ _ _ _ _ D2d) (fun hHeld => ?_)
    refine tkn 0 rfl hHeld ?_
    simp only [Act.put]
    refine tkn 1 rfl hHeld ?_
    simp only [Act.put]
    refine tkn 2 rfl hHeld ?_
    simp only [Act.put]
    refine tkn 3 rfl hHeld ?_
    simp only [Act.put]
    refine tkn 4 rfl hHeld ?_
    simp only [Act.put]
    refine tkn 5 rfl hHeld ?_
    simp only [Act.put]
    refine tkn 6 rfl hHeld ?_
    simp only [Act.put]
    refine tkn 7 rfl hHeld ?_
    simp only [Act.put]
    refine tkn 8 rfl hHeld ?_
    simp only [Act.put]
    refine tkn 9 rfl hHeld ?_
    simp only [Act.put]
    refine tkn 10 rfl hHeld ?_
    simp only [Act.put]
    refine tkn 11 rfl hHeld ?_
    simp only [Act.put]
    refine tkn 12 rfl hHeld ?_
    simp only [Act.put]
    refine tkn 13 rfl hHeld ?_
    simp only [Act.put]
    have dc := hD.blk.cell
    have df := hD.blk.fr
    refine exn 14 rfl fun K hK => ?_
    go_simp
    have D3 := hD.lay2 x
    have G3 := (((((Gr.refl (some db) w2).set (p := ⟨db, 9, none⟩) (Or.inr rfl) (.int .i64 x.c0)).set (p := ⟨db, 10, none⟩) (Or.inr rfl) (.int .i64 x.c1)).set (p := ⟨db, 11, none⟩) (Or.inr rfl) (.int .i64 x.c2)).set (p := ⟨db, 12, none⟩) (Or.inr rfl) (.int .i64 x.last))
    clear hHeld dc df
    refine hK.out _ _ (KC.out _ _ _ _ _ (D3.ext (Ext.refl _).drew)) (fun hHeld => ?_)
    clear hK K
    refine wpAnyH_done (by kernel_rfl) ?_ _
    clear hHeld
    go_wp2_with fail
    go_roundw
    case rel => exact ⟨k + 1, by omega, by go_num, (hG.trans G3).drew, by rw [HN.out.1, HN.out.2.1, HN.out.2.2]; exact D3.ext (Ext.refl _).drew⟩
    case measure => simp [intOf]; omega
  ·obtain rfl : k = xs.length := by omega
   rw [HA.out] at hD
   clear HT0 HT1 HT2 HZ
   go_wp2_with fail
   go_ret
   exact ⟨rfl, hG, hD⟩
theorem pages_last {l : List Rc} (hR : Right l) {i : Nat} (hi : i < 3) : (pgAt (pagesR l) i).last ≤ (l.length : Nat) := (page_told i hi l hR).1.2
theorem leave_any {base b0 db pb mt mh : Nat} {l : List Rc} {tx : List TxE} {ho : List HE} {p q s : Pg} {lv : Value} {safe : Int} {a : Option Addr} (cb : Nat) (xs : List Int) (cap : Nat) (w : World) (h : DeskOk w base db pb mt mh l tx ho p q s lv safe) (C : Blk w cb #[.pointer (some ⟨db, 0, none⟩)] 167) (I : Ints b0 w a xs)
  (hx : ∀ x ∈ xs, x = 0 ∨ x = 1 ∨ x = 2) (hl : xs.length ≤ 1000) (hs : safe ≤ (l.length : Nat)) :
  Calls Tryz.prog 112 #[.pointer (some ⟨cb, 0, none⟩), .slice a xs.length cap] w fun e w' => e = .returned (.int .i64 0) ∧ Gr (some db) w w' ∧
   DeskOk w' base db pb mt mh l tx ho (laidPg l (xs.contains 0) 0 p) (laidPg l (xs.contains 1) 1 q) (laidPg l (xs.contains 2) 2 s) lv (l.length : Nat) := by
 have hR := h.book.right
 have h60 := right_len l hR
 have HM : Hid (maxI safe (l.length : Nat) = (l.length : Nat)) := by
  unfold Hid maxI
  split <;> omega
 have hnd := I.notDesk h
 have hcd : cb ≠ db := by rintro rfl; exact absurd (blk_eq C h.blk) (by decide)
 have HLay : Hid (∀ W, DeskOk W base db pb mt mh l tx ho p q s lv (l.length : Nat) → Ints b0 W a xs → Calls Tryz.prog 108 #[.pointer (some ⟨db, 0, none⟩), .slice a xs.length cap] W fun e w' => e = .returned (.int .i64 0) ∧ Gr (some db) W w' ∧
   DeskOk w' base db pb mt mh l tx ho (laidPg l (xs.contains 0) 0 p) (laidPg l (xs.contains 1) 1 q) (laidPg l (xs.contains 2) 2 s) lv (l.length : Nat)) := fun W hW hI => layMany_any xs cap W hW hI hx hl (fun i hi => pages_last hR hi)
 generalize laidPg l (xs.contains 0) 0 p = P at *
 generalize laidPg l (xs.contains 1) 1 q = Q at *
 generalize laidPg l (xs.contains 2) 2 s = S at *
 have HI := (show Hid (Ints b0 w a xs) from I)
 clear I hx
 generalize xs.length = n at *
 go_enter Tryz.func112, Tryz.ntmps112
 go_wp2_with fail
 have KC : Hid (∀ W p' q' s' sf, DeskOk W base db pb mt mh l tx ho p' q' s' lv sf → Blk W cb #[.pointer (some ⟨db, 0, none⟩)] 167 → W.cell? ⟨cb, 0, none⟩ = some (.pointer (some ⟨db, 0, none⟩)) ∧ W.cell? ⟨db, 0, none⟩ = some (.pointer (some ⟨pb, 0, none⟩)) ∧ W.cell? ⟨pb, 14, none⟩ = some (.int .i64 (l.length : Nat))) := fun W p' q' s' sf hd hc => ⟨by rw [hc.cell]; rfl, by rw [hd.blk.cell]; rfl, by rw [hd.book.blk.cell]; exact (bookCells_12 _ mt mh _ (pagesR_len l)).2.2⟩
 refine wp_region_held_drew (S := fun W => W.cell? ⟨cb, 0, none⟩ = some (.pointer (some ⟨db, 0, none⟩)) ∧ W.cell? ⟨db, 0, none⟩ = some (.pointer (some ⟨pb, 0, none⟩)) ∧ W.cell? ⟨pb, 14, none⟩ = some (.int .i64 (l.length : Nat))) (by kernel_rfl) (KC.out _ _ _ _ _ (h.ext (Ext.refl w).drew) C.drew) (fun hHeld => ?_)
 refine tkn 0 rfl hHeld ?_
 simp only [Act.put]
 refine tkn 1 rfl hHeld ?_
 simp only [Act.put]
 refine tkn 2 rfl hHeld ?_
 simp only [Act.put]
 refine tkn 3 rfl hHeld ?_
 simp only [Act.put]
 refine tkn 4 rfl hHeld ?_
 simp only [Act.put]
 refine tkn 5 rfl hHeld ?_
 simp only [Act.put]
 refine tkn 6 rfl hHeld ?_
 simp only [Act.put]
 refine tkn 7 rfl hHeld ?_
 simp only [Act.put]
 refine tkn 8 rfl hHeld ?_
 simp only [Act.put]
 refine tkn 9 rfl hHeld ?_
 simp only [Act.put]
 refine tkn 10 rfl hHeld ?_
 simp only [Act.put]
 refine tkn 11 rfl hHeld ?_
 simp only [Act.put]
 refine tkn 12 rfl hHeld ?_
 simp only [Act.put]
 refine tkn 13 rfl hHeld ?_
 simp only [Act.put]
 refine exn 14 rfl fun K hK => ?_
 go_simp
 refine (secure_gr (l.length : Nat) _ (h.ext (Ext.refl w).drew)).mono ?_
 rintro e w2 ⟨rfl, hG, hD⟩
 rw [HM.out] at hD
 have C2 := (Blk.drew C).gr hG (by simpa using hcd)
 have G2 : Gr (some db) w w2 := ((Gr.refl (some db) w).drew).trans hG
 have I2 := HI.out.gr G2 hnd
 go_wp2_with fail
 clear hHeld
 refine hK.out _ _ (KC.out _ _ _ _ _ hD C2) (fun hHeld => ?_)
 clear hK K hHeld
 refine wpAnyH_done (by kernel_rfl) ?_ _
 have c2 := C2.cell
 clear h C HM HI hnd hG KC
 go_wp2_with fail
 refine (HLay.out _ hD I2).mono ?_
 rintro e w3 ⟨rfl, hG3, hD3⟩
 go_wp2_with fail
 go_ret
 exact ⟨rfl, G2.trans hG3, hD3⟩
theorem make3 (V : World) : (Instr.makeSlice 61 (.int .i64 3) (.int .i64 3)).run Tryz.prog V = .ok (.slice (some ⟨V.heap.size, 0, none⟩) 3 3) (V.alloc (.cells #[.int .i64 0, .int .i64 0, .int .i64 0] 3)) := by
 obtain ⟨i0, hi, hz0, hz1, hz2⟩ := info_parts infoInt
 have h := run_makeSlice (P := Tryz.prog) V 61 3 i0 _ Tryz.underlying61 hi hz0 .i64 .i64 3 3 (by decide) (by decide) (by rw [hz1]; decide) (by rw [hz2]; decide) (by decide)
 rw [hz1] at h
 have e : madeCells (Value.int .i64 0).cells (Int.toNat 3 * 1) = #[.int .i64 0, .int .i64 0, .int .i64 0] := by kernel_rfl
 rw [e] at h
 exact h
def everyTo : Nat → List Int
 | 0 => [0, 0, 0]
 | 1 => [0, 0, 0]
 | 2 => [0, 1, 0]
 | _ => [0, 1, 2]
theorem everyPage_any (w : World) :
  Calls Tryz.prog 113 #[] w fun e w' => ∃ b cap, e = .returned (.slice (some ⟨b, 0, none⟩) 3 cap) ∧ Ext w w' ∧ Ints w.heap.size w' (some ⟨b, 0, none⟩) [0, 1, 2] := by
 have hm := make3 w
 have E0 := (Ext.refl w).alloc (.cells #[.int .i64 0, .int .i64 0, .int .i64 0] 3)
 have B0 := Blk.new w w.heap.size #[.int .i64 0, .int .i64 0, .int .i64 0] 3 rfl
 go_enter Tryz.func113, Tryz.ntmps113
 go_wp2_with fail
 clear hm
 go_loopw [6] (fun i wr => ∃ k : Nat, k ≤ 3 ∧ i = .int .i64 k ∧ Ext w wr ∧ Blk wr w.heap.size (ints (everyTo k)) 3) (fun i _ => 3 - (intOf i).toNat)
 case atStart => exact ⟨0, by omega, rfl, E0, B0⟩
 case round =>
  obtain ⟨k, hk, rfl, hE, B⟩ := hrel
  have hc : k = 0 ∨ k = 1 ∨ k = 2 ∨ k = 3 := by omega
  have c := B.cell
  have f := B.fr
  rcases hc with rfl | rfl | rfl | rfl
  ·have B2 := B.set 0 (.int .i64 0)
   go_wp2_with fail
   go_roundw
   case rel => exact ⟨1, by omega, rfl, hE.setCell (p := ⟨w.heap.size, 0, none⟩) (Nat.le_refl _) _, B2⟩
   case measure => simp [intOf]
  ·have B2 := B.set 1 (.int .i64 1)
   go_wp2_with fail
   go_roundw
   case rel => exact ⟨2, by omega, rfl, hE.setCell (p := ⟨w.heap.size, 1, none⟩) (Nat.le_refl _) _, B2⟩
   case measure => simp [intOf]
  ·have B2 := B.set 2 (.int .i64 2)
   go_wp2_with fail
   go_roundw
   case rel => exact ⟨3, by omega, rfl, hE.setCell (p := ⟨w.heap.size, 2, none⟩) (Nat.le_refl _) _, B2⟩
   case measure => simp [intOf]
  ·go_wp2_with fail
   go_ret
   exact ⟨w.heap.size, 3, rfl, hE, (ints_at B).low (Nat.le_refl _)⟩
end Go.Proofs.YtibfgbmhmdggmaaGreatDoor.B
