/- The contracts of the crew's latest and next. · The contract of the crew's next: the record that is lacking first. -/
import Derived.Test.YtibfgbmhmdggmaaGreatDoorScanA
import Derived.Test.YtibfgbmhmdggmaaGreatDoorRoll1
import Derived.RegionIn
namespace Go.Proofs.YtibfgbmhmdggmaaGreatDoor.B
set_option maxHeartbeats 32000000
set_option maxRecDepth 100000
open Go.ChangeShapes Go.WideShapes Go.ChangeAt Go.RowKit Go.Shelf
attribute [local go_sem] Oper.semAt_some
def latF (l : List Rc) (s : Int × Nat) (t : Int) : Int × Nat := if s.2 < lastR l t then (t, lastR l t) else s
def latOf (l : List Rc) (ts : List Int) : Int × Nat := ts.foldl (latF l) (0, 0)
theorem latOf_snoc (l : List Rc) (ts : List Int) (t : Int) : latOf l (ts ++ [t]) = latF l (latOf l ts) t := by unfold latOf; rw [List.foldl_append]; rfl
theorem latOf_best (l : List Rc) : ∀ ts : List Int, (∀ t ∈ ts, lastR l t ≠ 0 ∧ t ≠ 0) → latOf l ts = (bestOf l ts, if bestOf l ts = 0 then 0 else lastR l (bestOf l ts)) := list_snoc _ (fun _ => rfl) fun ts t ih h => by
 have h1 := h t (by simp)
 rw [latOf_snoc, ih (fun u hu => h u (List.mem_append_left _ hu)), bestOf_snoc]
 unfold latF betterR
 by_cases hb : bestOf l ts = 0
 ·rw [if_pos hb, if_pos (Or.inl hb), if_pos (by show 0 < lastR l t; omega), if_neg h1.2]
 ·rw [if_neg hb]
  by_cases hlt : lastR l (bestOf l ts) < lastR l t
  ·rw [if_pos (by exact hlt), if_pos (Or.inr hlt), if_neg h1.2]
  ·rw [if_neg (by exact hlt), if_neg (by rintro (h | h); exact hb h; exact hlt h), if_neg hb]
theorem lat_best (l : List Rc) : (latOf l (losersR l)).1 = bestR l := by
 rw [latOf_best l (losersR l) (fun t ht => by
  obtain ⟨h1, h2⟩ := losersR_mem.1 ht
  refine ⟨fun h0 => ?_, by omega⟩
  have := stateR_0 h0
  unfold Hangs at h2
  omega)]
 rfl
theorem blk_own {β : Type} (B : Nat) (t : TypeId) (f : β → Array Value) : Own (fun s W => Blk W B (f s) t) := fun s X Y row hs hg hrow => by
 have hlt := Blk.lt hs
 refine (hg.block B hlt (fun e => ?_)).trans hs
 obtain ⟨o, ho, hc⟩ := hrow B e.symm
 rw [show X.heap[B]? = _ from hs] at ho
 cases ho
 cases hc
theorem latest_any {base db pb mt mh : Nat} {l : List Rc} {tx : List TxE} {ho : List HE} {p q s : Pg} {lv : Value} {safe : Int} (cb : Nat) (w : World) (h : DeskOk w base db pb mt mh l tx ho p q s lv safe) (C : Blk w cb #[.pointer (some ⟨db, 0, none⟩)] 167) :
  Calls Tryz.prog 168 #[.pointer (some ⟨cb, 0, none⟩)] w fun e w' => e = .returned (.int .i64 (bestR l)) ∧ Ext w w' := by
 obtain ⟨sa, sm, sc, hlook⟩ := h.book.looks
 have h60 := right_len l h.book.right
 have E2 := ((Ext.refl w).alloc (.cells #[.int .i64 0] 3)).alloc (.cells #[.int .i64 0] 3)
 have c1 := (C.ext E2).cell
 have c2 : ((w.alloc (.cells #[.int .i64 0] 3)).alloc (.cells #[.int .i64 0] 3)).cell? ⟨db, 0, none⟩ = some (.pointer (some ⟨pb, 0, none⟩)) := by rw [(h.blk.ext E2).cell]; rfl
 have HB := (show Hid ((latOf l (losersR l)).1 = bestR l) from lat_best l)
 generalize bestR l = br at *
 refine (callsIn_wide (n := 9)).1 ?_
 refine callsIn_of_wp_marks Tryz.func168 rfl trivial ?_ rfl
 simp only [Tryz.ntmps168, List.size_toArray, List.length_cons, List.length_nil, Nat.reduceAdd, Nat.reduceSub, Array.replicate_succ, Array.replicate_zero, List.push_toArray, List.append_toArray, List.nil_append, List.cons_append]
 gi_wp2_with fail
 refine ⟨trivial, ?_⟩
 refine (callsIn_wide.2 (inState_any pb _ 2 2 _)).mono ?_
 rintro e w2 ⟨rfl, rfl⟩
 gi_wp2_with fail
 have b1 : Boxed (((((w.alloc (.cells #[.int .i64 0] 3)).alloc (.cells #[.int .i64 0] 3)).alloc (.cells #[.int .i64 1, .int .i64 3] 3)).alloc (.cells #[.pointer (some ⟨pb, 0, none⟩)] 128)).alloc (.cells #[.slice (some ⟨w.heap.size + 1 + 1, 0, none⟩) 2 2] 61)) w.heap.size 3 (.int .i64 0) := ((((Boxed.new w 3 (.int .i64 0)).alloc _).alloc _).alloc _).alloc _
 have b2 : Boxed (((((w.alloc (.cells #[.int .i64 0] 3)).alloc (.cells #[.int .i64 0] 3)).alloc (.cells #[.int .i64 1, .int .i64 3] 3)).alloc (.cells #[.pointer (some ⟨pb, 0, none⟩)] 128)).alloc (.cells #[.slice (some ⟨w.heap.size + 1 + 1, 0, none⟩) 2 2] 61)) (w.heap.size + 1) 3 (.int .i64 0) := by
  have := (((Boxed.new (w.alloc (.cells #[.int .i64 0] 3)) 3 (.int .i64 0)).alloc (.cells #[.int .i64 1, .int .i64 3] 3)).alloc (.cells #[.pointer (some ⟨pb, 0, none⟩)] 128)).alloc (.cells #[.slice (some ⟨w.heap.size + 1 + 1, 0, none⟩) 2 2] 61)
  rwa [World.size_alloc] at this
 have hE5 : Ext w (((((w.alloc (.cells #[.int .i64 0] 3)).alloc (.cells #[.int .i64 0] 3)).alloc (.cells #[.int .i64 1, .int .i64 3] 3)).alloc (.cells #[.pointer (some ⟨pb, 0, none⟩)] 128)).alloc (.cells #[.slice (some ⟨w.heap.size + 1 + 1, 0, none⟩) 2 2] 61)) := ((E2.alloc _).alloc _).alloc _
 have hI : InSt (((((w.alloc (.cells #[.int .i64 0] 3)).alloc (.cells #[.int .i64 0] 3)).alloc (.cells #[.int .i64 1, .int .i64 3] 3)).alloc (.cells #[.pointer (some ⟨pb, 0, none⟩)] 128)).alloc (.cells #[.slice (some ⟨w.heap.size + 1 + 1, 0, none⟩) 2 2] 61)) (w.heap.size + 1 + 1 + 1) (w.heap.size + 1 + 1 + 1 + 1) (w.heap.size + 1 + 1) 2 pb mt mh (pagesR l) (l.length : Nat) (tx.map TxE.ent) [1, 3] :=
  ⟨(Blk.new _ _ _ _ (by simp)).alloc _, Blk.new _ _ _ _ (by simp), ((Blk.new _ _ #[.int .i64 1, .int .i64 3] _ (by simp)).alloc _).alloc _, h.book.blk.ext hE5, h.book.txs.ext hE5⟩
 have hsz : (((((w.alloc (.cells #[.int .i64 0] 3)).alloc (.cells #[.int .i64 0] 3)).alloc (.cells #[.int .i64 1, .int .i64 3] 3)).alloc (.cells #[.pointer (some ⟨pb, 0, none⟩)] 128)).alloc (.cells #[.slice (some ⟨w.heap.size + 1 + 1, 0, none⟩) 2 2] 61)).heap.size = w.heap.size + 5 := by simp
 have hge : ∀ X : World, X.heap.size = w.heap.size + 5 → w.heap.size + 5 ≤ X.heap.size := fun X h => by omega
 replace hsz := hge _ hsz
 have hpl := h.book.blk.lt
 have hml := h.book.txs.lt
 have hlen := pagesR_len l
 clear h E2 c1 c2 C hge
 generalize ((((w.alloc (.cells #[.int .i64 0] 3)).alloc (.cells #[.int .i64 0] 3)).alloc (.cells #[.int .i64 1, .int .i64 3] 3)).alloc (.cells #[.pointer (some ⟨pb, 0, none⟩)] 128)).alloc (.cells #[.slice (some ⟨w.heap.size + 1 + 1, 0, none⟩) 2 2] 61) = W0 at *
 refine wpIn_rangeFunc_ownH rfl (by omega) (gf := 189) (lb := #[.pointer (some ⟨w.heap.size + 1 + 1 + 1, 0, none⟩), .pointer (some ⟨w.heap.size + 1 + 1 + 1 + 1, 0, none⟩)]) rfl trivial (enters_of Tryz.func189 (by kernel_rfl) rfl)
  (inState_stops (9 - 1) W0.heap.size [w.heap.size, w.heap.size + 1] (w.heap.size + 1 + 1 + 1) (w.heap.size + 1 + 1 + 1 + 1) (w.heap.size + 1 + 1) 2 pb mt mh (pagesR l) (l.length : Nat) (tx.map TxE.ent) [1, 3] (stateR l) (fun t => (lastR l t : Nat)) sa sm sc hlen (by decide) hlook
   (fun k hk => by simp only [List.mem_cons, List.not_mem_nil, or_false] at hk; rcases hk with rfl | rfl | rfl | rfl | rfl <;> refine ⟨by omega, ?_⟩ <;> simp <;> omega) W0 (by omega) (Nat.le_refl _) hI)
  (fun h k => h.trans k) (offK_b (Nat.le_refl _)) (Below.refl _ _) (fun _ => rfl)
  (fun pre W => (Boxed W w.heap.size 3 (.int .i64 (latOf l pre).1) ∧ Boxed W (w.heap.size + 1) 3 (.int .i64 ((latOf l pre).2 : Nat))) ∧ (Below w.heap.size w W ∧ W0.heap.size ≤ W.heap.size))
  (fun _ _ _ => False)
  (OwnFrom.and (OwnFrom.and (Own.from (boxed_own _ _ (fun pre => .int .i64 (latOf l pre).1)) _) (Own.from (boxed_own _ _ (fun pre => .int .i64 ((latOf l pre).2 : Nat))) _)) (OwnFrom.and (ownFrom_below (Nat.le_refl _) (by omega)) (fun _ _ _ _ hs hg _ => Nat.le_trans hs hg.size)))
  (fun _ _ _ _ _ hs _ _ => hs)
  ⟨⟨b1, b2⟩, hE5, Nat.le_refl _⟩
  (fun x a' W => ∃ bx : Nat, W0.heap.size ≤ bx ∧ Blk W bx #[.int .i64 (stateR l x), .int .i64 (lastR l x : Nat), .slice (sa x) (sm x) (sc x)] 150 ∧ a' = { tmps := #[.pointer (some ⟨cb, 0, none⟩), undef, .int .i64 0, .pointer (some ⟨w.heap.size, 0, none⟩), .pointer (some ⟨w.heap.size + 1, 0, none⟩), .int .i64 x, .pointer (some ⟨bx, 0, none⟩), .pointer (some ⟨cb, 0, none⟩), .pointer (some ⟨cb, 0, none⟩), .pointer (some ⟨cb, 0, none⟩), .pointer (some ⟨db, 0, none⟩), .pointer (some ⟨db, 0, none⟩), .pointer (some ⟨db, 0, none⟩), .pointer (some ⟨pb, 0, none⟩), .slice (some ⟨w.heap.size + 1 + 1, 0, none⟩) 2 2, .func (.func 189) #[] #[.pointer (some ⟨w.heap.size + 1 + 1 + 1, 0, none⟩), .pointer (some ⟨w.heap.size + 1 + 1 + 1 + 1, 0, none⟩)], .int .i64 x, txOf (stateR l) (fun t => (lastR l t : Nat)) sa sm sc x, undef, undef, undef, undef, undef, undef, undef, undef], defers := [] })
  (fun x a' _ X Y row hs hg hr => by
   obtain ⟨bx, h1, h2, h3⟩ := hs
   exact ⟨bx, h1, blk_own bx 150 (fun _ : Unit => #[.int .i64 (stateR l x), .int .i64 (lastR l x : Nat), .slice (sa x) (sm x) (sc x)]) () X Y row h2 hg (fun r e => (hr r e).2), h3⟩)
  ?assign ?body ?done ?stop
 case assign =>
  rintro l' pre x W K ⟨⟨i1, i2⟩, hB, hW⟩ hK
  gi_wp2_with fail
  refine hK _ _ ((KeepsOthers.alloc _ _).from _) ((Off.refl _ _ W).alloc hW _) ⟨⟨i1.alloc _, i2.alloc _⟩, Below.alloc hB hB.size _, by simp; omega⟩ ⟨W.heap.size, hW, Blk.new W W.heap.size _ _ rfl, rfl⟩
 case body =>
  rintro l' pre x a' W _ _ ⟨⟨i1, i2⟩, hB, hW⟩ ⟨bx, hbx, bX, rfl⟩ hlt
  have v1 := i1.cell
  have v2 := i2.cell
  have f1 := i1.frozen
  have f2 := i2.frozen
  have x1 : W.cell? ⟨bx, 1, none⟩ = some (.int .i64 (lastR l x : Nat)) := by rw [bX.cell]; rfl
  have HS := (show Hid (latOf l (pre ++ [x]) = latF l (latOf l pre) x) from latOf_snoc l pre x)
  generalize hlt2 : latOf l pre = lt at *
  obtain ⟨lo, la⟩ := lt
  dsimp only at i1 i2 v1 v2
  generalize hlx : lastR l x = lx at *
  have HLX := (show Hid (lastR l x = lx) from hlx)
  clear hlx hlt2
  by_cases hc : la < lx
  ·have hc' : (la : Int) < (lx : Int) := by omega
   have HSk : Hid (latOf l (pre ++ [x]) = (x, lx)) := by rw [Hid, HS.out]; unfold latF; rw [HLX.out, if_pos hc]
   have hmx : Tryz.prog.follows .mixedOrders = true := by kernel_rfl
   gi_wp2_with fail
   have j1 : Boxed ((W.setCell ⟨w.heap.size, 0, none⟩ (.int .i64 x)).setCell ⟨w.heap.size + 1, 0, none⟩ (.int .i64 (lx : Nat))).drew w.heap.size 3 (.int .i64 x) := (i1.set (.int .i64 x)).other (by omega) _
   have j2 : Boxed ((W.setCell ⟨w.heap.size, 0, none⟩ (.int .i64 x)).setCell ⟨w.heap.size + 1, 0, none⟩ (.int .i64 (lx : Nat))).drew (w.heap.size + 1) 3 (.int .i64 (lx : Nat)) := (i2.other (by omega) _).set _
   have jB := Ext.drew (Ext.setCell (Ext.setCell hB (p := ⟨w.heap.size, 0, none⟩) (Nat.le_refl _) (.int .i64 x)) (p := ⟨w.heap.size + 1, 0, none⟩) (by simp) (.int .i64 (lx : Nat)))
   have jO := (((Off.refl W0.heap.size [w.heap.size, w.heap.size + 1] W).set (p := ⟨w.heap.size, 0, none⟩) (Or.inl (by simp)) (.int .i64 x)).set (p := ⟨w.heap.size + 1, 0, none⟩) (Or.inl (by simp)) (.int .i64 (lx : Nat))).drew
   have jK := (((KeepsOthers.setCell W ⟨w.heap.size, 0, none⟩ (.int .i64 x)).trans (KeepsOthers.setCell _ ⟨w.heap.size + 1, 0, none⟩ (.int .i64 (lx : Nat)))).trans (KeepsOthers.drew _)).from W0.heap.size
   gi_region_with_o (fail)
   all_goals gi_wp2_with fail
   all_goals exact ⟨jK, jO, ⟨by rw [HSk.out]; exact j1, by rw [HSk.out]; exact j2⟩, jB, Nat.le_trans hW jO.size⟩
  ·have hc' : ¬ (la : Int) < (lx : Int) := by omega
   have HSk : Hid (latOf l (pre ++ [x]) = (lo, la)) := by rw [Hid, HS.out]; unfold latF; rw [HLX.out, if_neg hc]
   gi_wp2_with fail
   exact ⟨KeepsFrom.refl _ _, Off.refl _ _ _, ⟨by rw [HSk.out]; exact i1, by rw [HSk.out]; exact i2⟩, hB, hW⟩
 case done =>
  rintro D ys W hD rfl ⟨⟨i1, i2⟩, hB, hW⟩ hK
  have v1 := i1.cell
  have HA := (show Hid (ofState [1, 3] (stateR l) 9 = losersR l) from ofState_losers l)
  gi_wp2_with fail
  refine ⟨by simp, .inl ⟨_, _, rfl, run_takeDeferred hK, ?_⟩⟩
  have hE2 := belowK_b (n₀ := w.heap.size) (w := w) (Nat.le_refl _) W D _ (.deferred none) (by omega) hK rfl rfl
  exact ⟨_, results_tmp rfl _ _ _, by rw [HA.out, HB.out]; rfl, hB.trans hE2⟩
 case stop =>
  rintro D c pre W _ _ h _
  exact h.elim
end Go.Proofs.YtibfgbmhmdggmaaGreatDoor.B
namespace Go.Proofs.YtibfgbmhmdggmaaGreatDoor.B
set_option maxHeartbeats 32000000
set_option maxRecDepth 100000
open Go.ChangeShapes Go.WideShapes Go.ChangeAt Go.RowKit Go.Shelf
attribute [local go_sem] Oper.semAt_some
theorem ofState_more (zs : List Int) (st : Int → Int) (k : Nat) : ∀ m, ∃ ys, ofState zs st (k + m) = ofState zs st k ++ ys := by
 intro m
 induction m with
 | zero => exact ⟨[], by simp⟩
 | succ m ih =>
  obtain ⟨ys, h⟩ := ih
  rw [← Nat.add_assoc, ofState_succ]
  split
  ·exact ⟨ys ++ [((k + m : Nat) : Int) + 1], by rw [h, List.append_assoc]⟩
  ·exact ⟨ys, h⟩
theorem firstR_head (l : List Rc) : firstR l = (ofState [2] (stateR l) 9).head?.getD 0 := by
 unfold firstR
 rw [← List.head?_filter]
 have h1 : ((List.range 9).map fun j : Nat => (j : Int) + 1) = txnsL := rfl
 unfold ofState
 rw [h1]
 congr 3
 funext t
 simp only [List.contains_cons, List.contains_nil, Bool.or_false]
theorem firstR_none {l : List Rc} (h : ofState [2] (stateR l) 9 = []) : firstR l = 0 := by rw [firstR_head, h]; rfl
theorem firstR_some {l : List Rc} {k : Nat} {x : Int} (hk : k < 9) (hc : [2].contains (stateR l ((k : Int) + 1)) = true) (h : [x] = ofState [2] (stateR l) (k + 1)) : firstR l = x ∧ x ≠ 0 := by
 obtain ⟨ys, hy⟩ := ofState_more [2] (stateR l) (k + 1) (9 - (k + 1))
 rw [show k + 1 + (9 - (k + 1)) = 9 from by omega, ← h] at hy
 refine ⟨by rw [firstR_head, hy]; rfl, ?_⟩
 rw [ofState_succ, hc, if_pos rfl] at h
 have := List.append_inj_right' (s₁ := []) (t₁ := [x]) (s₂ := ofState [2] (stateR l) k) (t₂ := [(k : Int) + 1]) h rfl
 injection this with this
 omega
def nextAns (l : List Rc) : Rc := if isNext l then mendRec l else zRc
theorem next_first {l : List Rc} (h : firstR l ≠ 0) : isNext l = true ∧ nextAns l = endOf l (firstR l) := by
 have : isNext l = true := by unfold isNext; simp [h]
 exact ⟨this, by unfold nextAns; rw [this, if_pos rfl, mendRec_first h]⟩
theorem next_best {l : List Rc} (h : firstR l = 0) (hb : bestR l ≠ 0) : isNext l = true ∧ nextAns l = rollRec l (bestR l) := by
 have : isNext l = true := by unfold isNext; simp [hb]
 exact ⟨this, by unfold nextAns; rw [this, if_pos rfl, mendRec_best h]⟩
theorem next_none {l : List Rc} (h : firstR l = 0) (hb : bestR l = 0) : isNext l = false ∧ nextAns l = zRc := by
 have : isNext l = false := by unfold isNext; simp [h, hb]
 exact ⟨this, by unfold nextAns; rw [this]; rfl⟩
theorem step_best {l : List Rc} (hR : Right l) (hb : bestR l ≠ 0) : stepAns l (bestR l) = (rollRec l (bestR l), 0) := by
 obtain ⟨ht, hs⟩ := bestR_mem hb
 have h0 := rollErr_of ht hs
 unfold stepAns
 rw [if_pos (logErr_of hR), h0, nextRec_ok h0]
abbrev put9 (w : World) (b : Nat) (x0 x1 x2 x3 x4 x5 x6 x7 y : Value) : World := (((((((((w.setCell ⟨b, 0, none⟩ x0).setCell ⟨b, 1, none⟩ x1).setCell ⟨b, 2, none⟩ x2).setCell ⟨b, 3, none⟩ x3).setCell ⟨b, 4, none⟩ x4).setCell ⟨b, 5, none⟩ x5).setCell ⟨b, 6, none⟩ x6).setCell ⟨b, 7, none⟩ x7).setCell ⟨b + 1, 0, none⟩ y)
theorem put9_ext {a w : World} (h : Ext a w) (b : Nat) (hb : a.heap.size ≤ b) (x0 x1 x2 x3 x4 x5 x6 x7 y : Value) : Ext a (put9 w b x0 x1 x2 x3 x4 x5 x6 x7 y) := (((((((((h.setCell (p := ⟨b, 0, none⟩) hb x0).setCell (p := ⟨b, 1, none⟩) hb x1).setCell (p := ⟨b, 2, none⟩) hb x2).setCell (p := ⟨b, 3, none⟩) hb x3).setCell (p := ⟨b, 4, none⟩) hb x4).setCell (p := ⟨b, 5, none⟩) hb x5).setCell (p := ⟨b, 6, none⟩) hb x6).setCell (p := ⟨b, 7, none⟩) hb x7).setCell (p := ⟨b + 1, 0, none⟩) (by simp; omega) y)
theorem put9_blk {w : World} {b : Nat} {y0 y1 y2 y3 y4 y5 y6 y7 : Value} {t : TypeId} (h : Blk w b #[y0, y1, y2, y3, y4, y5, y6, y7] t) (x0 x1 x2 x3 x4 x5 x6 x7 y : Value) : Blk (put9 w b x0 x1 x2 x3 x4 x5 x6 x7 y) b #[x0, x1, x2, x3, x4, x5, x6, x7] t := by
 have h2 := (((((((((h.set 0 x0).set 1 x1).set 2 x2).set 3 x3).set 4 x4).set 5 x5).set 6 x6).set 7 x7).other ⟨b + 1, 0, none⟩ y (by simp))
 simpa using h2
theorem put9_box {w : World} {b : Nat} {z : Value} {t : TypeId} (h : Blk w (b + 1) #[z] t) (x0 x1 x2 x3 x4 x5 x6 x7 y : Value) : Blk (put9 w b x0 x1 x2 x3 x4 x5 x6 x7 y) (b + 1) #[y] t := by
 have h2 := (((((((((h.other ⟨b, 0, none⟩ x0 (by simp)).other ⟨b, 1, none⟩ x1 (by simp)).other ⟨b, 2, none⟩ x2 (by simp)).other ⟨b, 3, none⟩ x3 (by simp)).other ⟨b, 4, none⟩ x4 (by simp)).other ⟨b, 5, none⟩ x5 (by simp)).other ⟨b, 6, none⟩ x6 (by simp)).other ⟨b, 7, none⟩ x7 (by simp)).set 0 y)
 simpa using h2
theorem put9_others (w : World) (b : Nat) (x0 x1 x2 x3 x4 x5 x6 x7 y : Value) : KeepsOthers w (put9 w b x0 x1 x2 x3 x4 x5 x6 x7 y) :=
 ((((((((KeepsOthers.setCell w ⟨b, 0, none⟩ x0).trans (KeepsOthers.setCell _ ⟨b, 1, none⟩ x1)).trans (KeepsOthers.setCell _ ⟨b, 2, none⟩ x2)).trans (KeepsOthers.setCell _ ⟨b, 3, none⟩ x3)).trans (KeepsOthers.setCell _ ⟨b, 4, none⟩ x4)).trans (KeepsOthers.setCell _ ⟨b, 5, none⟩ x5)).trans (KeepsOthers.setCell _ ⟨b, 6, none⟩ x6)).trans (KeepsOthers.setCell _ ⟨b, 7, none⟩ x7)).trans (KeepsOthers.setCell _ ⟨b + 1, 0, none⟩ y)
theorem blk_put {W : World} {k D : Nat} {c : Array Value} {t : TypeId} (h : Blk W k c t) {o : Obj} (o' : Obj) (hD : W.heap[D]? = some o) (ho : o.isCells = false) : Blk (W.putObj D o') k c t := by
 unfold Blk at *
 rw [World.putObj_heap_other (by rintro rfl; rw [h] at hD; cases hD; cases ho)]
 exact h
theorem crewNext_any {base db pb mt mh : Nat} {l : List Rc} {tx : List TxE} {ho : List HE} {p q s : Pg} {lv : Value} {safe : Int} (cb : Nat) (w : World) (h : DeskOk w base db pb mt mh l tx ho p q s lv safe) (C : Blk w cb #[.pointer (some ⟨db, 0, none⟩)] 167) :
  Calls Tryz.prog 136 #[.pointer (some ⟨cb, 0, none⟩)] w fun e w' => e = .returned (.tuple #[(nextAns l).val, .bool (isNext l)]) ∧ Ext w w' := by
 obtain ⟨sa, sm, sc, hlook⟩ := h.book.looks
 have h60 := right_len l h.book.right
 have E2 := ((Ext.refl w).alloc (.cells #[.int .i64 0, .int .i64 0, .int .i64 0, .int .i64 0, .int .i64 0, .int .i64 0, .int .i64 0, .int .i64 0] 81)).alloc (.cells #[.bool false] 4)
 have c1 := (C.ext E2).cell
 have c2 : ((w.alloc (.cells #[.int .i64 0, .int .i64 0, .int .i64 0, .int .i64 0, .int .i64 0, .int .i64 0, .int .i64 0, .int .i64 0] 81)).alloc (.cells #[.bool false] 4)).cell? ⟨db, 0, none⟩ = some (.pointer (some ⟨pb, 0, none⟩)) := by rw [(h.blk.ext E2).cell]; rfl
 have XF : Hid (firstR l ≠ 0 → isNext l = true ∧ nextAns l = endOf l (firstR l)) := next_first
 have XB : Hid (firstR l = 0 → bestR l ≠ 0 → isNext l = true ∧ nextAns l = rollRec l (bestR l)) := next_best
 have XN : Hid (firstR l = 0 → bestR l = 0 → isNext l = false ∧ nextAns l = zRc) := next_none
 generalize nextAns l = na at *
 generalize isNext l = isn at *
 refine (callsIn_wide (n := 9)).1 ?_
 refine callsIn_of_wp_marks Tryz.func136 rfl trivial ?_ rfl
 simp only [Tryz.ntmps136, List.size_toArray, List.length_cons, List.length_nil, Nat.reduceAdd, Nat.reduceSub, Array.replicate_succ, Array.replicate_zero, List.push_toArray, List.append_toArray, List.nil_append, List.cons_append]
 gi_wp2_with fail
 refine ⟨trivial, ?_⟩
 refine (callsIn_wide.2 (inState_any pb _ 1 1 _)).mono ?_
 rintro e w2 ⟨rfl, rfl⟩
 gi_wp2_with fail
 have b1 : Blk (((((w.alloc (.cells #[.int .i64 0, .int .i64 0, .int .i64 0, .int .i64 0, .int .i64 0, .int .i64 0, .int .i64 0, .int .i64 0] 81)).alloc (.cells #[.bool false] 4)).alloc (.cells #[.int .i64 2] 3)).alloc (.cells #[.pointer (some ⟨pb, 0, none⟩)] 128)).alloc (.cells #[.slice (some ⟨w.heap.size + 1 + 1, 0, none⟩) 1 1] 61)) w.heap.size #[.int .i64 0, .int .i64 0, .int .i64 0, .int .i64 0, .int .i64 0, .int .i64 0, .int .i64 0, .int .i64 0] 81 := ((((Blk.new w _ #[.int .i64 0, .int .i64 0, .int .i64 0, .int .i64 0, .int .i64 0, .int .i64 0, .int .i64 0, .int .i64 0] _ rfl).alloc _).alloc _).alloc _).alloc _
 have b2 : Blk (((((w.alloc (.cells #[.int .i64 0, .int .i64 0, .int .i64 0, .int .i64 0, .int .i64 0, .int .i64 0, .int .i64 0, .int .i64 0] 81)).alloc (.cells #[.bool false] 4)).alloc (.cells #[.int .i64 2] 3)).alloc (.cells #[.pointer (some ⟨pb, 0, none⟩)] 128)).alloc (.cells #[.slice (some ⟨w.heap.size + 1 + 1, 0, none⟩) 1 1] 61)) (w.heap.size + 1) #[.bool false] 4 := (((Blk.new _ _ #[.bool false] _ (by simp)).alloc _).alloc _).alloc _
 have hE5 : Ext w (((((w.alloc (.cells #[.int .i64 0, .int .i64 0, .int .i64 0, .int .i64 0, .int .i64 0, .int .i64 0, .int .i64 0, .int .i64 0] 81)).alloc (.cells #[.bool false] 4)).alloc (.cells #[.int .i64 2] 3)).alloc (.cells #[.pointer (some ⟨pb, 0, none⟩)] 128)).alloc (.cells #[.slice (some ⟨w.heap.size + 1 + 1, 0, none⟩) 1 1] 61)) := ((E2.alloc _).alloc _).alloc _
 have hI : InSt (((((w.alloc (.cells #[.int .i64 0, .int .i64 0, .int .i64 0, .int .i64 0, .int .i64 0, .int .i64 0, .int .i64 0, .int .i64 0] 81)).alloc (.cells #[.bool false] 4)).alloc (.cells #[.int .i64 2] 3)).alloc (.cells #[.pointer (some ⟨pb, 0, none⟩)] 128)).alloc (.cells #[.slice (some ⟨w.heap.size + 1 + 1, 0, none⟩) 1 1] 61)) (w.heap.size + 1 + 1 + 1) (w.heap.size + 1 + 1 + 1 + 1) (w.heap.size + 1 + 1) 1 pb mt mh (pagesR l) (l.length : Nat) (tx.map TxE.ent) [2] :=
  ⟨(Blk.new _ _ _ _ (by simp)).alloc _, Blk.new _ _ _ _ (by simp), ((Blk.new _ _ #[.int .i64 2] _ (by simp)).alloc _).alloc _, h.book.blk.ext hE5, h.book.txs.ext hE5⟩
 have hsz : (((((w.alloc (.cells #[.int .i64 0, .int .i64 0, .int .i64 0, .int .i64 0, .int .i64 0, .int .i64 0, .int .i64 0, .int .i64 0] 81)).alloc (.cells #[.bool false] 4)).alloc (.cells #[.int .i64 2] 3)).alloc (.cells #[.pointer (some ⟨pb, 0, none⟩)] 128)).alloc (.cells #[.slice (some ⟨w.heap.size + 1 + 1, 0, none⟩) 1 1] 61)).heap.size = w.heap.size + 5 := by simp
 have hge : ∀ X : World, X.heap.size = w.heap.size + 5 → w.heap.size + 5 ≤ X.heap.size := fun X h => by omega
 replace hsz := hge _ hsz
 have hpl := h.book.blk.lt
 have hml := h.book.txs.lt
 have hlen := pagesR_len l
 clear E2 c1 c2 hge
 generalize ((((w.alloc (.cells #[.int .i64 0, .int .i64 0, .int .i64 0, .int .i64 0, .int .i64 0, .int .i64 0, .int .i64 0, .int .i64 0] 81)).alloc (.cells #[.bool false] 4)).alloc (.cells #[.int .i64 2] 3)).alloc (.cells #[.pointer (some ⟨pb, 0, none⟩)] 128)).alloc (.cells #[.slice (some ⟨w.heap.size + 1 + 1, 0, none⟩) 1 1] 61) = W0 at *
 refine wpIn_rangeFunc_ownH rfl (by omega) (gf := 189) (lb := #[.pointer (some ⟨w.heap.size + 1 + 1 + 1, 0, none⟩), .pointer (some ⟨w.heap.size + 1 + 1 + 1 + 1, 0, none⟩)]) rfl trivial (enters_of Tryz.func189 (by kernel_rfl) rfl)
  (inState_stops (9 - 1) W0.heap.size [w.heap.size, w.heap.size + 1] (w.heap.size + 1 + 1 + 1) (w.heap.size + 1 + 1 + 1 + 1) (w.heap.size + 1 + 1) 1 pb mt mh (pagesR l) (l.length : Nat) (tx.map TxE.ent) [2] (stateR l) (fun t => (lastR l t : Nat)) sa sm sc hlen (by decide) hlook
   (fun k hk => by simp only [List.mem_cons, List.not_mem_nil, or_false] at hk; rcases hk with rfl | rfl | rfl | rfl | rfl <;> refine ⟨by omega, ?_⟩ <;> simp <;> omega) W0 (by omega) (Nat.le_refl _) hI)
  (fun h k => h.trans k) (offK_b (Nat.le_refl _)) (Below.refl _ _) (fun _ => rfl)
  (fun pre W => (pre = [] ∧ Blk W w.heap.size #[.int .i64 0, .int .i64 0, .int .i64 0, .int .i64 0, .int .i64 0, .int .i64 0, .int .i64 0, .int .i64 0] 81 ∧ Blk W (w.heap.size + 1) #[.bool false] 4) ∧ (Below w.heap.size w W ∧ W0.heap.size ≤ W.heap.size))
  (fun c pre W => (∃ x, c = .ret ∧ pre = [x] ∧ Blk W w.heap.size #[.int .i64 4, .int .i64 x, .int .i64 (lastR l x : Nat), .int .i64 0, .int .i64 0, .int .i64 0, .int .i64 0, .int .i64 0] 81 ∧ Blk W (w.heap.size + 1) #[.bool true] 4) ∧ (Below w.heap.size w W ∧ W0.heap.size ≤ W.heap.size))
  (OwnFrom.and (OwnFrom.and (fun _ _ _ _ hs _ _ => hs) (OwnFrom.and (Own.from (blk_own _ _ (fun _ => #[.int .i64 0, .int .i64 0, .int .i64 0, .int .i64 0, .int .i64 0, .int .i64 0, .int .i64 0, .int .i64 0])) _) (Own.from (blk_own _ _ (fun _ => #[.bool false])) _))) (OwnFrom.and (ownFrom_below (Nat.le_refl _) (by omega)) (fun _ _ _ _ hs hg _ => Nat.le_trans hs hg.size)))
  (fun c => OwnFrom.and (fun _ X Y row hs hg hr => by
   obtain ⟨x, e1, e2, k1, k2⟩ := hs
   exact ⟨x, e1, e2, blk_own w.heap.size 81 (fun _ : Unit => #[.int .i64 4, .int .i64 x, .int .i64 (lastR l x : Nat), .int .i64 0, .int .i64 0, .int .i64 0, .int .i64 0, .int .i64 0]) () X Y row k1 hg (fun r e => (hr r e).2), blk_own (w.heap.size + 1) 4 (fun _ : Unit => #[.bool true]) () X Y row k2 hg (fun r e => (hr r e).2)⟩) (OwnFrom.and (ownFrom_below (Nat.le_refl _) (by omega)) (fun _ _ _ _ hs hg _ => Nat.le_trans hs hg.size)))
  ⟨⟨rfl, b1, b2⟩, hE5, Nat.le_refl _⟩
  (fun x a' W => ∃ bx : Nat, W0.heap.size ≤ bx ∧ Blk W bx #[.int .i64 (stateR l x), .int .i64 (lastR l x : Nat), .slice (sa x) (sm x) (sc x)] 150 ∧ a' = { tmps := #[.pointer (some ⟨cb, 0, none⟩), undef, .pointer (some ⟨w.heap.size, 0, none⟩), .pointer (some ⟨w.heap.size + 1, 0, none⟩), .int .i64 x, .pointer (some ⟨bx, 0, none⟩), undef, undef, undef, .pointer (some ⟨cb, 0, none⟩), .pointer (some ⟨cb, 0, none⟩), .pointer (some ⟨cb, 0, none⟩), .pointer (some ⟨db, 0, none⟩), .pointer (some ⟨db, 0, none⟩), .pointer (some ⟨db, 0, none⟩), .pointer (some ⟨pb, 0, none⟩), .slice (some ⟨w.heap.size + 1 + 1, 0, none⟩) 1 1, .func (.func 189) #[] #[.pointer (some ⟨w.heap.size + 1 + 1 + 1, 0, none⟩), .pointer (some ⟨w.heap.size + 1 + 1 + 1 + 1, 0, none⟩)], .int .i64 x, txOf (stateR l) (fun t => (lastR l t : Nat)) sa sm sc x, undef, undef, undef, undef, undef, undef, undef, undef, undef, undef, undef, undef, undef, undef, undef, undef, undef, undef, undef, undef, undef, undef], defers := [] })
  (fun x a' _ X Y row hs hg hr => by
   obtain ⟨bx, h1, h2, h3⟩ := hs
   exact ⟨bx, h1, blk_own bx 150 (fun _ : Unit => #[.int .i64 (stateR l x), .int .i64 (lastR l x : Nat), .slice (sa x) (sm x) (sc x)]) () X Y row h2 hg (fun r e => (hr r e).2), h3⟩)
  ?assign ?body ?done ?stop
 case assign =>
  rintro l' pre x W K ⟨⟨i0, i1, i2⟩, hB, hW⟩ hK
  gi_wp2_with fail
  refine hK _ _ ((KeepsOthers.alloc _ _).from _) ((Off.refl _ _ W).alloc hW _) ⟨⟨i0, i1.alloc _, i2.alloc _⟩, Below.alloc hB hB.size _, by simp; omega⟩ ⟨W.heap.size, hW, Blk.new W W.heap.size _ _ rfl, rfl⟩
 case body =>
  rintro l' pre x a' W _ _ ⟨⟨rfl, i1, i2⟩, hB, hW⟩ ⟨bx, hbx, bX, rfl⟩ hlt
  have v1 := i1.cell
  have v2 := i2.cell
  have f1 := i1.fr
  have f2 := i2.fr
  have x1 : W.cell? ⟨bx, 1, none⟩ = some (.int .i64 (lastR l x : Nat)) := by rw [bX.cell]; rfl
  have j1 := put9_blk i1 (.int .i64 4) (.int .i64 x) (.int .i64 (lastR l x : Nat)) (.int .i64 0) (.int .i64 0) (.int .i64 0) (.int .i64 0) (.int .i64 0) (.bool true)
  have j2 := put9_box i2 (.int .i64 4) (.int .i64 x) (.int .i64 (lastR l x : Nat)) (.int .i64 0) (.int .i64 0) (.int .i64 0) (.int .i64 0) (.int .i64 0) (.bool true)
  have jB := put9_ext hB w.heap.size (Nat.le_refl _) (.int .i64 4) (.int .i64 x) (.int .i64 (lastR l x : Nat)) (.int .i64 0) (.int .i64 0) (.int .i64 0) (.int .i64 0) (.int .i64 0) (.bool true)
  have jK := (put9_others W w.heap.size (.int .i64 4) (.int .i64 x) (.int .i64 (lastR l x : Nat)) (.int .i64 0) (.int .i64 0) (.int .i64 0) (.int .i64 0) (.int .i64 0) (.bool true)).from W0.heap.size
  clear XF XB XN
  gi_wp2_with fail
  exact ⟨jK, ⟨x, rfl, rfl, j1, j2⟩, jB, Nat.le_trans hW jK.size⟩
 case done =>
  rintro D ys W hD rfl ⟨⟨hys, i1, i2⟩, hB, hW⟩ hK
  have HF0 := (show Hid (firstR l = 0) from firstR_none hys)
  clear XF hys
  have hDl : D < W.heap.size := (Array.getElem?_eq_some_iff.1 hK).1
  gi_wp2_with fail
  refine ⟨trivial, ?_⟩
  refine (callsIn_wide.2 (latest_any cb _ (h.ext hB) (C.ext hB))).mono ?_
  rintro e w3 ⟨rfl, hw⟩
  have E3 : Ext w w3 := Ext.trans hB hw
  have k3 : w3.heap[D]? = some (.deferred (some [])) := (hw.block D hDl).trans hK
  have j1 := i1.ext hw
  have j2 := i2.ext hw
  have hD3 : D < w3.heap.size := Nat.lt_of_lt_of_le hDl hw.size
  clear hw i1 i2 hK hDl
  by_cases hb : bestR l = 0
  ·obtain ⟨rfl, rfl⟩ := XN.out HF0.out hb
   rw [hb]
   have v1 := j1.cell
   have v2 := j2.cell
   have f1 := j1.fr
   have f2 := j2.fr
   have m1 := put9_blk j1 (.int .i64 0) (.int .i64 0) (.int .i64 0) (.int .i64 0) (.int .i64 0) (.int .i64 0) (.int .i64 0) (.int .i64 0) (.bool false)
   have m2 := put9_box j2 (.int .i64 0) (.int .i64 0) (.int .i64 0) (.int .i64 0) (.int .i64 0) (.int .i64 0) (.int .i64 0) (.int .i64 0) (.bool false)
   have mE := put9_ext E3 w.heap.size (Nat.le_refl _) (.int .i64 0) (.int .i64 0) (.int .i64 0) (.int .i64 0) (.int .i64 0) (.int .i64 0) (.int .i64 0) (.int .i64 0) (.bool false)
   have mK := (put9_others w3 w.heap.size (.int .i64 0) (.int .i64 0) (.int .i64 0) (.int .i64 0) (.int .i64 0) (.int .i64 0) (.int .i64 0) (.int .i64 0) (.bool false)).same D _ k3 rfl
   clear XB XN
   gi_wp2_with fail
   refine ⟨by simp, .inl ⟨_, _, rfl, run_takeDeferred mK, ?_⟩⟩
   have hE9 := belowK_b (n₀ := w.heap.size) (w := w) (Nat.le_refl _) _ D _ (.deferred none) (by omega) mK rfl rfl
   have r1 := (blk_put m1 (.deferred none) mK rfl).cell
   have r2 := (blk_put m2 (.deferred none) mK rfl).cell
   exact ⟨_, by simp [results, Tryz.results136, go_sem, r1, r2], rfl, Below.trans mE hE9⟩
  ·obtain ⟨rfl, rfl⟩ := XB.out HF0.out hb
   obtain ⟨la, lcap, rfl, hrl, _, _⟩ := recs_own' h.own
   have HStep : Hid (∀ W', Ext w W' → Calls Tryz.prog 169 #[.slice la l.length lcap, .int .i64 (bestR l)] W' fun e w'' => e = .returned (.tuple #[(rollRec l (bestR l)).val, .int .i64 0]) ∧ Ext W' w'') := fun W' hW' => by
    have := rollStep_any la l.length lcap l (bestR l) W' (hrl.ext hW') (by unfold maxLen; omega)
    rw [step_best h.book.right hb] at this
    exact this
   have hbf : (bestR l == 0) = false := by simpa using hb
   obtain ⟨rr, hrr⟩ : ∃ rr, rollRec l (bestR l) = rr := ⟨_, rfl⟩
   rw [hrr] at HStep
   have HRR := (show Hid (rollRec l (bestR l) = rr) from hrr)
   clear hrr
   obtain ⟨r0, r1, r2, r3, r4, r5, r6, r7⟩ := rr
   obtain ⟨br, hbr⟩ : ∃ br, bestR l = br := ⟨_, rfl⟩
   rw [hbr] at HStep hbf ⊢
   clear hbr
   have cc := (C.ext E3).cell
   have dc := (h.blk.ext E3).cell
   clear XB XN hb hrl
   gi_wp2_with fail
   refine ⟨trivial, ?_⟩
   refine (callsIn_wide.2 (HStep.out _ E3)).mono ?_
   rintro e w4 ⟨rfl, hw⟩
   have o4 := hw.alloc (.cells #[.int .i64 r0, .int .i64 r1, .int .i64 r2, .int .i64 r3, .int .i64 r4, .int .i64 r5, .int .i64 r6, .int .i64 r7] 81)
   have E4 := E3.trans o4
   have k4 : (w4.alloc (.cells #[.int .i64 r0, .int .i64 r1, .int .i64 r2, .int .i64 r3, .int .i64 r4, .int .i64 r5, .int .i64 r6, .int .i64 r7] 81)).heap[D]? = some (.deferred (some [])) := (o4.block D hD3).trans k3
   have q1 := j1.ext o4
   have q2 := j2.ext o4
   have q1' := j1.ext hw
   have q2' := j2.ext hw
   have k4' : w4.heap[D]? = some (.deferred (some [])) := (hw.block D hD3).trans k3
   have E4' := E3.trans hw
   have hq : w.heap.size + 1 < w4.heap.size := q2'.lt
   clear hw o4 j1 j2 k3 E3 cc dc HStep
   have v1 := q1.cell
   have v2 := q2.cell
   have f1 := q1.fr
   have f2 := q2.fr
   have u1 := q1'.cell
   have u2 := q2'.cell
   have g1 := q1'.fr
   have g2 := q2'.fr
   gi_wp2_with fail
   have m1 := put9_blk q1 (.int .i64 r0) (.int .i64 r1) (.int .i64 r2) (.int .i64 r3) (.int .i64 r4) (.int .i64 r5) (.int .i64 r6) (.int .i64 r7) (.bool true)
   have m2 := put9_box q2 (.int .i64 r0) (.int .i64 r1) (.int .i64 r2) (.int .i64 r3) (.int .i64 r4) (.int .i64 r5) (.int .i64 r6) (.int .i64 r7) (.bool true)
   have mE := put9_ext E4 w.heap.size (Nat.le_refl _) (.int .i64 r0) (.int .i64 r1) (.int .i64 r2) (.int .i64 r3) (.int .i64 r4) (.int .i64 r5) (.int .i64 r6) (.int .i64 r7) (.bool true)
   have mK := (put9_others (w4.alloc (.cells #[.int .i64 r0, .int .i64 r1, .int .i64 r2, .int .i64 r3, .int .i64 r4, .int .i64 r5, .int .i64 r6, .int .i64 r7] 81)) w.heap.size (.int .i64 r0) (.int .i64 r1) (.int .i64 r2) (.int .i64 r3) (.int .i64 r4) (.int .i64 r5) (.int .i64 r6) (.int .i64 r7) (.bool true)).same D _ k4 rfl
   refine ⟨by simp, .inl ⟨_, _, rfl, run_takeDeferred mK, ?_⟩⟩
   have hE9 := belowK_b (n₀ := w.heap.size) (w := w) (Nat.le_refl _) _ D _ (.deferred none) (by omega) mK rfl rfl
   have z1 := (blk_put m1 (.deferred none) mK rfl).cell
   have z2 := (blk_put m2 (.deferred none) mK rfl).cell
   exact ⟨_, by simp [results, Tryz.results136, go_sem, z1, z2]; rfl, by rw [HRR.out], Below.trans mE hE9⟩
 case stop =>
  rintro D c pre W hD ⟨k, hk, hc, hpre⟩ ⟨⟨x, rfl, rfl, i1, i2⟩, hB, hW⟩ hK
  obtain ⟨g1, g2⟩ := firstR_some hk hc hpre
  obtain ⟨rfl, rfl⟩ := XF.out (by rw [g1]; exact g2)
  have HX := (show Hid (firstR l = x) from g1)
  clear XF XB XN g1 g2
  gi_wp2_with fail
  refine ⟨by simp, .inl ⟨_, _, rfl, run_takeDeferred hK, ?_⟩⟩
  have hE9 := belowK_b (n₀ := w.heap.size) (w := w) (Nat.le_refl _) _ D _ (.deferred none) (by omega) hK rfl rfl
  have r1 := (blk_put i1 (.deferred none) hK rfl).cell
  have r2 := (blk_put i2 (.deferred none) hK rfl).cell
  exact ⟨_, by simp [results, Tryz.results136, go_sem, r1, r2]; rfl, by rw [HX.out]; rfl, Below.trans hB hE9⟩
end Go.Proofs.YtibfgbmhmdggmaaGreatDoor.B
