/- The contracts of the crew's latest and next. -/
import Derived.Test.YtbfefocehnafgaaGreatInst
import Derived.Test.YtbfefocehnafgaaGreatScanA
import Derived.Test.YtbfefocehnafgaaGreatRoll1
import Derived.Test.YtbfefocehnafgaaGreatPlainB
import Derived.RegionIn
namespace Go.Proofs.YtbfefocehnafgaaGreat.B
set_option maxRecDepth 100000
open Go.ChangeShapes Go.WideShapes Go.ChangeAt Go.RowKit Go.Shelf
attribute [local go_sem] Oper.semAt_some

/-- One more is looked at: as the program does it. -/
def latF (l : List Rc) (s : Int × Nat) (t : Int) : Int × Nat := if s.2 < lastR l t then (t, lastR l t) else s
def latOf (l : List Rc) (ts : List Int) : Int × Nat := ts.foldl (latF l) (0, 0)
theorem latOf_snoc (l : List Rc) (ts : List Int) (t : Int) : latOf l (ts ++ [t]) = latF l (latOf l ts) t := by unfold latOf; rw [List.foldl_append]; rfl
theorem latOf_best (l : List Rc) : ∀ ts : List Int, (∀ t ∈ ts, lastR l t ≠ 0 ∧ t ≠ 0) → latOf l ts = (bestOf l ts, if bestOf l ts = 0 then 0 else lastR l (bestOf l ts)) := list_snoc _ (fun _ => rfl) fun ts t ih h => by
  have h1 := h t (by simp)
  rw [latOf_snoc, ih (fun u hu => h u (List.mem_append_left _ hu)), bestOf_snoc]
  unfold latF betterR
  by_cases hb : bestOf l ts = 0
  · rw [if_pos hb, if_pos (Or.inl hb), if_pos (by show 0 < lastR l t; omega), if_neg h1.2]
  · rw [if_neg hb]
    by_cases hlt : lastR l (bestOf l ts) < lastR l t
    · rw [if_pos (by exact hlt), if_pos (Or.inr hlt), if_neg h1.2]
    · rw [if_neg (by exact hlt), if_neg (by rintro (h | h); exact hb h; exact hlt h), if_neg hb]
theorem latOf_le (l : List Rc) : ∀ ts : List Int, (latOf l ts).2 ≤ l.length := list_snoc _ (Nat.zero_le _) fun ts t ih => by
  rw [latOf_snoc]
  unfold latF
  split
  · exact lastR_le t l
  · exact ih
theorem lat_best (l : List Rc) : (latOf l (losersR l)).1 = bestR l := by
  rw [latOf_best l (losersR l) (fun t ht => by
    obtain ⟨h1, h2⟩ := losersR_mem.1 ht
    refine ⟨fun h0 => ?_, by omega⟩
    have := stateR_0 h0
    unfold Hangs at h2
    omega)]
  rfl
theorem blk_own {β : Type} (B : Nat) (t : TypeId) (f : β → Array Value) : Own (fun s W => Blk W B (f s) t) := fun s X Y row hs hg hrow => by
  have hlt := Blk.lt hs
  refine (hg.block B hlt (fun e => ?_)).trans hs
  obtain ⟨o, ho, hc⟩ := hrow B e.symm
  rw [show X.heap[B]? = _ from hs] at ho
  cases ho
  cases hc
set_option maxRecDepth 100000 in
set_option maxHeartbeats 8000000 in
theorem latest_any {base db pb mt mh : Nat} {l : List Rc} {tx : List TxE} {ho : List HE} {p q s : Pg} {lv : Value} {safe : Int} (cb : Nat) (w : World) (h : DeskOk w base db pb mt mh l tx ho p q s lv safe) (C : Blk w cb #[.pointer (some ⟨db, 0, none⟩)] 120) :
    Calls Tryz.prog 110 #[.pointer (some ⟨cb, 0, none⟩)] w fun e w' => e = .returned (.int .i64 (bestR l)) ∧ Ext w w' := by
  obtain ⟨sa, sm, sc, hlook⟩ := h.book.looks
  have h60 := right_len l h.book.right
  have E2 := ((Ext.refl w).alloc (.cells #[.int .i64 0] 3)).alloc (.cells #[.int .i64 0] 3)
  have c1 := (C.ext E2).cell
  have c2 : ((w.alloc (.cells #[.int .i64 0] 3)).alloc (.cells #[.int .i64 0] 3)).cell? ⟨db, 0, none⟩ = some (.pointer (some ⟨pb, 0, none⟩)) := by rw [(h.blk.ext E2).cell]; rfl
  have HB := (show Hid ((latOf l (losersR l)).1 = bestR l) from lat_best l)
  generalize bestR l = br at *
  refine (callsIn_wide (n := 9)).1 ?_
  refine callsIn_of_wp_marks Tryz.func110 rfl trivial ?_ rfl
  simp only [Tryz.ntmps110, List.size_toArray, List.length_cons, List.length_nil, Nat.reduceAdd, Nat.reduceSub, Array.replicate_succ, Array.replicate_zero, List.push_toArray, List.append_toArray, List.nil_append, List.cons_append]
  gi_wp2_with fail
  refine ⟨trivial, ?_⟩
  refine (callsIn_wide.2 (inState_any pb _ 2 2 _)).mono ?_
  rintro e w2 ⟨rfl, rfl⟩
  gi_wp2_with fail
  have b1 : Boxed (((((w.alloc (.cells #[.int .i64 0] 3)).alloc (.cells #[.int .i64 0] 3)).alloc (.cells #[.int .i64 1, .int .i64 3] 3)).alloc (.cells #[.pointer (some ⟨pb, 0, none⟩)] 87)).alloc (.cells #[.slice (some ⟨w.heap.size + 1 + 1, 0, none⟩) 2 2] 45)) w.heap.size 3 (.int .i64 0) := ((((Boxed.new w 3 (.int .i64 0)).alloc _).alloc _).alloc _).alloc _
  have b2 : Boxed (((((w.alloc (.cells #[.int .i64 0] 3)).alloc (.cells #[.int .i64 0] 3)).alloc (.cells #[.int .i64 1, .int .i64 3] 3)).alloc (.cells #[.pointer (some ⟨pb, 0, none⟩)] 87)).alloc (.cells #[.slice (some ⟨w.heap.size + 1 + 1, 0, none⟩) 2 2] 45)) (w.heap.size + 1) 3 (.int .i64 0) := by
    have := (((Boxed.new (w.alloc (.cells #[.int .i64 0] 3)) 3 (.int .i64 0)).alloc (.cells #[.int .i64 1, .int .i64 3] 3)).alloc (.cells #[.pointer (some ⟨pb, 0, none⟩)] 87)).alloc (.cells #[.slice (some ⟨w.heap.size + 1 + 1, 0, none⟩) 2 2] 45)
    rwa [World.size_alloc] at this
  have hE5 : Ext w (((((w.alloc (.cells #[.int .i64 0] 3)).alloc (.cells #[.int .i64 0] 3)).alloc (.cells #[.int .i64 1, .int .i64 3] 3)).alloc (.cells #[.pointer (some ⟨pb, 0, none⟩)] 87)).alloc (.cells #[.slice (some ⟨w.heap.size + 1 + 1, 0, none⟩) 2 2] 45)) := ((E2.alloc _).alloc _).alloc _
  have hI : InSt (((((w.alloc (.cells #[.int .i64 0] 3)).alloc (.cells #[.int .i64 0] 3)).alloc (.cells #[.int .i64 1, .int .i64 3] 3)).alloc (.cells #[.pointer (some ⟨pb, 0, none⟩)] 87)).alloc (.cells #[.slice (some ⟨w.heap.size + 1 + 1, 0, none⟩) 2 2] 45)) (w.heap.size + 1 + 1 + 1) (w.heap.size + 1 + 1 + 1 + 1) (w.heap.size + 1 + 1) 2 pb mt mh (pagesR l) (l.length : Nat) (tx.map TxE.ent) [1, 3] :=
    ⟨(Blk.new _ _ _ _ (by simp)).alloc _, Blk.new _ _ _ _ (by simp), ((Blk.new _ _ #[.int .i64 1, .int .i64 3] _ (by simp)).alloc _).alloc _, h.book.blk.ext hE5, h.book.txs.ext hE5⟩
  have hsz : (((((w.alloc (.cells #[.int .i64 0] 3)).alloc (.cells #[.int .i64 0] 3)).alloc (.cells #[.int .i64 1, .int .i64 3] 3)).alloc (.cells #[.pointer (some ⟨pb, 0, none⟩)] 87)).alloc (.cells #[.slice (some ⟨w.heap.size + 1 + 1, 0, none⟩) 2 2] 45)).heap.size = w.heap.size + 5 := by simp
  have hge : ∀ X : World, X.heap.size = w.heap.size + 5 → w.heap.size + 5 ≤ X.heap.size := fun X h => by omega
  replace hsz := hge _ hsz
  have hpl := h.book.blk.lt
  have hml := h.book.txs.lt
  have hlen := pagesR_len l
  clear h E2 c1 c2 C hge
  generalize ((((w.alloc (.cells #[.int .i64 0] 3)).alloc (.cells #[.int .i64 0] 3)).alloc (.cells #[.int .i64 1, .int .i64 3] 3)).alloc (.cells #[.pointer (some ⟨pb, 0, none⟩)] 87)).alloc (.cells #[.slice (some ⟨w.heap.size + 1 + 1, 0, none⟩) 2 2] 45) = W0 at *
  refine wpIn_rangeFunc_ownH rfl (by omega) (gf := 90) (lb := #[.pointer (some ⟨w.heap.size + 1 + 1 + 1, 0, none⟩), .pointer (some ⟨w.heap.size + 1 + 1 + 1 + 1, 0, none⟩)]) rfl trivial (enters_of Tryz.func90 (by kernel_rfl) rfl)
    (inState_stops (9 - 1) W0.heap.size [w.heap.size, w.heap.size + 1] (w.heap.size + 1 + 1 + 1) (w.heap.size + 1 + 1 + 1 + 1) (w.heap.size + 1 + 1) 2 pb mt mh (pagesR l) (l.length : Nat) (tx.map TxE.ent) [1, 3] (stateR l) (fun t => (lastR l t : Nat)) sa sm sc hlen (by decide) hlook
      (fun k hk => by simp only [List.mem_cons, List.not_mem_nil, or_false] at hk; rcases hk with rfl | rfl | rfl | rfl | rfl <;> refine ⟨by omega, ?_⟩ <;> simp <;> omega) W0 (by omega) (Nat.le_refl _) hI)
    (fun h k => h.trans k) (offK_b (Nat.le_refl _)) (Below.refl _ _) (fun _ => rfl)
    (fun pre W => (Boxed W w.heap.size 3 (.int .i64 (latOf l pre).1) ∧ Boxed W (w.heap.size + 1) 3 (.int .i64 ((latOf l pre).2 : Nat))) ∧ (Below w.heap.size w W ∧ W0.heap.size ≤ W.heap.size))
    (fun _ _ _ => False)
    (OwnFrom.and (OwnFrom.and (Own.from (boxed_own _ _ (fun pre => .int .i64 (latOf l pre).1)) _) (Own.from (boxed_own _ _ (fun pre => .int .i64 ((latOf l pre).2 : Nat))) _)) (OwnFrom.and (ownFrom_below (Nat.le_refl _) (by omega)) (fun _ _ _ _ hs hg _ => Nat.le_trans hs hg.size)))
    (fun _ _ _ _ _ hs _ _ => hs)
    ⟨⟨b1, b2⟩, hE5, Nat.le_refl _⟩
    (fun x a' W => ∃ bx : Nat, W0.heap.size ≤ bx ∧ Blk W bx #[.int .i64 (stateR l x), .int .i64 (lastR l x : Nat), .slice (sa x) (sm x) (sc x)] 98 ∧ a' = { tmps := #[.pointer (some ⟨cb, 0, none⟩), undef, .int .i64 0, .pointer (some ⟨w.heap.size, 0, none⟩), .pointer (some ⟨w.heap.size + 1, 0, none⟩), .int .i64 x, .pointer (some ⟨bx, 0, none⟩), .pointer (some ⟨cb, 0, none⟩), .pointer (some ⟨cb, 0, none⟩), .pointer (some ⟨cb, 0, none⟩), .pointer (some ⟨db, 0, none⟩), .pointer (some ⟨db, 0, none⟩), .pointer (some ⟨db, 0, none⟩), .pointer (some ⟨pb, 0, none⟩), .slice (some ⟨w.heap.size + 1 + 1, 0, none⟩) 2 2, .func (.func 90) #[] #[.pointer (some ⟨w.heap.size + 1 + 1 + 1, 0, none⟩), .pointer (some ⟨w.heap.size + 1 + 1 + 1 + 1, 0, none⟩)], .int .i64 x, txOf (stateR l) (fun t => (lastR l t : Nat)) sa sm sc x, undef, undef, undef, undef, undef, undef, undef, undef], defers := [] })
    (fun x a' _ X Y row hs hg hr => by
      obtain ⟨bx, h1, h2, h3⟩ := hs
      exact ⟨bx, h1, blk_own bx 98 (fun _ : Unit => #[.int .i64 (stateR l x), .int .i64 (lastR l x : Nat), .slice (sa x) (sm x) (sc x)]) () X Y row h2 hg (fun r e => (hr r e).2), h3⟩)
    ?assign ?body ?done ?stop
  case assign =>
    rintro l' pre x W K ⟨⟨i1, i2⟩, hB, hW⟩ hK
    gi_wp2_with fail
    refine hK _ _ ((KeepsOthers.alloc _ _).from _) ((Off.refl _ _ W).alloc hW _) ⟨⟨i1.alloc _, i2.alloc _⟩, Below.alloc hB hB.size _, by simp; omega⟩ ⟨W.heap.size, hW, Blk.new W W.heap.size _ _ rfl, rfl⟩
  case body =>
    rintro l' pre x a' W _ _ ⟨⟨i1, i2⟩, hB, hW⟩ ⟨bx, hbx, bX, rfl⟩ hlt
    have v1 := i1.cell
    have v2 := i2.cell
    have f1 := i1.frozen
    have f2 := i2.frozen
    have x1 : W.cell? ⟨bx, 1, none⟩ = some (.int .i64 (lastR l x : Nat)) := by rw [bX.cell]; rfl
    have HS := (show Hid (latOf l (pre ++ [x]) = latF l (latOf l pre) x) from latOf_snoc l pre x)
    generalize hlt2 : latOf l pre = lt at *
    obtain ⟨lo, la⟩ := lt
    dsimp only at i1 i2 v1 v2
    generalize hlx : lastR l x = lx at *
    have HLX := (show Hid (lastR l x = lx) from hlx)
    clear hlx hlt2
    by_cases hc : la < lx
    · have hc' : (la : Int) < (lx : Int) := by omega
      have HSk : Hid (latOf l (pre ++ [x]) = (x, lx)) := by rw [Hid, HS.out]; unfold latF; rw [HLX.out, if_pos hc]
      have hmx : Tryz.prog.follows .mixedOrders = true := by kernel_rfl
      gi_wp2_with fail
      have j1 : Boxed ((W.setCell ⟨w.heap.size, 0, none⟩ (.int .i64 x)).setCell ⟨w.heap.size + 1, 0, none⟩ (.int .i64 (lx : Nat))).drew w.heap.size 3 (.int .i64 x) := (i1.set (.int .i64 x)).other (by omega) _
      have j2 : Boxed ((W.setCell ⟨w.heap.size, 0, none⟩ (.int .i64 x)).setCell ⟨w.heap.size + 1, 0, none⟩ (.int .i64 (lx : Nat))).drew (w.heap.size + 1) 3 (.int .i64 (lx : Nat)) := (i2.other (by omega) _).set _
      have jB := Ext.drew (Ext.setCell (Ext.setCell hB (p := ⟨w.heap.size, 0, none⟩) (Nat.le_refl _) (.int .i64 x)) (p := ⟨w.heap.size + 1, 0, none⟩) (by simp) (.int .i64 (lx : Nat)))
      have jO := (((Off.refl W0.heap.size [w.heap.size, w.heap.size + 1] W).set (p := ⟨w.heap.size, 0, none⟩) (Or.inl (by simp)) (.int .i64 x)).set (p := ⟨w.heap.size + 1, 0, none⟩) (Or.inl (by simp)) (.int .i64 (lx : Nat))).drew
      have jK := (((KeepsOthers.setCell W ⟨w.heap.size, 0, none⟩ (.int .i64 x)).trans (KeepsOthers.setCell _ ⟨w.heap.size + 1, 0, none⟩ (.int .i64 (lx : Nat)))).trans (KeepsOthers.drew _)).from W0.heap.size
      gi_region_with_o (fail)
      all_goals gi_wp2_with fail
      all_goals exact ⟨jK, jO, ⟨by rw [HSk.out]; exact j1, by rw [HSk.out]; exact j2⟩, jB, Nat.le_trans hW jO.size⟩
    · have hc' : ¬ (la : Int) < (lx : Int) := by omega
      have HSk : Hid (latOf l (pre ++ [x]) = (lo, la)) := by rw [Hid, HS.out]; unfold latF; rw [HLX.out, if_neg hc]
      gi_wp2_with fail
      exact ⟨KeepsFrom.refl _ _, Off.refl _ _ _, ⟨by rw [HSk.out]; exact i1, by rw [HSk.out]; exact i2⟩, hB, hW⟩
  case done =>
    rintro D ys W hD rfl ⟨⟨i1, i2⟩, hB, hW⟩ hK
    have v1 := i1.cell
    have HA := (show Hid (ofState [1, 3] (stateR l) 9 = losersR l) from ofState_losers l)
    gi_wp2_with fail
    refine ⟨by simp, .inl ⟨_, _, rfl, run_takeDeferred hK, ?_⟩⟩
    have hE2 := belowK_b (n₀ := w.heap.size) (w := w) (Nat.le_refl _) W D _ (.deferred none) (by omega) hK rfl rfl
    exact ⟨_, results_tmp rfl _ _ _, by rw [HA.out, HB.out]; rfl, hB.trans hE2⟩
  case stop =>
    rintro D c pre W _ _ h _
    exact h.elim
end Go.Proofs.YtbfefocehnafgaaGreat.B
