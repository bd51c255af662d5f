/- The contracts of the scan's Losers, and of the reference's losers and LosersOf. -/
import Derived.Test.YtlpodahldpaniaaGreatInst
import Derived.Test.YtlpodahldpaniaaGreatScan1
import Derived.Maps.AppendAt
namespace Go.Proofs.YtlpodahldpaniaaGreat.B
set_option maxRecDepth 100000
open Go.ChangeShapes Go.WideShapes Go.ChangeAt Go.RowKit Go.Shelf
attribute [local go_sem] Oper.semAt_some

/-- The document's answer of Losers. -/
def losersOr (l : List Rc) : List Int := if logErr l = 0 then losersR l else []
theorem losersOr_ok {l : List Rc} (h : logErr l = 0) : losersOr l = losersR l := by unfold losersOr; rw [if_pos h]
theorem losersOr_no {l : List Rc} (h : logErr l ≠ 0) : losersOr l = [] := by unfold losersOr; rw [if_neg h]
theorem ofState_losers (l : List Rc) : ofState [1, 3] (stateR l) 9 = losersR l := by
  have h1 : ((List.range 9).map fun j : Nat => (j : Int) + 1) = txnsL := rfl
  unfold ofState losersR
  rw [h1]
  congr 1
  funext t
  simp only [List.contains_cons, List.contains_nil, Bool.or_false]
theorem losersR_le (l : List Rc) : (losersR l).length ≤ 9 := Nat.le_trans (List.length_filter_le _ _) (by decide)
set_option maxRecDepth 100000 in
set_option maxHeartbeats 4000000 in
theorem losers_any (a : Option Addr) (len cap : Nat) (l : List Rc) (w : World) (h : Recs w a len l) (hm : len ≤ maxLen) :
    Calls Tryz.prog 15 #[.slice a len cap] w fun e w' => (∃ a' cap', e = .returned (.tuple #[.slice a' (losersOr l).length cap', .int .i64 (logErr l)]) ∧ (losersOr l).length ≤ cap' ∧ Ints w.heap.size w' a' (losersOr l)) ∧ Ext w w' := by
  have H := read_any a len cap l w h hm
  have HW0 : Hid (logErr l = 0 → losersOr l = losersR l) := losersOr_ok
  have HW1 : Hid (logErr l ≠ 0 → losersOr l = []) := losersOr_no
  generalize logErr l = x at *
  generalize losersOr l = lo at *
  refine (callsIn_wide (n := 9)).1 ?_
  refine callsIn_of_wp_marks Tryz.func15 rfl trivial ?_ rfl
  simp only [Tryz.ntmps15, List.size_toArray, List.length_cons, List.length_nil, Nat.reduceAdd, Nat.reduceSub, Array.replicate_succ, Array.replicate_zero, List.push_toArray, List.append_toArray, List.nil_append, List.cons_append]
  gi_wp2_with fail
  refine ⟨trivial, ?_⟩
  refine (callsIn_wide.2 H).mono ?_
  rintro e w1 ⟨v, rfl, hE, ⟨h0, pb, mt, mh, tx, ho, rfl, hB⟩ | ⟨h0, rfl⟩⟩
  · subst h0
    have hlo := HW0.out rfl
    subst hlo
    clear H HW0 HW1
    gi_wp2_with fail
    refine ⟨trivial, ?_⟩
    refine (callsIn_wide.2 (inState_any pb _ 2 2 _)).mono ?_
    rintro e w2 ⟨rfl, rfl⟩
    gi_wp2_with fail
    obtain ⟨sa, sm, sc, hlook⟩ := hB.looks
    have bO : Boxed ((((w1.alloc (.cells #[.slice none 0 0] 45)).alloc (.cells #[.int .i64 1, .int .i64 3] 3)).alloc (.cells #[.pointer (some ⟨pb, 0, none⟩)] 70)).alloc (.cells #[.slice (some ⟨w1.heap.size + 1, 0, none⟩) 2 2] 45)) w1.heap.size 45 (.slice none 0 0) := (((Boxed.new w1 45 (.slice none 0 0)).alloc _).alloc _).alloc _
    have hI : InSt ((((w1.alloc (.cells #[.slice none 0 0] 45)).alloc (.cells #[.int .i64 1, .int .i64 3] 3)).alloc (.cells #[.pointer (some ⟨pb, 0, none⟩)] 70)).alloc (.cells #[.slice (some ⟨w1.heap.size + 1, 0, none⟩) 2 2] 45)) (w1.heap.size + 1 + 1) (w1.heap.size + 1 + 1 + 1) (w1.heap.size + 1) 2 pb mt mh (pagesR l) (l.length : Nat) (tx.map TxE.ent) [1, 3] :=
      ⟨(Blk.new _ _ _ _ (by simp)).alloc _, Blk.new _ _ _ _ (by simp), ((Blk.new _ _ #[.int .i64 1, .int .i64 3] _ (by simp)).alloc _).alloc _, (((hB.blk.alloc _).alloc _).alloc _).alloc _, hB.txs.ext (((((Ext.refl w1).alloc _).alloc _).alloc _).alloc _)⟩
    have hB0 : Below w.heap.size w ((((w1.alloc (.cells #[.slice none 0 0] 45)).alloc (.cells #[.int .i64 1, .int .i64 3] 3)).alloc (.cells #[.pointer (some ⟨pb, 0, none⟩)] 70)).alloc (.cells #[.slice (some ⟨w1.heap.size + 1, 0, none⟩) 2 2] 45)) := (((Ext.alloc hE _).alloc _).alloc _).alloc _
    have hsz : ((((w1.alloc (.cells #[.slice none 0 0] 45)).alloc (.cells #[.int .i64 1, .int .i64 3] 3)).alloc (.cells #[.pointer (some ⟨pb, 0, none⟩)] 70)).alloc (.cells #[.slice (some ⟨w1.heap.size + 1, 0, none⟩) 2 2] 45)).heap.size = w1.heap.size + 4 := by simp
    have hpl := hB.blk.lt
    have hml := hB.txs.lt
    have hw1 : w.heap.size ≤ w1.heap.size := hE.size
    have hlen := pagesR_len l
    clear hB hE
    generalize (((w1.alloc (.cells #[.slice none 0 0] 45)).alloc (.cells #[.int .i64 1, .int .i64 3] 3)).alloc (.cells #[.pointer (some ⟨pb, 0, none⟩)] 70)).alloc (.cells #[.slice (some ⟨w1.heap.size + 1, 0, none⟩) 2 2] 45) = W0 at *
    obtain ⟨i0, hi, hz0, hz1, hz2⟩ := info_parts infoInt
    refine wpIn_rangeFunc_ownG rfl (by omega) (gf := 57) (lb := #[.pointer (some ⟨w1.heap.size + 1 + 1, 0, none⟩), .pointer (some ⟨w1.heap.size + 1 + 1 + 1, 0, none⟩)]) rfl trivial (enters_of Tryz.func57 (by kernel_rfl) rfl)
      (inState_stops (9 - 1) W0.heap.size [w1.heap.size] (w1.heap.size + 1 + 1) (w1.heap.size + 1 + 1 + 1) (w1.heap.size + 1) 2 pb mt mh (pagesR l) (l.length : Nat) (tx.map TxE.ent) [1, 3] (stateR l) (fun t => (lastR l t : Nat)) sa sm sc hlen (by decide) hlook
        (fun k hk => by simp only [List.mem_cons, List.not_mem_nil, or_false] at hk; rcases hk with rfl | rfl | rfl | rfl | rfl <;> refine ⟨by omega, ?_⟩ <;> simp <;> omega) W0 (by omega) (Nat.le_refl _) hI)
      (fun h k => h.trans k) (offK_b (Nat.le_refl _)) (Below.refl _ _) (fun _ => rfl)
      (fun pre W => (∃ v, Boxed W w1.heap.size 45 v ∧ W.ownsRow W0.heap.size 3 1 v pre.length (ivs pre) ∧ True) ∧ (Below w.heap.size w W ∧ W0.heap.size ≤ W.heap.size))
      (fun _ _ _ => False)
      (OwnFrom.and (Own.from (holdsRow_own W0.heap.size w1.heap.size 45 3 1 (fun pre => pre.length) (fun pre => ivs pre) (fun _ _ => True)) _) (OwnFrom.and (ownFrom_below (Nat.le_refl _) (by omega)) (fun _ _ _ _ hs hg _ => Nat.le_trans hs hg.size)))
      (fun _ _ _ _ _ hs _ _ => hs)
      ⟨⟨_, bO, World.ownsRow_nil _ _ _ _, trivial⟩, hB0, Nat.le_refl _⟩
      (fun x => { tmps := #[.slice a len cap, undef, .slice none 0 0, .int .i64 0, .pointer (some ⟨pb, 0, none⟩), .int .i64 0, .pointer (some ⟨w1.heap.size, 0, none⟩), .int .i64 x, .tuple #[.pointer (some ⟨pb, 0, none⟩), .int .i64 0], .slice a len cap, .tuple #[.pointer (some ⟨pb, 0, none⟩), .int .i64 0], .pointer (some ⟨pb, 0, none⟩), .int .i64 0, .int .i64 0, .bool false, undef, .pointer (some ⟨pb, 0, none⟩), .slice (some ⟨w1.heap.size + 1, 0, none⟩) 2 2, .func (.func 57) #[] #[.pointer (some ⟨w1.heap.size + 1 + 1, 0, none⟩), .pointer (some ⟨w1.heap.size + 1 + 1 + 1, 0, none⟩)], .int .i64 x, txOf (stateR l) (fun t => (lastR l t : Nat)) sa sm sc x, undef, undef, undef, undef, undef], defers := [] }) ?assign ?body ?done ?stop
    case assign =>
      intro l x W K hK
      gi_wp2_with fail
      exact hK
    case body =>
      rintro l pre x W ⟨⟨v, hv, hrow, _⟩, hB, hW⟩ hlt
      obtain ⟨va, vm, vc, rfl⟩ := own_slice hrow
      obtain rfl := own_len hrow
      have hc := hv.cell
      have hf := hv.frozen
      have HO := (show Hid (W.ownsRow W0.heap.size 3 1 (.slice va pre.length vc) pre.length (ivs pre)) from hrow)
      gi_wp2_with (gi_at_builtin; refine wpListIn_append_own _ rfl _ _ 45 rfl W0.heap.size 3 i0 (.int .i64 0) 1 8 Tryz.underlying45 hi hz0 hz1 hz2 rfl (by decide) _ _ _ rfl (hrow.alloc _) ⟨W.heap.size, 0, none⟩ 1 1 [.int .i64 x] rfl rfl (cell_one_new _ _ _) (by simp [Value.oneCell']) (by unfold maxLen; omega) (by omega) (by simp; omega) ?_; intro v' w3 hown' hgrow _; obtain ⟨g', cap', rfl⟩ := ownsRow_succ hown'; obtain ⟨hv1, hv2, hr2, hk2, hb2, ho2⟩ := boxed_off hv (by decide) hrow hW (by omega) hown' hgrow; have hc1 := hv1.cell; have hf1 := hv1.frozen)
      exact ⟨hk2.from _, ho2, ⟨_, hv2, by rw [ivs_snoc, List.length_append]; exact hr2, trivial⟩, hB.trans (Below.mono hb2 hw1), Nat.le_trans hW ho2.size⟩
    case done =>
      rintro D ys W hD rfl ⟨⟨v, hv, hrow, _⟩, hB, hW⟩ hK
      obtain ⟨va, vc, rfl, hvc, hints⟩ := Ints.of_own hrow
      have hc := hv.cell
      have HL := (show Hid (ofState [1, 3] (stateR l) 9 = losersR l) from ofState_losers l)
      gi_wp2_with fail
      refine ⟨by simp, .inl ⟨_, _, rfl, run_takeDeferred hK, ?_⟩⟩
      have hE2 := belowK_b (n₀ := w.heap.size) (w := w) (Nat.le_refl _) W D _ (.deferred none) (by omega) hK rfl rfl
      obtain ⟨va2, vc2, hve, hvc2, hints2⟩ := Ints.of_own (ownsRow_putObj hrow (.deferred none) hK rfl)
      injection hve with e1 e2 e3
      subst e1 e3
      rw [HL.out] at hvc2 hints2 ⊢
      exact ⟨_, by simp [results, Tryz.results15, go_sem], ⟨va, vc, rfl, hvc2, hints2.low (by omega)⟩, hB.trans hE2⟩
    case stop =>
      rintro D c pre W _ _ h _
      exact h.elim
  · have hb : (x != 0) = true := by simpa using h0
    have hlo := HW1.out h0
    subst hlo
    clear H HW0 HW1
    gi_wp2_with fail
    exact ⟨_, by simp [results, Tryz.results15, go_sem], ⟨none, 0, rfl, Nat.le_refl _, Or.inl rfl⟩, hE⟩
theorem losers_take (l : List Rc) (k : Nat) : ofState [1, 3] (stateR l) (k + 1) = if stateR l ((k : Int) + 1) = 1 ∨ stateR l ((k : Int) + 1) = 3 then ofState [1, 3] (stateR l) k ++ [(k : Int) + 1] else ofState [1, 3] (stateR l) k := by
  rw [ofState_succ]
  simp only [List.contains_cons, List.contains_nil, Bool.or_false, Bool.or_eq_true, beq_iff_eq]
set_option maxHeartbeats 4000000 in
theorem refLosers_any (a : Option Addr) (len cap : Nat) (l : List Rc) (w : World) (h : Recs w a len l) (hl : len ≤ 1000) :
    Calls Tryz.prog 64 #[.slice a len cap] w fun e w' => ∃ a' cap', e = .returned (.slice a' (losersR l).length cap') ∧ (losersR l).length ≤ cap' ∧ Ints w.heap.size w' a' (losersR l) ∧ Ext w w' := by
  obtain ⟨i0, hi, hz0, hz1, hz2⟩ := info_parts infoInt
  have HI := (show Hid _ from hi)
  have Z0 := (show Hid _ from hz0)
  have Z1 := (show Hid _ from hz1)
  have Z2 := (show Hid _ from hz2)
  clear hi hz0 hz1 hz2
  have HA := (show Hid (ofState [1, 3] (stateR l) 9 = losersR l) from ofState_losers l)
  generalize losersR l = lo at *
  go_enter Tryz.func64, Tryz.ntmps64
  go_wp2_with fail
  go_loopw [3, 4] (fun o i wr => ∃ k : Nat, k ≤ 9 ∧ i = .int .i64 ((k : Int) + 1) ∧ Ext w wr ∧ wr.ownsRow w.heap.size 3 1 o (ofState [1, 3] (stateR l) k).length (ivs (ofState [1, 3] (stateR l) k))) (fun _ i _ => 10 - (intOf i).toNat)
  case atStart => exact ⟨0, by omega, rfl, Ext.refl w, rfl, Or.inl ⟨rfl, rfl⟩⟩
  case round =>
    obtain ⟨k, hk, rfl, hE, hown⟩ := hrel
    by_cases hlt : k < 9
    · have HS := (show Hid _ from losers_take l k)
      have hml := ofState_len [1, 3] (stateR l) k
      generalize ofState [1, 3] (stateR l) k = ns at *
      have hkl : ((k : Int) + 1 ≤ 9) := by omega
      go_wp2_with fail
      refine (state_any a len cap l ((k : Int) + 1) wr (h.ext hE) hl).mono ?_
      rintro e w2 ⟨rfl, rfl⟩
      generalize stateR l ((k : Int) + 1) = s at *
      by_cases hs : s = 1 ∨ s = 3
      · have HS2 : Hid (ofState [1, 3] (stateR l) (k + 1) = ns ++ [(k : Int) + 1]) := by rw [Hid, HS.out, if_pos hs]
        obtain ⟨sa, sm, sc, rfl⟩ := own_slice hown
        obtain rfl := own_len hown
        have HO := (show Hid (w2.ownsRow w.heap.size 3 1 (.slice sa ns.length sc) ns.length (ivs ns)) from hown)
        clear hown
        rcases hs with rfl | rfl
        · go_wp2_with (at_builtin; refine wpList_append_lies _ rfl _ _ 45 rfl w.heap.size 3 i0 (.int .i64 0) 1 8 Tryz.underlying45 HI.out Z0.out Z1.out Z2.out rfl (by decide) (.slice sa ns.length sc) ns.length (ivs ns) rfl (own_ext HO.out ((Ext.refl w2).alloc _)) ⟨w2.heap.size, 0, none⟩ 1 1 [.int .i64 ((k : Int) + 1)] rfl rfl (cells_new _ [.int .i64 ((k : Int) + 1)] _ _ (by simp)) (fun x hx => by simp at hx; subst hx; rfl) (by decide) (by unfold maxLen; omega) (by omega) (by have := hE.size; simp; omega) _ rfl ?_; intro g cap' w3 hown' hgrow hg hgl)
          have hE3 : Ext w w3 := (hE.alloc _).grown (own_ext HO.out ((Ext.refl w2).alloc _)) hgrow
          refine ⟨⟨k + 1, by omega, by go_num, hE3, ?_⟩, by simp [intOf]; omega⟩
          rw [HS2.out, List.length_append, ivs_snoc]
          exact hown'
        · go_wp2_with (at_builtin; refine wpList_append_lies _ rfl _ _ 45 rfl w.heap.size 3 i0 (.int .i64 0) 1 8 Tryz.underlying45 HI.out Z0.out Z1.out Z2.out rfl (by decide) (.slice sa ns.length sc) ns.length (ivs ns) rfl (own_ext HO.out ((Ext.refl w2).alloc _)) ⟨w2.heap.size, 0, none⟩ 1 1 [.int .i64 ((k : Int) + 1)] rfl rfl (cells_new _ [.int .i64 ((k : Int) + 1)] _ _ (by simp)) (fun x hx => by simp at hx; subst hx; rfl) (by decide) (by unfold maxLen; omega) (by omega) (by have := hE.size; simp; omega) _ rfl ?_; intro g cap' w3 hown' hgrow hg hgl)
          have hE3 : Ext w w3 := (hE.alloc _).grown (own_ext HO.out ((Ext.refl w2).alloc _)) hgrow
          refine ⟨⟨k + 1, by omega, by go_num, hE3, ?_⟩, by simp [intOf]; omega⟩
          rw [HS2.out, List.length_append, ivs_snoc]
          exact hown'
      · have HS2 : Hid (ofState [1, 3] (stateR l) (k + 1) = ns) := by rw [Hid, HS.out, if_neg hs]
        have hb1 : (s == 1) = false := by simp; omega
        have hb3 : (s == 3) = false := by simp; omega
        clear hs
        go_wp2_with fail
        go_roundw
        case rel => exact ⟨k + 1, by omega, by go_num, hE, by rw [HS2.out]; exact hown⟩
        case measure => simp [intOf]; omega
    · obtain rfl : k = 9 := by omega
      rw [HA.out] at hown
      have hml : lo.length ≤ 9 := by rw [← HA.out]; exact ofState_len _ _ _
      obtain ⟨sa, sc, rfl, hc, hr⟩ := Ints.of_own hown
      go_wp2_with fail
      go_ret
      exact ⟨sa, sc, rfl, hc, hr, hE⟩
end Go.Proofs.YtlpodahldpaniaaGreat.B
