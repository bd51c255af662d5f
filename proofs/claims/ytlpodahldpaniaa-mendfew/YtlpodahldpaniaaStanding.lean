/- The contract of the laws' standing: the Writes of a Txn that stand, as a stack. -/
import Derived.Test.YtlpodahldpaniaaBookA
import Derived.Test.YtlpodahldpaniaaChainA
namespace Go.Proofs.Ytlpodahldpaniaa.B
set_option maxRecDepth 100000
open Go.ChangeShapes Go.WideShapes Go.ChangeAt Go.RowKit

theorem recs_own {w : World} {base : Nat} {v : Value} {st : List Rc} (h : w.ownsRow base 56 8 v st.length (flat st)) : ∃ a cap, v = .slice a st.length cap ∧ Recs w a st.length st := by
  rcases h.2 with ⟨rfl, h0⟩ | ⟨g, cap, cur, rfl, hg, hb, hc, hm, hs, ht⟩
  · exact ⟨none, 0, by rw [h0], rfl, Or.inl ⟨rfl, h0⟩⟩
  · refine ⟨_, _, rfl, rfl, Or.inr ⟨g, 0, rfl, fun i hi => ?_⟩⟩
    rw [Nat.zero_add]
    exact own_rec hb ht i hi
set_option maxHeartbeats 1000000 in
set_option maxRecDepth 100000 in
theorem standing_full (a : Option Addr) (len cap : Nat) (l : List Rc) (t : Int) (w : World) (h : Recs w a len l) (hl : len ≤ 1000) :
    Calls Try.prog 24 #[.slice a len cap, .int .i64 t] w fun e w' => (∃ a' cap', e = .returned (.slice a' (stackR l t).length cap') ∧ Recs w' a' (stackR l t).length (stackR l t) ∧ ∀ ad, a' = some ad → w.heap.size ≤ ad.block) ∧ Ext w w' := by
  obtain ⟨i0, hi, hz0, hz1, hz2⟩ := info_parts infoRec
  have HI := (show Hid _ from hi)
  have Z0 := (show Hid _ from hz0)
  have Z1 := (show Hid _ from hz1)
  have Z2 := (show Hid _ from hz2)
  clear hi hz0 hz1 hz2
  go_enter Try.func24, Try.ntmps24
  go_wp2_with fail
  go_loopw [5, 6] (fun o i wr => ∃ k : Nat, k ≤ len ∧ i = .int .i64 k ∧ Ext w wr ∧ wr.ownsRow w.heap.size 56 8 o (stackR (l.take k) t).length (flat (stackR (l.take k) t))) (fun _ i _ => len - (intOf i).toNat)
  case atStart => exact ⟨0, Nat.zero_le _, rfl, Ext.refl _, rfl, Or.inl ⟨rfl, rfl⟩⟩
  case round =>
    obtain ⟨k, hk, rfl, hE, hown⟩ := hrel
    by_cases hlt : k < len
    · obtain ⟨b, off, rfl, hkl, h0, h1, h2, h3, h4, h5, h6, h7⟩ := (h.ext hE).at hlt
      have HS := (show Hid _ from stackR_take l t k hkl)
      have hm : (stackR (l.take k) t).length ≤ 1000 := Nat.le_trans (stackR_le t (l.take k)) (by rw [List.length_take]; omega)
      generalize l[k] = r at *
      obtain ⟨kind, txn, prev, page, cell, old, new, next⟩ := r
      dsimp only at h0 h1 h2 h3 h4 h5 h6 h7
      generalize stackR (l.take k) t = st at *
      obtain ⟨sa, sm, sc, rfl⟩ := own_slice hown
      obtain rfl := own_len hown
      have HO := (show Hid _ from hown)
      clear hown
      by_cases hb : t = txn
      · subst hb
        have HB : Hid ((t == t) = true) := by simp [Hid]
        by_cases hc : kind = 1
        · subst hc
          have HC : Hid (((1 : Int) == 1) = true) := rfl
          go_wp2_with (at_builtin; refine wpList_append_lies _ rfl _ _ 26 rfl w.heap.size 56 i0 (.agg #[.int .i64 0, .int .i64 0, .int .i64 0, .int .i64 0, .int .i64 0, .int .i64 0, .int .i64 0, .int .i64 0]) 8 64 Try.underlying26 HI.out Z0.out Z1.out Z2.out rfl (by decide) (.slice sa st.length sc) st.length (flat st) rfl (own_ext HO.out ((Ext.refl wr).alloc _)) ⟨wr.heap.size, 0, none⟩ 1 1 [.int .i64 1, .int .i64 t, .int .i64 prev, .int .i64 page, .int .i64 cell, .int .i64 old, .int .i64 new, .int .i64 next] rfl rfl (cells_new _ [.int .i64 1, .int .i64 t, .int .i64 prev, .int .i64 page, .int .i64 cell, .int .i64 old, .int .i64 new, .int .i64 next] _ _ rfl) (cs_oneCell ⟨1, t, prev, page, cell, old, new, next⟩) (by decide) (by unfold maxLen; omega) (by omega) (by have := hE.size; simp; omega) _ rfl ?_; intro g cap' w3 hown' hgrow hg hgl)
          have hE3 : Ext w w3 := (hE.alloc _).grown (own_ext HO.out ((Ext.refl wr).alloc _)) hgrow
          refine ⟨⟨k + 1, by omega, by go_num, hE3, ?_⟩, by simp [intOf]; omega⟩
          rw [HS.out, HB.out, HC.out]
          simp only [if_true, List.length_append, List.length_singleton, flat_snoc]
          exact hown'
        · have HC : Hid ((kind == 1) = false) := by simpa [Hid] using hc
          by_cases hd : kind = 3
          · have HD : Hid ((kind == 3) = true) := by simpa [Hid] using hd
            by_cases hn : st.length = 0
            · have hst : Hid (st = []) := List.length_eq_zero_iff.1 hn
              have HN := (show Hid _ from hn)
              rw [hn]
              go_wp2_with fail
              go_roundw
              case rel => exact ⟨k + 1, by omega, by go_num, hE, by rw [HS.out, HB.out, HC.out, HD.out]; rw [← HN.out]; have := HO.out; rw [hst.out] at this ⊢; exact this⟩
              case measure => simp [intOf]; omega
            · have hne : Hid (st ≠ []) := fun e => hn (by rw [e]; rfl)
              have hpos : 0 < st.length := by omega
              have hcap : st.length ≤ sc := by
                rcases HO.out.2 with ⟨e, e2⟩ | ⟨g, cap2, cur, e, _, _, _, e2, _⟩
                · omega
                · injection e with _ _ e3; omega
              go_wp2_with fail
              have hown := own_keep (k := 3) HO.out (fun _ => hne.out)
              refine ⟨⟨k + 1, by omega, by go_num, hE, ?_⟩, by simp [intOf]; omega⟩
              rw [HS.out, HB.out, HC.out, HD.out]
              simp only [if_true, Bool.false_eq_true, if_false]
              have h2 := hown.1
              simp only [keepB, standK, if_true] at h2
              exact h2
          · have HD : Hid ((kind == 3) = false) := by simpa [Hid] using hd
            go_wp2_with fail
            go_roundw
            case rel => exact ⟨k + 1, by omega, by go_num, hE, by rw [HS.out, HB.out, HC.out, HD.out]; exact HO.out⟩
            case measure => simp [intOf]; omega
      · have HB : Hid ((txn == t) = false) := by simp [Hid]; exact fun e => hb e.symm
        have hb2 : (txn != t) = true := by simp; exact fun e => hb e.symm
        go_wp2_with fail
        go_roundw
        case rel => exact ⟨k + 1, by omega, by go_num, hE, by rw [HS.out, HB.out]; exact HO.out⟩
        case measure => simp [intOf]; omega
    · have HF : Hid (l.take k = l) := List.take_of_length_le (by rw [h.len]; omega)
      rw [HF.out] at hown
      have hm : (stackR l t).length ≤ 1000 := Nat.le_trans (stackR_le t l) (by rw [h.len]; omega)
      obtain ⟨sa, sc, rfl, hr⟩ := recs_own hown
      have HFr : Hid (∀ ad, sa = some ad → w.heap.size ≤ ad.block) := fun ad e => by
        subst e
        rcases hown.2 with ⟨e2, _⟩ | ⟨g, c2, cur, e2, hg, _⟩
        · cases e2
        · injection e2 with e3
          injection e3 with e4
          rw [e4]
          exact hg
      go_wp2_with fail
      go_ret
      exact ⟨⟨sa, sc, rfl, hr, HFr.out⟩, hE⟩
theorem standing_any (a : Option Addr) (len cap : Nat) (l : List Rc) (t : Int) (w : World) (h : Recs w a len l) (hl : len ≤ 1000) :
    Calls Try.prog 24 #[.slice a len cap, .int .i64 t] w fun e w' => (∃ a' cap', e = .returned (.slice a' (stackR l t).length cap') ∧ Recs w' a' (stackR l t).length (stackR l t)) ∧ Ext w w' :=
  (standing_full a len cap l t w h hl).mono fun _ _ ⟨⟨a', cap', h1, h2, _⟩, h3⟩ => ⟨⟨a', cap', h1, h2⟩, h3⟩
end Go.Proofs.Ytlpodahldpaniaa.B
