/- The contracts of the reference's follows and LogError, PagesOf, StateOf. The contract of the reference's PagesOf. · What a right log tells of its Txns, record by record: how far each is, which of its Writes stand, who has which cell. No Go in sight. The book's own test of a record is the document's. No Go in sight. -/
import Derived.Test.YtibfgbmhmdggmaaGreatDoorLog6
namespace Go.Proofs.YtibfgbmhmdggmaaGreatDoor.B
set_option maxHeartbeats 32000000
set_option maxRecDepth 100000
open Go.ChangeShapes Go.WideShapes Go.ChangeAt Go.RowKit
theorem beq_or (b : Bool) : b = true ∨ b = false := by cases b <;> simp
theorem follows_any (a : Option Addr) (len cap : Nat) (l : List Rc) (r : Rc) (n : Int) (w : World) (h : Recs w a len l) (hl : len ≤ 1000) (hb : Backs l) (hf : Fits l) (hr : recErr n r = 0) :
  Calls Tryz.prog 88 #[.slice a len cap, r.val] w fun e w' => e = .returned (.bool (followsR l r)) ∧ Ext w w' := by
 have hk := recErr_kind hr
 have hfit := fun ht => recErr_fits hr ht
 obtain ⟨kind, txn, prev, page, cell, old, new, next⟩ := r
 rcases beq_or (prev != (lastR l txn : Nat)) with hp | hp
 ·exact follows_prev a len cap l kind txn prev page cell old new next w h hl hp
 rcases beq_or (stateR l txn == 4) with h4 | h4
 ·exact follows_s4 a len cap l kind txn prev page cell old new next w h hl hp h4
 rcases beq_or (stateR l txn == 2) with h2 | h2
 ·rcases beq_or (kind != 4) with k4 | k4
  ·exact follows_s2 a len cap l kind txn prev page cell old new next w h hl hp h4 h2 k4
  ·obtain rfl : kind = 4 := by simpa using k4
   exact follows_c4a a len cap l txn prev page cell old new next w h hl hp h4 h2 hb
 rcases beq_or (stateR l txn == 3) with h3 | h3
 ·rcases beq_or (kind != 3) with k3 | k3
  ·rcases beq_or (kind != 4) with k4 | k4
   ·exact follows_s3 a len cap l kind txn prev page cell old new next w h hl hp h4 h2 h3 k3 k4
   ·obtain rfl : kind = 4 := by simpa using k4
    exact follows_c4b a len cap l txn prev page cell old new next w h hl hp h4 h2 h3 hb
  ·obtain rfl : kind = 3 := by simpa using k3
   exact follows_c3b a len cap l txn prev page cell old new next w h hl hp h4 h2 h3 hb
 dsimp only at hk
 rcases hk with rfl | rfl | rfl | rfl
 ·obtain ⟨p0, p2, q0, q2⟩ := hfit rfl
  dsimp only at p0 p2 q0 q2
  obtain rfl | rfl | rfl : page = 0 ∨ page = 1 ∨ page = 2 := by omega
  ·obtain rfl | rfl | rfl : cell = 0 ∨ cell = 1 ∨ cell = 2 := by omega
   ·exact follows_c1_00 a len cap l txn prev old new next w h hl hp h4 h2 h3 hb hf
   ·exact follows_c1_01 a len cap l txn prev old new next w h hl hp h4 h2 h3 hb hf
   ·exact follows_c1_02 a len cap l txn prev old new next w h hl hp h4 h2 h3 hb hf
  ·obtain rfl | rfl | rfl : cell = 0 ∨ cell = 1 ∨ cell = 2 := by omega
   ·exact follows_c1_10 a len cap l txn prev old new next w h hl hp h4 h2 h3 hb hf
   ·exact follows_c1_11 a len cap l txn prev old new next w h hl hp h4 h2 h3 hb hf
   ·exact follows_c1_12 a len cap l txn prev old new next w h hl hp h4 h2 h3 hb hf
  ·obtain rfl | rfl | rfl : cell = 0 ∨ cell = 1 ∨ cell = 2 := by omega
   ·exact follows_c1_20 a len cap l txn prev old new next w h hl hp h4 h2 h3 hb hf
   ·exact follows_c1_21 a len cap l txn prev old new next w h hl hp h4 h2 h3 hb hf
   ·exact follows_c1_22 a len cap l txn prev old new next w h hl hp h4 h2 h3 hb hf
 ·exact follows_c2 a len cap l txn prev page cell old new next w h hl hp h4 h2 h3 hb
 ·exact follows_c3a a len cap l txn prev page cell old new next w h hl hp h4 h2 h3 hb
 ·exact follows_c4c a len cap l txn prev page cell old new next w h hl hp h4 h2 h3 hb
theorem Recs.take {w : World} {a : Option Addr} {len : Nat} {l : List Rc} (h : Recs w a len l) (k : Nat) (hk : k ≤ len) : Recs w a k (l.take k) := by
 obtain ⟨hl, h⟩ := h
 refine ⟨by rw [List.length_take]; omega, ?_⟩
 rcases h with ⟨ha, h0⟩ | ⟨b, off, ha, hc⟩
 ·exact Or.inl ⟨ha, by omega⟩
 ·refine Or.inr ⟨b, off, ha, fun i hi => ?_⟩
  rw [List.length_take] at hi
  rw [List.getElem_take]
  exact hc i (by omega)
theorem logError_any (a : Option Addr) (len cap : Nat) (l : List Rc) (w : World) (h : Recs w a len l) (hcap : len ≤ cap) (hm : len ≤ maxLen) :
  Calls Tryz.prog 44 #[.slice a len cap] w fun e w' => e = .returned (.int .i64 (logErr l)) ∧ Ext w w' := by
 unfold maxLen at hm
 by_cases h60 : 60 < len
 ·have HL : Hid (logErr l = 2) := by unfold Hid logErr; rw [if_pos (by rw [h.len]; exact h60)]
  have hi : (60 : Int) < (len : Int) := by omega
  go_enter Tryz.func44, Tryz.ntmps44
  go_wp2_with fail
  go_ret
  exact ⟨by rw [HL.out]; rfl, Ext.refl _⟩
 ·have HL : Hid (logErr l = errTo l len) := by unfold Hid logErr; rw [if_neg (by rw [h.len]; exact h60), h.len]
  have hi : (len : Int) ≤ 60 := by omega
  go_enter Tryz.func44, Tryz.ntmps44
  go_wp2_with fail
  go_loopw [3] (fun i wr => ∃ k : Nat, k ≤ len ∧ i = .int .i64 k ∧ Ext w wr ∧ errTo l k = 0) (fun i _ => len - (intOf i).toNat)
  case atStart => exact ⟨0, Nat.zero_le _, rfl, Ext.refl _, rfl⟩
  case round =>
   obtain ⟨k, hk, rfl, hE, hz⟩ := hrel
   by_cases hlt : k < len
   ·obtain ⟨b, off, rfl, hkl, hrecw⟩ := h.at hlt
    have hrec := hrecw.ext hE
    have hlen := h.len
    have hR : Right (l.take k) := (right_take (by omega)).1 hz
    have HSu : Hid (errTo l (k + 1) = stepErr (l.take k) l[k]) := by rw [Hid, errTo_succ l k hkl, hz]; rfl
    have HTL : Hid ((l.take k).length = k) := List.length_take_of_le (by omega)
    have HMo : Hid (∀ e, errTo l (k + 1) = e → e ≠ 0 → errTo l len = e) := fun e he h0 => by have hk' := errTo_keep l (k + 1) (by rw [he]; exact h0) (len - (k + 1)); rw [show k + 1 + (len - (k + 1)) = len from by omega] at hk'; rw [hk', he]
    obtain ⟨h0, h1, h2, h3, h4, h5, h6, h7⟩ := hrec
    generalize l[k] = r at *
    go_wp2_with fail
    refine (recError_any ((k : Int) + 1) r _).mono ?_
    rintro e w1 ⟨rfl, hw1⟩
    have hE1 := hE.trans hw1
    have HN : Hid (((((l.take k).length + 1 : Nat) : Int)) = (k : Int) + 1) := by rw [Hid, HTL.out]; rfl
    cases hne : (recErr ((k : Int) + 1) r != 0)
    ·have hr0 : recErr ((k : Int) + 1) r = 0 := by simpa using hne
     have HE : Hid (stepErr (l.take k) r = if followsR (l.take k) r then 0 else 1) := by
      unfold Hid stepErr; rw [HN.out, hne]; rfl
     have HR0 := (show Hid _ from hr0)
     have HRi := (show Hid _ from hR)
     clear hr0 hR h0 h1 h2 h3 h4 h5 h6 h7 HN
     have hk0 : (0 : Int) ≤ (k : Int) := by omega
     have hkc : (k : Int) ≤ (cap : Int) := by omega
     have hkl2 : (k : Int) < (len : Int) := by omega
     go_wp2_with fail
     refine wp_region_calm (by kernel_rfl) (by kernel_rfl) (fun F hF => ?_)
     have c0 : ∀ x, (F x).cell? ⟨b, off + k * 8, none⟩ = some (.int .i64 r.kind) := fun x => ((hrecw.ext hE1).ext (hF.ext x)).1
     have c1 : ∀ x, (F x).cell? ⟨b, off + k * 8 + 1, none⟩ = some (.int .i64 r.txn) := fun x => ((hrecw.ext hE1).ext (hF.ext x)).2.1
     have c2 : ∀ x, (F x).cell? ⟨b, off + k * 8 + 2, none⟩ = some (.int .i64 r.prev) := fun x => ((hrecw.ext hE1).ext (hF.ext x)).2.2.1
     have c3 : ∀ x, (F x).cell? ⟨b, off + k * 8 + 3, none⟩ = some (.int .i64 r.page) := fun x => ((hrecw.ext hE1).ext (hF.ext x)).2.2.2.1
     have c4 : ∀ x, (F x).cell? ⟨b, off + k * 8 + 4, none⟩ = some (.int .i64 r.cell) := fun x => ((hrecw.ext hE1).ext (hF.ext x)).2.2.2.2.1
     have c5 : ∀ x, (F x).cell? ⟨b, off + k * 8 + 5, none⟩ = some (.int .i64 r.old) := fun x => ((hrecw.ext hE1).ext (hF.ext x)).2.2.2.2.2.1
     have c6 : ∀ x, (F x).cell? ⟨b, off + k * 8 + 6, none⟩ = some (.int .i64 r.new) := fun x => ((hrecw.ext hE1).ext (hF.ext x)).2.2.2.2.2.2.1
     have c7 : ∀ x, (F x).cell? ⟨b, off + k * 8 + 7, none⟩ = some (.int .i64 r.next) := fun x => ((hrecw.ext hE1).ext (hF.ext x)).2.2.2.2.2.2.2
     repeat (go_big_quiet_step ((go_at_call 88; exact hF.call (follows_any (some ⟨b, off, none⟩) k cap (l.take k) r ((k : Int) + 1) _ ((h.ext (hE1.trans (hF.ext _))).take k (by omega)) (by omega) (right_backs _ HRi.out) (right_fits _ HRi.out) HR0.out))))
     refine wpQuiet_nil ?_
     rintro _ ⟨v, rfl⟩
     clear c0 c1 c2 c3 c4 c5 c6 c7
     have hE2 := hE1.trans (hF.ext v)
     cases hfo : followsR (l.take k) r
     ·have HLe : Hid (logErr l = 1) := by
       rw [Hid, HL.out]; exact HMo.out _ (by rw [HSu.out, HE.out, hfo]; rfl) (by decide)
      clear hfo
      go_wp2_with fail
      go_ret
      exact ⟨by rw [HLe.out]; rfl, hE2⟩
     ·have HZ : Hid (errTo l (k + 1) = 0) := by rw [Hid, HSu.out, HE.out, hfo]; rfl
      clear hfo
      go_wp2_with fail
      go_roundw
      case rel => exact ⟨k + 1, by omega, by go_num, hE2, HZ.out⟩
      case measure => simp [intOf]; omega
    ·have HE : Hid (stepErr (l.take k) r = recErr ((k : Int) + 1) r) := by
      unfold Hid stepErr; rw [HN.out, hne]; rfl
     have hne' : recErr ((k : Int) + 1) r ≠ 0 := by simpa using hne
     have HLe : Hid (logErr l = recErr ((k : Int) + 1) r) := by
      rw [Hid, HL.out]; exact HMo.out _ (by rw [HSu.out, HE.out]) hne'
     clear hne'
     go_wp2_with fail
     go_ret
     exact ⟨by rw [HLe.out]; rfl, hE1⟩
   ·have HLz : Hid (logErr l = 0) := by rw [Hid, HL.out, ← hz]; congr 1; omega
    clear hz
    go_wp2_with fail
    go_ret
    exact ⟨by rw [HLz.out]; rfl, hE⟩
def pagesOrNone (l : List Rc) : List Int := if logErr l = 0 then pagesR l else List.replicate 12 0
theorem logErr_zero {l : List Rc} (h : logErr l = 0) : l.length ≤ 60 ∧ Right l := by
 unfold logErr at h
 split at h
 ·omega
 ·exact ⟨by omega, h⟩
end Go.Proofs.YtibfgbmhmdggmaaGreatDoor.B
namespace Go.Proofs.YtibfgbmhmdggmaaGreatDoor.B
set_option maxHeartbeats 32000000
set_option maxRecDepth 100000
theorem count_of_last (t c : Int) : ∀ l : List Rc, lastR l t = 0 → countR l t c = 0 := list_snoc _ (fun _ => rfl) fun l r ih h => by
 rw [lastR_snoc] at h
 rw [countR_snoc]
 cases hb : (r.txn == t)
 ·rw [hb] at h; simp at h; simpa using ih h
 ·rw [hb] at h; simp at h
theorem last_none (t : Int) : ∀ l : List Rc, lastR l t = 0 → ∀ r ∈ l, r.txn ≠ t := list_snoc _ (fun _ r hr => by cases hr) fun l r ih h x hx => by
 rw [lastR_snoc] at h
 cases hb : (r.txn == t)
 ·rw [hb] at h
  simp at h
  rcases List.mem_append.1 hx with hx | hx
  ·exact ih h x hx
  ·simp at hx; subst hx; simpa using hb
 ·rw [hb] at h; simp at h
theorem state_not4 {l : List Rc} {t : Int} (h : stateR l t ≠ 4) : countR l t 4 = 0 := by
 by_cases h0 : lastR l t = 0
 ·exact count_of_last t 4 l h0
 ·unfold stateR at h
  rw [if_neg h0] at h
  by_cases h4 : countR l t 4 > 0
  ·rw [if_pos h4] at h; exact absurd rfl h
  ·omega
theorem state_not2 {l : List Rc} {t : Int} (h4 : stateR l t ≠ 4) (h : stateR l t ≠ 2) : countR l t 2 = 0 := by
 have c4 := state_not4 h4
 by_cases h0 : lastR l t = 0
 ·exact count_of_last t 2 l h0
 ·unfold stateR at h
  rw [if_neg h0, if_neg (by omega)] at h
  by_cases h2 : countR l t 2 > 0
  ·rw [if_pos h2] at h; exact absurd rfl h
  ·omega
theorem state_not3 {l : List Rc} {t : Int} (h4 : stateR l t ≠ 4) (h2 : stateR l t ≠ 2) (h : stateR l t ≠ 3) : countR l t 3 = 0 := by
 have c4 := state_not4 h4
 have c2 := state_not2 h4 h2
 by_cases h0 : lastR l t = 0
 ·exact count_of_last t 3 l h0
 ·unfold stateR at h
  rw [if_neg h0, if_neg (by omega), if_neg (by omega)] at h
  by_cases h3 : countR l t 3 > 0
  ·rw [if_pos h3] at h; exact absurd rfl h
  ·omega
theorem follows_ok {l : List Rc} {r : Rc} (h : followsR l r = true) : r.prev = (lastR l r.txn : Nat) ∧ stateR l r.txn ≠ 4 ∧ (stateR l r.txn = 2 → r.kind = 4) ∧ (stateR l r.txn = 3 → r.kind = 3 ∨ r.kind = 4) := by
 unfold followsR at h
 split at h
 ·cases h
 ·rename_i hb
  simp only [Bool.or_eq_true, Bool.and_eq_true, bne_iff_ne, beq_iff_eq, not_or, not_and] at hb
  obtain ⟨h1, h2, h3, h4⟩ := hb
  refine ⟨by simpa using h1, h2, fun e => by simpa using h3 e, fun e => ?_⟩
  by_cases k : r.kind = 3
  ·exact Or.inl k
  ·exact Or.inr (by simpa using h4 e k)
theorem stateR_snoc {l : List Rc} {r : Rc} (he : recErr (l.length + 1 : Nat) r = 0) (hf : followsR l r = true) (t : Int) : stateR (l ++ [r]) t = if r.txn = t then r.kind else stateR l t := by
 by_cases ht : r.txn = t
 ·subst ht
  obtain ⟨_, s4, s2, s3⟩ := follows_ok hf
  have c4 := state_not4 s4
  rw [if_pos rfl]
  unfold stateR
  simp only [lastR_snoc, countR_snoc, beq_self_eq_true, Bool.true_and, if_true]
  rw [if_neg (by omega)]
  rcases recErr_kind he with k | k | k | k
  ·have n2 : stateR l r.txn ≠ 2 := fun e => by have := s2 e; omega
   have n3 : stateR l r.txn ≠ 3 := fun e => by have := s3 e; omega
   have c2 := state_not2 s4 n2
   have c3 := state_not3 s4 n2 n3
   simp [k, c4, c2, c3]
  ·simp [k, c4]
  ·have n2 : stateR l r.txn ≠ 2 := fun e => by have := s2 e; omega
   have c2 := state_not2 s4 n2
   simp [k, c4, c2]
  ·simp [k]
 ·have hb : (r.txn == t) = false := by simpa using ht
  rw [if_neg ht]
  unfold stateR
  simp only [lastR_snoc, countR_snoc, hb, Bool.false_and, Bool.false_eq_true, if_false]
def standRecs (l : List Rc) (t : Int) : List Rc := (standsR l t).filterMap fun n => l[n - 1]?
def standB (l : List Rc) (t : Int) : List Rc := if stateR l t = 4 then [] else standRecs l t
theorem writesR_rec (t : Int) : ∀ l : List Rc, ∀ n ∈ writesR l t, ∃ r, l[n - 1]? = some r ∧ r.txn = t ∧ r.kind = 1 := list_snoc _ (by intro n h; simp [writesR, foldI] at h) fun l r ih n hn => by
 have hm := writesR_mem t (l ++ [r]) n hn
 rw [writesR_snoc] at hn
 have old : n ∈ writesR l t → ∃ q, (l ++ [r])[n - 1]? = some q ∧ q.txn = t ∧ q.kind = 1 := fun hn => by
  obtain ⟨q, hq, h1, h2⟩ := ih n hn
  have := writesR_mem t l n hn
  exact ⟨q, by rw [List.getElem?_append_left (by omega)]; exact hq, h1, h2⟩
 split at hn
 ·rename_i hb
  rw [List.mem_append] at hn
  rcases hn with hn | hn
  ·exact old hn
  ·simp at hn
   subst hn
   simp only [Bool.and_eq_true, beq_iff_eq] at hb
   exact ⟨r, by simp, hb.1, hb.2⟩
 ·exact old hn
theorem standRecs_mem {l : List Rc} {t : Int} {r : Rc} (h : r ∈ standRecs l t) : r ∈ l ∧ r.txn = t ∧ r.kind = 1 := by
 unfold standRecs at h
 rw [List.mem_filterMap] at h
 obtain ⟨n, hn, hr⟩ := h
 obtain ⟨q, hq, h1, h2⟩ := writesR_rec t l n (List.mem_of_mem_take hn)
 rw [hr] at hq
 cases hq
 exact ⟨List.mem_of_getElem? hr, h1, h2⟩
theorem standB_mem {l : List Rc} {t : Int} {r : Rc} (h : r ∈ standB l t) : r ∈ l ∧ r.txn = t ∧ r.kind = 1 := by
 unfold standB at h
 split at h
 ·cases h
 ·exact standRecs_mem h
theorem filterMap_snoc_old (l : List Rc) (r : Rc) (ns : List Nat) (h : ∀ n ∈ ns, 1 ≤ n ∧ n ≤ l.length) : (ns.filterMap fun n => (l ++ [r])[n - 1]?) = ns.filterMap fun n => l[n - 1]? := by
 induction ns with
 | nil => rfl
 | cons n ns ih =>
  have hn := h n (by simp)
  have e : (l ++ [r])[n - 1]? = l[n - 1]? := List.getElem?_append_left (by omega)
  simp only [List.filterMap_cons, e, ih (fun m hm => h m (by simp [hm]))]
theorem standRecs_length (l : List Rc) (t : Int) : (standRecs l t).length = (standsR l t).length := by
 unfold standRecs
 have : ∀ ns : List Nat, (∀ n ∈ ns, ∃ r, l[n - 1]? = some r) → (ns.filterMap fun n => l[n - 1]?).length = ns.length := by
  intro ns
  induction ns with
  | nil => intro _; rfl
  | cons n ns ih =>
   intro h
   obtain ⟨r, hr⟩ := h n (by simp)
   simp only [List.filterMap_cons, hr, List.length_cons, ih (fun m hm => h m (by simp [hm]))]
 exact this _ fun n hn => let ⟨r, hr, _⟩ := writesR_rec t l n (List.mem_of_mem_take hn); ⟨r, hr⟩
theorem standRecs_other {l : List Rc} {r : Rc} {t : Int} (ht : r.txn ≠ t) : standRecs (l ++ [r]) t = standRecs l t := by
 have hb : (r.txn == t) = false := by simpa using ht
 have e : standsR (l ++ [r]) t = standsR l t := by unfold standsR; simp only [writesR_snoc, countR_snoc, hb, Bool.false_and, Bool.false_eq_true, if_false]
 unfold standRecs
 rw [e]
 exact filterMap_snoc_old l r _ fun n hn => standsR_mem hn
theorem standB_other {l : List Rc} {r : Rc} (he : recErr (l.length + 1 : Nat) r = 0) (hf : followsR l r = true) {t : Int} (ht : r.txn ≠ t) : standB (l ++ [r]) t = standB l t := by
 unfold standB
 rw [stateR_snoc he hf, if_neg ht, standRecs_other ht]
theorem standB_write {l : List Rc} {r : Rc} (he : recErr (l.length + 1 : Nat) r = 0) (hf : followsR l r = true) (k : r.kind = 1) : standB (l ++ [r]) r.txn = standB l r.txn ++ [r] := by
 obtain ⟨_, s4, s2, s3⟩ := follows_ok hf
 have n2 : stateR l r.txn ≠ 2 := fun e => by have := s2 e; omega
 have n3 : stateR l r.txn ≠ 3 := fun e => by have := s3 e; omega
 have c3 := state_not3 s4 n2 n3
 unfold standB
 rw [stateR_snoc he hf, if_pos rfl, if_neg (by omega), if_neg s4]
 unfold standRecs
 have e : standsR (l ++ [r]) r.txn = standsR l r.txn ++ [l.length + 1] := by
  unfold standsR
  simp only [writesR_snoc, countR_snoc, beq_self_eq_true, Bool.true_and, k, c3]
  simp
  exact List.take_of_length_le (by simp)
 rw [e, List.filterMap_append, filterMap_snoc_old l r _ fun n hn => standsR_mem hn]
 simp
theorem standB_commit {l : List Rc} {r : Rc} (he : recErr (l.length + 1 : Nat) r = 0) (hf : followsR l r = true) (k : r.kind = 2) : standB (l ++ [r]) r.txn = standB l r.txn := by
 obtain ⟨_, s4, _, _⟩ := follows_ok hf
 unfold standB
 rw [stateR_snoc he hf, if_pos rfl, if_neg (by omega), if_neg s4]
 unfold standRecs
 have e : standsR (l ++ [r]) r.txn = standsR l r.txn := by
  unfold standsR
  simp [writesR_snoc, countR_snoc, k]
 rw [e]
 exact filterMap_snoc_old l r _ fun n hn => standsR_mem hn
theorem standB_end {l : List Rc} {r : Rc} (he : recErr (l.length + 1 : Nat) r = 0) (hf : followsR l r = true) (k : r.kind = 4) : standB (l ++ [r]) r.txn = [] := by
 unfold standB
 rw [stateR_snoc he hf, if_pos rfl, if_pos k]
theorem standB_back {l : List Rc} {r : Rc} (hR : Right l) (he : recErr (l.length + 1 : Nat) r = 0) (hf : followsR l r = true) (k : r.kind = 3) : standB (l ++ [r]) r.txn = (standB l r.txn).dropLast := by
 obtain ⟨_, s4, _, _⟩ := follows_ok hf
 obtain ⟨n, w, hs, _⟩ := follows_back k hf
 have hne : standsR l r.txn ≠ [] := by intro e; rw [e] at hs; cases hs
 unfold standB
 rw [stateR_snoc he hf, if_pos rfl, if_neg (by omega), if_neg s4]
 unfold standRecs
 have hb := right_backs l hR r.txn
 have e : standsR (l ++ [r]) r.txn = (standsR l r.txn).dropLast := by
  unfold standsR
  simp only [writesR_snoc, countR_snoc, beq_self_eq_true, Bool.true_and, k]
  simp only [show ((3 : Int) == 1) = false from rfl, Bool.false_eq_true, if_false, if_true]
  have : 0 < (standsR l r.txn).length := List.length_pos_iff.2 hne
  unfold standsR at this
  rw [List.length_take] at this
  rw [List.dropLast_eq_take, List.length_take, List.take_take]
  congr 1
  omega
 rw [e, filterMap_snoc_old l r _ fun m hm => standsR_mem (List.dropLast_subset _ hm)]
 have hl := List.dropLast_concat_getLast hne
 obtain ⟨q, hq, _⟩ := writesR_rec r.txn l _ (List.mem_of_mem_take (List.getLast_mem hne))
 conv => rhs; rw [← hl, List.filterMap_append]
 simp [hq]
def heldBy (l : List Rc) (p : Int × Int) (t : Int) : Nat := ((standB l t).filter fun r => p.1 == r.page && p.2 == r.cell).length
theorem held_pos {l : List Rc} {p : Int × Int} {t : Int} : 0 < heldBy l p t ↔ ∃ r ∈ standB l t, r.page = p.1 ∧ r.cell = p.2 := by
 unfold heldBy
 rw [List.length_pos_iff_exists_mem]
 constructor
 ·rintro ⟨r, hr⟩
  rw [List.mem_filter] at hr
  simp only [Bool.and_eq_true, beq_iff_eq] at hr
  exact ⟨r, hr.1, hr.2.1.symm, hr.2.2.symm⟩
 ·rintro ⟨r, hr, h1, h2⟩
  exact ⟨r, List.mem_filter.2 ⟨hr, by simp [h1, h2]⟩⟩
theorem right_txn : ∀ l, Right l → ∀ r ∈ l, 1 ≤ r.txn ∧ r.txn ≤ 9 := right_ind _ (fun r hr => by cases hr) fun l r _ ih he _ x hx => by
 rcases List.mem_append.1 hx with hx | hx
 ·exact ih x hx
 ·simp at hx; subst hx; exact recErr_txn he
theorem hits_iff (l : List Rc) (t p c : Int) : (standsR l t).any (hitAt l p c) = true ↔ ∃ r ∈ standRecs l t, r.page = p ∧ r.cell = c := by
 rw [List.any_eq_true]
 unfold standRecs hitAt
 constructor
 ·rintro ⟨n, hn, h⟩
  cases hl : l[n - 1]? with
  | none => rw [hl] at h; cases h
  | some r =>
   rw [hl] at h
   simp only [Bool.and_eq_true, beq_iff_eq] at h
   exact ⟨r, List.mem_filterMap.2 ⟨n, hn, hl⟩, h⟩
 ·rintro ⟨r, hr, h1, h2⟩
  obtain ⟨n, hn, hl⟩ := List.mem_filterMap.1 hr
  exact ⟨n, hn, by rw [hl]; simp [h1, h2]⟩
theorem taken_iff {l : List Rc} (hR : Right l) (t p c : Int) : takenR l t p c = true ↔ ∃ u, u ≠ t ∧ 0 < heldBy l (p, c) u := by
 unfold takenR
 rw [List.any_eq_true]
 constructor
 ·rintro ⟨j, _, h⟩
  rw [takenAt_eq] at h
  simp only [Bool.and_eq_true, bne_iff_ne] at h
  obtain ⟨h1, h2, h3⟩ := h
  refine ⟨((j + 1 : Nat) : Int), h1, held_pos.2 ?_⟩
  obtain ⟨r, hr, hp⟩ := (hits_iff _ _ _ _).1 h3
  exact ⟨r, by unfold standB; rw [if_neg h2]; exact hr, hp⟩
 ·rintro ⟨u, hu, h⟩
  obtain ⟨r, hr, hp⟩ := held_pos.1 h
  obtain ⟨hl, htx, _⟩ := standB_mem hr
  have hb := right_txn l hR r hl
  rw [htx] at hb
  refine ⟨(u - 1).toNat, List.mem_range.2 (by omega), ?_⟩
  have e : (((u - 1).toNat + 1 : Nat) : Int) = u := by omega
  rw [e, takenAt_eq]
  unfold standB at hr
  split at hr
  ·cases hr
  ·rename_i h4
   simp only [Bool.and_eq_true, bne_iff_ne]
   exact ⟨hu, h4, (hits_iff _ _ _ _).2 ⟨r, hr, hp⟩⟩
def allowsB (s : Int) (n : Nat) (k : Int) : Bool := if k = 1 ∨ k = 2 then s == 0 || s == 1 else if k = 3 then decide (0 < n) && s != 2 else if k = 4 then s == 2 || (s == 3 && n == 0) else false
def backB (last : Int) (st : List Rc) : Rc := match st.getLast? with | none => ⟨0, 0, 0, 0, 0, 0, 0, 0⟩ | some w => ⟨3, w.txn, last, w.page, w.cell, w.new, w.old, w.prev⟩
def clashB (l : List Rc) (r : Rc) (h : Int × Int) : Bool := r.old != (pagesR l).getD (r.page.toNat * 4 + r.cell.toNat) 0 || (decide (0 < h.2) && h.1 != r.txn)
def mayNotB (l : List Rc) (r : Rc) (h : Int × Int) : Bool :=
 r.prev != (lastR l r.txn : Nat) || (!allowsB (stateR l r.txn) (standB l r.txn).length r.kind || ((r.kind == 1 && clashB l r h) || (r.kind == 3 && !eqRc r (backB (lastR l r.txn : Nat) (standB l r.txn)))))
def HoldOk (l : List Rc) (p : Int × Int) (h : Int × Int) : Prop := (0 < h.2 → 0 < heldBy l p h.1) ∧ (∀ t, 0 < heldBy l p t → 0 < h.2 ∧ h.1 = t)
theorem stateR_range (l : List Rc) (t : Int) : stateR l t = 0 ∨ stateR l t = 1 ∨ stateR l t = 2 ∨ stateR l t = 3 ∨ stateR l t = 4 := by
 unfold stateR; split
 ·simp
 ·split
  ·simp
  ·split
   ·simp
   ·split <;> simp
theorem stand_of_4 {l : List Rc} {t : Int} (h : stateR l t = 4) : standB l t = [] := by unfold standB; rw [if_pos h]
theorem stand_of_n4 {l : List Rc} {t : Int} (h : stateR l t ≠ 4) : standB l t = standRecs l t := by unfold standB; rw [if_neg h]
theorem standRecs_last (l : List Rc) (t : Int) : (standRecs l t).getLast? = (standsR l t).getLast?.bind fun n => l[n - 1]? := by
 rcases List.eq_nil_or_concat (standsR l t) with h | ⟨ms, n, h⟩
 ·unfold standRecs; rw [h]; rfl
 ·rw [List.concat_eq_append] at h
  obtain ⟨r, hr, _⟩ := writesR_rec t l n (List.mem_of_mem_take (show n ∈ standsR l t by rw [h]; simp))
  unfold standRecs
  rw [h, List.filterMap_append]
  simp [hr]
theorem back_case {l : List Rc} {txn prev page cell old new next : Int} {c : Bool} (h4 : stateR l txn ≠ 4) (hb : followsBad l ⟨3, txn, prev, page, cell, old, new, next⟩ = false) (h2 : stateR l txn ≠ 2) (hp : prev = (lastR l txn : Nat)) :
  (!allowsB (stateR l txn) (standB l txn).length 3 || (((3 : Int) == 1 && c) || ((3 : Int) == 3 && !eqRc ⟨3, txn, prev, page, cell, old, new, next⟩ (backB (lastR l txn : Nat) (standB l txn))))) = !followsR l ⟨3, txn, prev, page, cell, old, new, next⟩ := by
 rw [follows_3 hb, stand_of_n4 h4]
 unfold backB
 rw [standRecs_last, standRecs_length]
 rcases List.eq_nil_or_concat (standsR l txn) with h | ⟨ms, n, h⟩
 ·rw [h]; simp [allowsB]
 ·rw [List.concat_eq_append] at h
  obtain ⟨w, hw, ht, hk⟩ := writesR_rec txn l n (List.mem_of_mem_take (show n ∈ standsR l txn by rw [h]; simp))
  have ha : allowsB (stateR l txn) (standsR l txn).length 3 = true := by rw [h]; simp [allowsB, h2]
  rw [ha, h]
  simp only [List.getLast?_append, List.getLast?_singleton, Option.some_or, Option.bind_some, hw]
  simp only [eqRc, ht, hp, beq_self_eq_true, Bool.true_and, Bool.not_true, Bool.false_or, show ((3 : Int) == 1) = false from rfl, Bool.false_and]
theorem mayNot_eq {l : List Rc} (hR : Right l) {r : Rc} (he : recErr (l.length + 1 : Nat) r = 0) {h : Int × Int} (hh : HoldOk l (r.page, r.cell) h) : mayNotB l r h = !followsR l r := by
 obtain ⟨kind, txn, prev, page, cell, old, new, next⟩ := r
 have hk := recErr_kind he
 dsimp only at hk hh
 unfold mayNotB
 dsimp only
 rcases beq_or (prev != (lastR l txn : Nat)) with hp | hp
 ·rw [hp, Bool.true_or, follows_bad (by unfold followsBad; dsimp only; rw [hp]; rfl)]; rfl
 rw [hp, Bool.false_or]
 have tk : (decide (0 < h.2) && h.1 != txn) = takenR l txn page cell := by
  rw [Bool.eq_iff_iff, taken_iff hR]
  simp only [Bool.and_eq_true, decide_eq_true_eq, bne_iff_ne]
  constructor
  ·rintro ⟨h1, h2⟩
   exact ⟨h.1, h2, hh.1 h1⟩
  ·rintro ⟨u, hu, hp⟩
   obtain ⟨h1, h2⟩ := hh.2 u hp
   exact ⟨h1, by rw [h2]; exact hu⟩
 have lenB : stateR l txn ≠ 4 → (standB l txn).length = (standsR l txn).length := fun h4 => by rw [stand_of_n4 h4, standRecs_length]
 rcases hk with rfl | rfl | rfl | rfl
 ·have hcl : clashB l ⟨1, txn, prev, page, cell, old, new, next⟩ h = (old != (pagesR l).getD (page.toNat * 4 + cell.toNat) 0 || takenR l txn page cell) := by
   unfold clashB; dsimp only; rw [tk]
  generalize hpg : (pagesR l).getD (page.toNat * 4 + cell.toNat) 0 = pg at hcl
  rcases stateR_range l txn with hs | hs | hs | hs | hs
  ·rw [follows_1 (by unfold followsBad; dsimp only; rw [hp, hs]; rfl), hs, hcl, hpg, show allowsB 0 (standB l txn).length 1 = true from rfl]
   show (false || ((true && (old != pg || takenR l txn page cell)) || (false && _))) = _
   simp only [Bool.false_or, Bool.true_and, Bool.false_and, Bool.or_false, bne]
   cases (old == pg) <;> cases takenR l txn page cell <;> rfl
  ·rw [follows_1 (by unfold followsBad; dsimp only; rw [hp, hs]; rfl), hs, hcl, hpg, show allowsB 1 (standB l txn).length 1 = true from rfl]
   show (false || ((true && (old != pg || takenR l txn page cell)) || (false && _))) = _
   simp only [Bool.false_or, Bool.true_and, Bool.false_and, Bool.or_false, bne]
   cases (old == pg) <;> cases takenR l txn page cell <;> rfl
  ·rw [follows_bad (by unfold followsBad; dsimp only; rw [hp, hs]; rfl), hs]
   rfl
  ·rw [follows_bad (by unfold followsBad; dsimp only; rw [hp, hs]; rfl), hs]
   rfl
  ·rw [follows_bad (by unfold followsBad; dsimp only; rw [hp, hs]; rfl), hs]
   rfl
 ·rcases stateR_range l txn with hs | hs | hs | hs | hs
  ·rw [follows_2 (by unfold followsBad; dsimp only; rw [hp, hs]; rfl), hs]
   rfl
  ·rw [follows_2 (by unfold followsBad; dsimp only; rw [hp, hs]; rfl), hs]
   rfl
  ·rw [follows_bad (by unfold followsBad; dsimp only; rw [hp, hs]; rfl), hs]
   rfl
  ·rw [follows_bad (by unfold followsBad; dsimp only; rw [hp, hs]; rfl), hs]
   rfl
  ·rw [follows_bad (by unfold followsBad; dsimp only; rw [hp, hs]; rfl), hs]
   rfl
 ·rcases stateR_range l txn with hs | hs | hs | hs | hs
  ·exact back_case (by rw [hs]; decide) (by unfold followsBad; dsimp only; rw [hp, hs]; rfl) (by rw [hs]; decide) (by simpa using hp)
  ·exact back_case (by rw [hs]; decide) (by unfold followsBad; dsimp only; rw [hp, hs]; rfl) (by rw [hs]; decide) (by simpa using hp)
  ·rw [follows_bad (by unfold followsBad; dsimp only; rw [hp, hs]; rfl), hs]
   have e : allowsB 2 (standB l txn).length 3 = false := by simp [allowsB]
   rw [e]; rfl
  ·exact back_case (by rw [hs]; decide) (by unfold followsBad; dsimp only; rw [hp, hs]; rfl) (by rw [hs]; decide) (by simpa using hp)
  ·rw [follows_bad (by unfold followsBad; dsimp only; rw [hp, hs]; rfl), hs, stand_of_4 hs]
   rfl
 ·rcases stateR_range l txn with hs | hs | hs | hs | hs
  ·rw [follows_4 (by unfold followsBad; dsimp only; rw [hp, hs]; rfl), hs]
   simp [allowsB]
  ·rw [follows_4 (by unfold followsBad; dsimp only; rw [hp, hs]; rfl), hs]
   simp [allowsB]
  ·rw [follows_4 (by unfold followsBad; dsimp only; rw [hp, hs]; rfl), hs]
   simp [allowsB]
  ·rw [follows_4 (by unfold followsBad; dsimp only; rw [hp, hs]; rfl), lenB (by omega), hs]
   cases standsR l txn <;> simp [allowsB]
  ·rw [follows_bad (by unfold followsBad; dsimp only; rw [hp, hs]; rfl), hs]
   simp [allowsB]
end Go.Proofs.YtibfgbmhmdggmaaGreatDoor.B
