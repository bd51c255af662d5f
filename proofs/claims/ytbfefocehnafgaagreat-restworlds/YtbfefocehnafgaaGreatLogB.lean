/- The contracts of the reference's follows and LogError, PagesOf, StateOf. The contract of the reference's PagesOf. -/
import Derived.Test.YtbfefocehnafgaaGreatLog6
import Derived.Test.YtbfefocehnafgaaGreatLogA
namespace Go.Proofs.YtbfefocehnafgaaGreat.B
set_option maxRecDepth 100000
open Go.ChangeShapes Go.WideShapes Go.ChangeAt Go.RowKit

theorem beq_or (b : Bool) : b = true ∨ b = false := by cases b <;> simp
theorem follows_any (a : Option Addr) (len cap : Nat) (l : List Rc) (r : Rc) (n : Int) (w : World) (h : Recs w a len l) (hl : len ≤ 1000) (hb : Backs l) (hf : Fits l) (hr : recErr n r = 0) :
    Calls Tryz.prog 78 #[.slice a len cap, r.val] w fun e w' => e = .returned (.bool (followsR l r)) ∧ Ext w w' := by
  have hk := recErr_kind hr
  have hfit := fun ht => recErr_fits hr ht
  obtain ⟨kind, txn, prev, page, cell, old, new, next⟩ := r
  rcases beq_or (prev != (lastR l txn : Nat)) with hp | hp
  · exact follows_prev a len cap l kind txn prev page cell old new next w h hl hp
  rcases beq_or (stateR l txn == 4) with h4 | h4
  · exact follows_s4 a len cap l kind txn prev page cell old new next w h hl hp h4
  rcases beq_or (stateR l txn == 2) with h2 | h2
  · rcases beq_or (kind != 4) with k4 | k4
    · exact follows_s2 a len cap l kind txn prev page cell old new next w h hl hp h4 h2 k4
    · obtain rfl : kind = 4 := by simpa using k4
      exact follows_c4a a len cap l txn prev page cell old new next w h hl hp h4 h2 hb
  rcases beq_or (stateR l txn == 3) with h3 | h3
  · rcases beq_or (kind != 3) with k3 | k3
    · rcases beq_or (kind != 4) with k4 | k4
      · exact follows_s3 a len cap l kind txn prev page cell old new next w h hl hp h4 h2 h3 k3 k4
      · obtain rfl : kind = 4 := by simpa using k4
        exact follows_c4b a len cap l txn prev page cell old new next w h hl hp h4 h2 h3 hb
    · obtain rfl : kind = 3 := by simpa using k3
      exact follows_c3b a len cap l txn prev page cell old new next w h hl hp h4 h2 h3 hb
  dsimp only at hk
  rcases hk with rfl | rfl | rfl | rfl
  · obtain ⟨p0, p2, q0, q2⟩ := hfit rfl
    dsimp only at p0 p2 q0 q2
    obtain rfl | rfl | rfl : page = 0 ∨ page = 1 ∨ page = 2 := by omega
    · obtain rfl | rfl | rfl : cell = 0 ∨ cell = 1 ∨ cell = 2 := by omega
      · exact follows_c1_00 a len cap l txn prev old new next w h hl hp h4 h2 h3 hb hf
      · exact follows_c1_01 a len cap l txn prev old new next w h hl hp h4 h2 h3 hb hf
      · exact follows_c1_02 a len cap l txn prev old new next w h hl hp h4 h2 h3 hb hf
    · obtain rfl | rfl | rfl : cell = 0 ∨ cell = 1 ∨ cell = 2 := by omega
      · exact follows_c1_10 a len cap l txn prev old new next w h hl hp h4 h2 h3 hb hf
      · exact follows_c1_11 a len cap l txn prev old new next w h hl hp h4 h2 h3 hb hf
      · exact follows_c1_12 a len cap l txn prev old new next w h hl hp h4 h2 h3 hb hf
    · obtain rfl | rfl | rfl : cell = 0 ∨ cell = 1 ∨ cell = 2 := by omega
      · exact follows_c1_20 a len cap l txn prev old new next w h hl hp h4 h2 h3 hb hf
      · exact follows_c1_21 a len cap l txn prev old new next w h hl hp h4 h2 h3 hb hf
      · exact follows_c1_22 a len cap l txn prev old new next w h hl hp h4 h2 h3 hb hf
  · exact follows_c2 a len cap l txn prev page cell old new next w h hl hp h4 h2 h3 hb
  · exact follows_c3a a len cap l txn prev page cell old new next w h hl hp h4 h2 h3 hb
  · exact follows_c4c a len cap l txn prev page cell old new next w h hl hp h4 h2 h3 hb

theorem Recs.take {w : World} {a : Option Addr} {len : Nat} {l : List Rc} (h : Recs w a len l) (k : Nat) (hk : k ≤ len) : Recs w a k (l.take k) := by
  obtain ⟨hl, h⟩ := h
  refine ⟨by rw [List.length_take]; omega, ?_⟩
  rcases h with ⟨ha, h0⟩ | ⟨b, off, ha, hc⟩
  · exact Or.inl ⟨ha, by omega⟩
  · refine Or.inr ⟨b, off, ha, fun i hi => ?_⟩
    rw [List.length_take] at hi
    rw [List.getElem_take]
    exact hc i (by omega)

set_option maxHeartbeats 1000000 in
set_option maxRecDepth 100000 in
theorem logError_any (a : Option Addr) (len cap : Nat) (l : List Rc) (w : World) (h : Recs w a len l) (hcap : len ≤ cap) (hm : len ≤ maxLen) :
    Calls Tryz.prog 41 #[.slice a len cap] w fun e w' => e = .returned (.int .i64 (logErr l)) ∧ Ext w w' := by
  unfold maxLen at hm
  by_cases h60 : 60 < len
  · have HL : Hid (logErr l = 2) := by unfold Hid logErr; rw [if_pos (by rw [h.len]; exact h60)]
    have hi : (60 : Int) < (len : Int) := by omega
    go_enter Tryz.func41, Tryz.ntmps41
    go_wp2_with fail
    go_ret
    exact ⟨by rw [HL.out]; rfl, Ext.refl _⟩
  · have HL : Hid (logErr l = errTo l len) := by unfold Hid logErr; rw [if_neg (by rw [h.len]; exact h60), h.len]
    have hi : (len : Int) ≤ 60 := by omega
    go_enter Tryz.func41, Tryz.ntmps41
    go_wp2_with fail
    go_loopw [3] (fun i wr => ∃ k : Nat, k ≤ len ∧ i = .int .i64 k ∧ Ext w wr ∧ errTo l k = 0) (fun i _ => len - (intOf i).toNat)
    case atStart => exact ⟨0, Nat.zero_le _, rfl, Ext.refl _, rfl⟩
    case round =>
      obtain ⟨k, hk, rfl, hE, hz⟩ := hrel
      by_cases hlt : k < len
      · obtain ⟨b, off, rfl, hkl, hrecw⟩ := h.at hlt
        have hrec := hrecw.ext hE
        have hlen := h.len
        have hR : Right (l.take k) := (right_take (by omega)).1 hz
        have HSu : Hid (errTo l (k + 1) = stepErr (l.take k) l[k]) := by rw [Hid, errTo_succ l k hkl, hz]; rfl
        have HTL : Hid ((l.take k).length = k) := List.length_take_of_le (by omega)
        have HMo : Hid (∀ e, errTo l (k + 1) = e → e ≠ 0 → errTo l len = e) := fun e he h0 => by have hk' := errTo_keep l (k + 1) (by rw [he]; exact h0) (len - (k + 1)); rw [show k + 1 + (len - (k + 1)) = len from by omega] at hk'; rw [hk', he]
        obtain ⟨h0, h1, h2, h3, h4, h5, h6, h7⟩ := hrec
        generalize l[k] = r at *
        go_wp2_with fail
        refine (recError_any ((k : Int) + 1) r _).mono ?_
        rintro e w1 ⟨rfl, hw1⟩
        have hE1 := hE.trans hw1
        have HN : Hid (((((l.take k).length + 1 : Nat) : Int)) = (k : Int) + 1) := by rw [Hid, HTL.out]; rfl
        cases hne : (recErr ((k : Int) + 1) r != 0)
        · have hr0 : recErr ((k : Int) + 1) r = 0 := by simpa using hne
          have HE : Hid (stepErr (l.take k) r = if followsR (l.take k) r then 0 else 1) := by
            unfold Hid stepErr; rw [HN.out, hne]; rfl
          have HR0 := (show Hid _ from hr0)
          have HRi := (show Hid _ from hR)
          clear hr0 hR h0 h1 h2 h3 h4 h5 h6 h7 HN
          have hk0 : (0 : Int) ≤ (k : Int) := by omega
          have hkc : (k : Int) ≤ (cap : Int) := by omega
          have hkl2 : (k : Int) < (len : Int) := by omega
          go_wp2_with fail
          refine wp_region_calm (by kernel_rfl) (by kernel_rfl) (fun F hF => ?_)
          have c0 : ∀ x, (F x).cell? ⟨b, off + k * 8, none⟩ = some (.int .i64 r.kind) := fun x => ((hrecw.ext hE1).ext (hF.ext x)).1
          have c1 : ∀ x, (F x).cell? ⟨b, off + k * 8 + 1, none⟩ = some (.int .i64 r.txn) := fun x => ((hrecw.ext hE1).ext (hF.ext x)).2.1
          have c2 : ∀ x, (F x).cell? ⟨b, off + k * 8 + 2, none⟩ = some (.int .i64 r.prev) := fun x => ((hrecw.ext hE1).ext (hF.ext x)).2.2.1
          have c3 : ∀ x, (F x).cell? ⟨b, off + k * 8 + 3, none⟩ = some (.int .i64 r.page) := fun x => ((hrecw.ext hE1).ext (hF.ext x)).2.2.2.1
          have c4 : ∀ x, (F x).cell? ⟨b, off + k * 8 + 4, none⟩ = some (.int .i64 r.cell) := fun x => ((hrecw.ext hE1).ext (hF.ext x)).2.2.2.2.1
          have c5 : ∀ x, (F x).cell? ⟨b, off + k * 8 + 5, none⟩ = some (.int .i64 r.old) := fun x => ((hrecw.ext hE1).ext (hF.ext x)).2.2.2.2.2.1
          have c6 : ∀ x, (F x).cell? ⟨b, off + k * 8 + 6, none⟩ = some (.int .i64 r.new) := fun x => ((hrecw.ext hE1).ext (hF.ext x)).2.2.2.2.2.2.1
          have c7 : ∀ x, (F x).cell? ⟨b, off + k * 8 + 7, none⟩ = some (.int .i64 r.next) := fun x => ((hrecw.ext hE1).ext (hF.ext x)).2.2.2.2.2.2.2
          repeat (go_big_quiet_step ((go_at_call 78; exact hF.call (follows_any (some ⟨b, off, none⟩) k cap (l.take k) r ((k : Int) + 1) _ ((h.ext (hE1.trans (hF.ext _))).take k (by omega)) (by omega) (right_backs _ HRi.out) (right_fits _ HRi.out) HR0.out))))
          refine wpQuiet_nil ?_
          rintro _ ⟨v, rfl⟩
          clear c0 c1 c2 c3 c4 c5 c6 c7
          have hE2 := hE1.trans (hF.ext v)
          cases hfo : followsR (l.take k) r
          · have HLe : Hid (logErr l = 1) := by
              rw [Hid, HL.out]; exact HMo.out _ (by rw [HSu.out, HE.out, hfo]; rfl) (by decide)
            clear hfo
            go_wp2_with fail
            go_ret
            exact ⟨by rw [HLe.out]; rfl, hE2⟩
          · have HZ : Hid (errTo l (k + 1) = 0) := by rw [Hid, HSu.out, HE.out, hfo]; rfl
            clear hfo
            go_wp2_with fail
            go_roundw
            case rel => exact ⟨k + 1, by omega, by go_num, hE2, HZ.out⟩
            case measure => simp [intOf]; omega
        · have HE : Hid (stepErr (l.take k) r = recErr ((k : Int) + 1) r) := by
            unfold Hid stepErr; rw [HN.out, hne]; rfl
          have hne' : recErr ((k : Int) + 1) r ≠ 0 := by simpa using hne
          have HLe : Hid (logErr l = recErr ((k : Int) + 1) r) := by
            rw [Hid, HL.out]; exact HMo.out _ (by rw [HSu.out, HE.out]) hne'
          clear hne'
          go_wp2_with fail
          go_ret
          exact ⟨by rw [HLe.out]; rfl, hE1⟩
      · have HLz : Hid (logErr l = 0) := by rw [Hid, HL.out, ← hz]; congr 1; omega
        clear hz
        go_wp2_with fail
        go_ret
        exact ⟨by rw [HLz.out]; rfl, hE⟩
end Go.Proofs.YtbfefocehnafgaaGreat.B
namespace Go.Proofs.YtbfefocehnafgaaGreat.B
set_option maxRecDepth 100000
open Go.ChangeShapes Go.WideShapes Go.ChangeAt Go.RowKit

/-- The document's answer of Pages. -/
def pagesOrNone (l : List Rc) : List Int := if logErr l = 0 then pagesR l else List.replicate 12 0
theorem logErr_zero {l : List Rc} (h : logErr l = 0) : l.length ≤ 60 ∧ Right l := by
  unfold logErr at h
  split at h
  · omega
  · exact ⟨by omega, h⟩

end Go.Proofs.YtbfefocehnafgaaGreat.B
