/- The contracts of the book's New and Read, and of the log's Check and Pages. -/
import Derived.Test.YtgojonhjhdbpkaaBook11
namespace Go.Proofs.Ytgojonhjhdbpkaa.B
set_option maxRecDepth 100000
open Go.ChangeShapes Go.WideShapes Go.ChangeAt Go.RowKit

theorem put_more {base pb mt mh : Nat} {l : List Rc} {tx : List TxE} {ho : List HE} (r : Rc) (w : World) (h : BookOk w base pb mt mh l tx ho) :
    Calls Try.prog 71 #[.pointer (some ⟨pb, 0, none⟩), r.val] w fun e w' => e = .returned (.int .i64 (stepErr l r)) ∧ Below base w w' ∧ (stepErr l r = 0 → ∃ tx' ho', BookOk w' base pb mt mh (l ++ [r]) tx' ho' ∧ Else pb mt mh tx tx' w w') := by
  have hb0 : base ≤ w.heap.size := by have := h.ge; have := h.blk.lt; omega
  unfold stepErr
  by_cases hr : recErr (l.length + 1 : Nat) r = 0
  · rw [hr]
    cases hf : followsR l r
    · refine (put_bad2 r w h hr hf).mono ?_
      rintro e w' ⟨rfl, hw⟩
      exact ⟨rfl, Below.mono hw hb0, fun h0 => by simp at h0⟩
    · refine (put_good r w h hr hf).mono ?_
      rintro e w' ⟨rfl, hw, hx⟩
      exact ⟨rfl, hw, fun _ => hx⟩
  · have hb : (recErr (l.length + 1 : Nat) r != 0) = true := by simpa using hr
    rw [hb, if_pos rfl]
    refine (put_bad1 r w h hr).mono ?_
    rintro e w' ⟨rfl, hw⟩
    exact ⟨rfl, Below.mono hw hb0, fun h0 => absurd h0 hr⟩
theorem put_any {base pb mt mh : Nat} {l : List Rc} {tx : List TxE} {ho : List HE} (r : Rc) (w : World) (h : BookOk w base pb mt mh l tx ho) :
    Calls Try.prog 71 #[.pointer (some ⟨pb, 0, none⟩), r.val] w fun e w' => e = .returned (.int .i64 (stepErr l r)) ∧ Below base w w' ∧ (stepErr l r = 0 → ∃ tx' ho', BookOk w' base pb mt mh (l ++ [r]) tx' ho') :=
  (put_more r w h).mono fun _ _ ⟨h1, h2, h3⟩ => ⟨h1, h2, fun h0 => let ⟨tx', ho', hb, _⟩ := h3 h0; ⟨tx', ho', hb⟩⟩
theorem mapAt_new {K : Type} (w : World) (f : K → Value) : MapAt f (w.alloc (.map #[] 0)) w.heap.size [] := ⟨#[], 0, by unfold World.alloc; simp, rfl⟩
theorem stand_nil (t : Int) : standB [] t = [] := by
  unfold standB
  split <;> rfl
set_option maxHeartbeats 2000000 in
set_option maxRecDepth 100000 in
theorem new_any (w : World) :
    Calls Try.prog 70 #[] w fun e w' => ∃ pb mt mh, e = .returned (.pointer (some ⟨pb, 0, none⟩)) ∧ Ext w w' ∧ BookOk w' w.heap.size pb mt mh [] [] [] := by
  have mm : ∀ (t : TypeId) (w : World), (Instr.makeMap t none).run Try.prog w = .ok (.map (some w.heap.size)) (w.alloc (.map #[] 0)) := fun t w => rfl
  go_enter Try.func70, Try.ntmps70
  go_wp2_with fail
  go_ret
  have hm0 : MapAt keyI ((w.alloc (.map #[] 0)).alloc (.map #[] 0)) w.heap.size (([] : List TxE).map TxE.ent) := (mapAt_new w keyI).ext ((Ext.refl _).alloc _)
  have hm1 : MapAt keyP ((w.alloc (.map #[] 0)).alloc (.map #[] 0)) (w.heap.size + 1) (([] : List HE).map hoEnt) := by
    have := mapAt_new (w.alloc (.map #[] 0)) keyP
    rw [show (w.alloc (.map #[] 0)).heap.size = w.heap.size + 1 from by simp] at this
    exact this
  refine ⟨w.heap.size + 1 + 1, w.heap.size, w.heap.size + 1, rfl, (((Ext.refl w).alloc _).alloc _).alloc _, ?_, hm0.ext ((Ext.refl _).alloc _), hm1.ext ((Ext.refl _).alloc _), fun t ht => (by cases ht), List.Pairwise.nil, by omega, by omega, right_nil, fun t ht => (by cases ht), fun k hk => absurd rfl hk, fun t ht => (by cases ht), fun p t ht => absurd ht (by rw [heldBy_cnt, stand_nil]; exact Nat.lt_irrefl 0), List.Pairwise.nil⟩
  exact Blk.new _ _ _ _ (by simp)
set_option maxHeartbeats 2000000 in
set_option maxRecDepth 100000 in
theorem read_many (a : Option Addr) (len cap : Nat) (w : World) (hl : 60 < len) (hm : len ≤ maxLen) :
    Calls Try.prog 45 #[.slice a len cap] w fun e w' => e = .returned (.tuple #[.pointer none, .int .i64 2]) ∧ Ext w w' := by
  unfold maxLen at hm
  have hd : decide ((60 : Int) < len) = true := by simpa using (by omega : (60 : Int) < len)
  go_enter Try.func45, Try.ntmps45
  go_wp2_with fail
  go_ret2
  exact ⟨rfl, Ext.refl w⟩
set_option maxHeartbeats 2000000 in
set_option maxRecDepth 100000 in
theorem read_few (a : Option Addr) (len cap : Nat) (l : List Rc) (w : World) (h : Recs w a len l) (hl : len ≤ 60) :
    Calls Try.prog 45 #[.slice a len cap] w fun e w' => ∃ p, e = .returned (.tuple #[p, .int .i64 (errTo l l.length)]) ∧ Ext w w' ∧ ((errTo l l.length = 0 ∧ ∃ pb mt mh tx ho, p = .pointer (some ⟨pb, 0, none⟩) ∧ BookOk w' w.heap.size pb mt mh l tx ho) ∨ (errTo l l.length ≠ 0 ∧ p = .pointer none)) := by
  have hd : decide ((60 : Int) < len) = false := by simpa using (by omega : (len : Int) ≤ 60)
  go_enter Try.func45, Try.ntmps45
  go_wp2_with fail
  refine (new_any w).mono ?_
  rintro e w1 ⟨pb, mt, mh, rfl, hE1, hB⟩
  go_wp2_with fail
  go_loopw [14] (fun i wr => ∃ k : Nat, k ≤ len ∧ i = .int .i64 k ∧ Ext w wr ∧ errTo l k = 0 ∧ ∃ tx ho, BookOk wr w.heap.size pb mt mh (l.take k) tx ho) (fun i _ => len - (intOf i).toNat)
  case atStart => exact ⟨0, Nat.zero_le _, rfl, hE1, rfl, [], [], hB⟩
  case round =>
    obtain ⟨k, hk, rfl, hE, he0, tx, ho, hb⟩ := hrel
    have HE := (show Hid (Ext w wr) from hE)
    by_cases hlt : k < len
    · obtain ⟨b, off, rfl, hkl, h0, h1, h2, h3, h4, h5, h6, h7⟩ := (h.ext hE).at hlt
      have HS : Hid (errTo l (k + 1) = stepErr (l.take k) l[k]) := by
        unfold Hid
        rw [errTo, he0]
        simp [hkl]
      have HT := (show Hid (l.take (k + 1) = l.take k ++ [l[k]]) from take_snoc l k hkl)
      have HKL := (show Hid (k < l.length) from hkl)
      have HN := (show Hid (l.length = len) from h.len)
      have HZ := (show Hid (errTo l k = 0) from he0)
      have HB := (show Hid (BookOk wr w.heap.size pb mt mh (l.take k) tx ho) from hb)
      clear he0 hb h hB hE
      generalize l[k] = r at *
      clear hkl
      go_wp2_with fail
      refine (put_any r _ (HB.out.ext ((Ext.refl wr).alloc _))).mono ?_
      rintro e w2 ⟨rfl, hw2, hgo⟩
      have hE2 : Ext w w2 := Below.trans (HE.out.alloc _) hw2
      have HG := (show Hid (stepErr (l.take k) r = 0 → ∃ tx' ho', BookOk w2 w.heap.size pb mt mh (l.take k ++ [r]) tx' ho') from hgo)
      clear hgo hw2
      cases hse : (stepErr (l.take k) r != 0)
      · have HS0 : Hid (stepErr (l.take k) r = 0) := by unfold Hid; simpa using hse
        go_wp2_with fail
        go_roundw
        case rel => exact ⟨k + 1, by omega, by go_num, hE2, by rw [HS.out]; exact HS0.out, by rw [HT.out]; exact HG.out HS0.out⟩
        case measure => simp [intOf]; omega
      · have HS0 : Hid (stepErr (l.take k) r ≠ 0) := by unfold Hid; simpa using hse
        go_wp2_with fail
        go_ret2
        have hk1 : errTo l l.length = stepErr (l.take k) r := by rw [← HS.out]; have hk2 := errTo_keep l (k + 1) (by rw [HS.out]; exact HS0.out) (l.length - (k + 1)); have hk3 := HKL.out; rw [show k + 1 + (l.length - (k + 1)) = l.length from by omega] at hk2; exact hk2
        exact ⟨_, by rw [hk1]; rfl, hE2, Or.inr ⟨by rw [hk1]; exact HS0.out, rfl⟩⟩
    · have hkn : k = l.length := by have := h.len; omega
      have HF : Hid (l.take k = l) := List.take_of_length_le (by omega)
      have HZ : Hid (errTo l l.length = 0) := by rw [← hkn]; exact he0
      go_wp2_with fail
      go_ret2
      rw [HF.out] at hb
      exact ⟨_, by rw [HZ.out]; rfl, HE.out, Or.inl ⟨HZ.out, pb, mt, mh, tx, ho, rfl, hb⟩⟩
end Go.Proofs.Ytgojonhjhdbpkaa.B
