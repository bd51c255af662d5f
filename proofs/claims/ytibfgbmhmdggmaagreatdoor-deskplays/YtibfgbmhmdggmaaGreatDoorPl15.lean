/- The contract of the reference's PlayOf. -/
import Derived.Test.YtibfgbmhmdggmaaGreatDoorPl14
namespace Go.Proofs.YtibfgbmhmdggmaaGreatDoor.B
set_option maxHeartbeats 32000000
set_option maxRecDepth 100000
open Go.ChangeShapes Go.WideShapes Go.ChangeAt Go.RowKit
theorem split_snoc_at (c : UInt8) : ∀ p : List UInt8, splitAt' c (p ++ [c]) = splitAt' c p ++ [[]]
 | [] => by simp [splitAt']
 | b :: l => by
  have ih := split_snoc_at c l
  rw [List.cons_append, splitAt', splitAt', ih]
  split
  ·rfl
  ·cases hs : splitAt' c l with
   | nil => exact absurd hs (splitAt_ne c l)
   | cons y ys => rfl
theorem split_snoc_on {c x : UInt8} (hx : x ≠ c) : ∀ (p : List UInt8) {L : List (List UInt8)} {y : List UInt8}, splitAt' c p = L ++ [y] → splitAt' c (p ++ [x]) = L ++ [y ++ [x]]
 | [], L, y, h => by
  rw [splitAt'] at h
  obtain ⟨rfl, rfl⟩ : L = [] ∧ y = [] := by
   cases L with
   | nil => simpa using h.symm
   | cons z zs => simp at h
  simp [splitAt', hx]
 | b :: l, L, y, h => by
  rw [List.cons_append, splitAt']
  rw [splitAt'] at h
  split at h
  ·rename_i hb
   rw [if_pos hb]
   cases L with
   | nil =>
    simp at h
    exact absurd h.2 (splitAt_ne c l)
   | cons z zs =>
    rw [List.cons_append] at h
    injection h with h1 h2
    rw [split_snoc_on hx l h2, h1]
    rfl
  ·rename_i hb
   rw [if_neg hb]
   cases hs : splitAt' c l with
   | nil => exact absurd hs (splitAt_ne c l)
   | cons z zs =>
    rw [hs] at h
    simp only at h
    cases L with
    | nil =>
     simp at h
     obtain ⟨h1, h2⟩ := h
     subst h2
     rw [split_snoc_on hx l (L := []) (y := z) (by rw [hs]; rfl)]
     simp [← h1]
    | cons u us =>
     rw [List.cons_append] at h
     injection h with h1 h2
     rw [split_snoc_on hx l (L := z :: us) (y := y) (by rw [hs, h2]; rfl)]
     simp [h1]
def Cw (w : World) (b : Nat) (W : Wd) : Prop :=
 ∃ a cap, Blk w b (wdCells W.p W.q W.r (.slice a W.l.length cap) W.safe) 38 ∧ LogIn w a W.l.length cap W.l ∧ ∀ ad, a = some ad → ad.block ≠ b
theorem Cw.ext {w w' : World} {b : Nat} {W : Wd} (h : Cw w b W) (e : Ext w w') : Cw w' b W := by
 obtain ⟨a, cap, h1, h2, h3⟩ := h
 exact ⟨a, cap, h1.ext e, h2.ext e, h3⟩
theorem LogIn.grl {row : Option Nat} {w w' : World} {a : Option Addr} {len cap : Nat} {l : List Rc} (h : LogIn w a len cap l) (g : Gr row w w') (hn : ∀ ad, a = some ad → 0 < len → some ad.block ≠ row) : LogIn w' a len cap l := by
 by_cases h0 : len = 0
 ·subst h0
  have hl : l = [] := List.length_eq_zero_iff.1 h.recs.1
  subst hl
  refine ⟨⟨rfl, ?_⟩, h.le, h.max, h.nil, fun ad e i hi => by omega⟩
  rcases h.recs.2 with h1 | ⟨b, off, rfl, _⟩
  ·exact Or.inl h1
  ·exact Or.inr ⟨b, off, rfl, fun i hi => by simp at hi⟩
 ·exact h.gr g (fun ad e => hn ad e (by omega))
def Upl (s : List UInt8) (k f : Nat) (L : List (List UInt8)) : Prop := f ≤ k ∧ splitAt' 10 (s.take k) = L ++ [(s.take k).drop f]
theorem upto_on {s : List UInt8} {k f : Nat} {L : List (List UInt8)} (h : Upl s k f L) (hk : k < s.length) (hx : s[k] ≠ 10) : Upl s (k + 1) f L := by
 refine ⟨by have := h.1; omega, ?_⟩
 rw [List.take_succ_eq_append_getElem hk, split_snoc_on hx _ h.2, List.drop_append_of_le_length (by rw [List.length_take]; have := h.1; omega)]
theorem upto_at {s : List UInt8} {k f : Nat} {L : List (List UInt8)} (h : Upl s k f L) (hk : k < s.length) (hx : s[k] = 10) : Upl s (k + 1) (k + 1) (L ++ [(s.take k).drop f]) := by
 refine ⟨Nat.le_refl _, ?_⟩
 rw [List.take_succ_eq_append_getElem hk, hx, split_snoc_at, h.2, show List.drop (k + 1) (List.take k s ++ [10]) = [] from List.drop_eq_nil_of_le (by rw [List.length_append, List.length_take, List.length_singleton]; omega)]
theorem upto_end {s : List UInt8} {f : Nat} {L : List (List UInt8)} (h : Upl s s.length f L) : linesR s = L := by
 have := h.2
 rw [List.take_length] at this
 unfold linesR
 rw [this, List.dropLast_concat]
theorem upto_len {s : List UInt8} {k f : Nat} {L : List (List UInt8)} (h : Upl s k f L) (hc : s.count 10 ≤ 60) : L.length ≤ 60 := by
 have h1 := congrArg List.length h.2
 rw [splitAt_len, List.length_append, List.length_singleton] at h1
 have h2 : (s.take k).count 10 ≤ s.count 10 := (List.take_sublist k s).count_le 10
 omega
theorem count_take {s : List UInt8} {k : Nat} (hk : k < s.length) : (s.take (k + 1)).count 10 = (s.take k).count 10 + if s[k] = 10 then 1 else 0 := by
 rw [List.take_succ_eq_append_getElem hk, List.count_append]
 by_cases h : s[k] = 10
 ·rw [if_pos h, h]; rfl
 ·rw [if_neg h, List.count_singleton]
  simp [h]
theorem last_at {s : List UInt8} (h : 0 < s.length) : s.getLast? = some (s[s.length - 1]'(by omega)) := by
 rw [List.getLast?_eq_getElem?, List.getElem?_eq_getElem]
theorem digits_dg {n : Nat} {dg : List UInt8} (h : digitsR n = dg) (hn : n < 10 ^ 18) (w : World) :
  Calls Tryz.prog 13 #[.int .i64 (n : Nat)] w fun e w' => e = .returned (tx dg) ∧ Ext w w' := by
 rw [← h]
 exact digits_any n hn w
theorem err_cat (gt dg : List UInt8) : ((⟨gt.toArray⟩ : ByteArray) ++ ((⟨#[101, 114, 114, 111, 114, 32]⟩ : ByteArray) ++ ⟨dg.toArray⟩)) ++ ⟨#[10]⟩ = ⟨(gt ++ ((sError ++ dg) ++ [10])).toArray⟩ := by
 rw [show (⟨#[101, 114, 114, 111, 114, 32]⟩ : ByteArray) = ⟨sError.toArray⟩ from rfl, show (⟨#[10]⟩ : ByteArray) = ⟨[10].toArray⟩ from rfl, str_add, str_add, str_add, List.append_assoc]
theorem playOf_any (s : List UInt8) (hs : s.length ≤ maxLen) (w : World) :
  Calls Tryz.prog 5 #[tx s] w fun e w' => e = .returned (.tuple #[tx (playR s), .int .i64 (playErr s)]) ∧ Ext w w' := by
 have hm : s.length ≤ 9223372036854775807 := hs
 go_enter Tryz.func5, Tryz.ntmps5
 go_wp2_with fail
 go_loopw [4, 5] (fun c i wr => wr = w ∧ ∃ k : Nat, k ≤ s.length ∧ i = .int .i64 k ∧ c = .int .i64 ((s.take k).count 10 : Nat) ∧ (s.take k).count 10 ≤ 61) (fun _ i _ => s.length - (intOf i).toNat)
 case atStart => exact ⟨rfl, 0, Nat.zero_le _, rfl, rfl, by simp⟩
 case round =>
  obtain ⟨rfl, k, hk, rfl, rfl, hc⟩ := hrel
  by_cases hlt : k < s.length
  ·have hkI : (k : Int) < (s.length : Int) := by omega
   by_cases h60 : (s.take k).count 10 ≤ 60
   ·have h60I : (((s.take k).count 10 : Nat) : Int) ≤ 60 := by omega
    have HCt := (show Hid _ from count_take hlt)
    have hat := str_at s k hlt
    by_cases h10 : s[k] = 10
    ·have h10I : (((⟨s.toArray⟩ : ByteArray)[k]'(by simpa [ByteArray.size] using hlt)).toNat : Int) = 10 := by rw [hat, h10]; rfl
     have HC2 : Hid ((s.take (k + 1)).count 10 = (s.take k).count 10 + 1) := by show _ = _; rw [HCt.out, if_pos h10]
     clear HCt hat h10
     generalize (s.take k).count 10 = n at *
     go_wp2_with fail
     go_roundw
     case rel => exact ⟨by first | rfl | trivial, k + 1, by omega, by go_num, by rw [HC2.out]; go_num, by rw [HC2.out]; omega⟩
     case measure => simp [intOf]; omega
    ·have h10I : ¬ (((⟨s.toArray⟩ : ByteArray)[k]'(by simpa [ByteArray.size] using hlt)).toNat : Int) = 10 := by
      rw [hat]
      intro e
      exact h10 (UInt8.toNat_inj.1 (by have : (10 : UInt8).toNat = 10 := rfl; omega))
     have HC2 : Hid ((s.take (k + 1)).count 10 = (s.take k).count 10) := by show _ = _; rw [HCt.out, if_neg h10]; rfl
     clear HCt hat h10
     generalize (s.take k).count 10 = n at *
     go_wp2_with fail
     go_roundw
     case rel => exact ⟨by first | rfl | trivial, k + 1, by omega, by go_num, by rw [HC2.out], by rw [HC2.out]; omega⟩
     case measure => simp [intOf]; omega
   ·have h60I : ¬ (((s.take k).count 10 : Nat) : Int) ≤ 60 := by omega
    have h60J : (60 : Int) < ((s.take k).count 10 : Nat) := by omega
    have HE : Hid (playErr s = 2) := by
     show _ = _
     have h2 : (s.take k).count 10 ≤ s.count 10 := (List.take_sublist k s).count_le 10
     unfold playErr
     rw [if_pos (Or.inr (by omega))]
    have HR : Hid (playR s = []) := by show _ = _; unfold playR; rw [HE.out]; rfl
    generalize (s.take k).count 10 = n at *
    by_cases h4 : (4096 : Int) < (s.length : Int)
    ·go_wp2_with fail
     go_ret2
     rw [HE.out, HR.out]
     exact ⟨rfl, Ext.refl _⟩
    ·go_wp2_with fail
     go_ret2
     rw [HE.out, HR.out]
     exact ⟨rfl, Ext.refl _⟩
  ·obtain rfl : k = s.length := by omega
   rw [List.take_length] at hc ⊢
   have hkI : ¬ ((s.length : Nat) : Int) < (s.length : Int) := by omega
   by_cases h4 : 4096 < s.length
   ·have h4I : (4096 : Int) < (s.length : Int) := by omega
    have HE : Hid (playErr s = 2) := by show _ = _; unfold playErr; rw [if_pos (Or.inl h4)]
    have HR : Hid (playR s = []) := by show _ = _; unfold playR; rw [HE.out]; rfl
    generalize s.count 10 = n at *
    go_wp2_with fail
    go_ret2
    rw [HE.out, HR.out]
    exact ⟨rfl, Ext.refl _⟩
   have h4I : ¬ (4096 : Int) < (s.length : Int) := by omega
   by_cases h6 : 60 < s.count 10
   ·have h6I : (60 : Int) < (s.count 10 : Nat) := by omega
    have HE : Hid (playErr s = 2) := by show _ = _; unfold playErr; rw [if_pos (Or.inr h6)]
    have HR : Hid (playR s = []) := by show _ = _; unfold playR; rw [HE.out]; rfl
    generalize s.count 10 = n at *
    go_wp2_with fail
    go_ret2
    rw [HE.out, HR.out]
    exact ⟨rfl, Ext.refl _⟩
   have h6I : ¬ (60 : Int) < (s.count 10 : Nat) := by omega
   have h6J : (((s.count 10 : Nat) : Int)) ≤ 60 := by omega
   by_cases hne : s = []
   ·have HE : Hid (playErr s = 0) := by show _ = _; rw [hne]; rfl
    have HR : Hid (playR s = playL noWd (linesR s)) := by show _ = _; unfold playR; rw [HE.out]; rfl
    have h0I : ¬ (0 : Int) < (s.length : Int) := by rw [hne]; decide
    have E0 := (Ext.refl wr).alloc (.cells (wdCells noPg noPg noPg (.slice none 0 0) 0) 38)
    have HR2 : Hid (playR s = []) := by show _ = _; rw [HR.out, hne]; rfl
    have h0z : s.length = 0 := by rw [hne]; rfl
    obtain ⟨w, hwr⟩ : ∃ w, w = wr := ⟨_, rfl⟩
    subst hwr
    clear hne HR
    generalize s.count 10 = nc at *
    go_wp2_with fail
    go_loopw [7, 8, 9] (fun g _ i wx => g = tx [] ∧ i = .int .i64 0 ∧ Ext w wx) (fun _ _ _ _ => 0)
    case atStart => exact ⟨rfl, rfl, E0⟩
    case round =>
     obtain ⟨rfl, rfl, hE⟩ := hrel
     go_wp2_with fail
     go_ret2
     rw [HE.out, HR2.out]
     exact ⟨rfl, hE⟩
   ·have hpos : 0 < s.length := List.length_pos_iff.2 hne
    have h0I : (0 : Int) < (s.length : Int) := by omega
    have hla := last_at hpos
    by_cases hl : s.getLast? = some 10
    ·have HE : Hid (playErr s = 0) := by show _ = _; unfold playErr; rw [if_neg (by omega), if_neg (fun z => z.2 hl)]
     have HR : Hid (playR s = playL noWd (linesR s)) := by show _ = _; unfold playR; rw [HE.out]; rfl
     have h10 : s[s.length - 1]'(by omega) = 10 := by rw [hl] at hla; exact (Option.some.inj hla).symm
     have hat := str_at s (s.length - 1) (by omega)
     have hi1 : (s.length : Int) - 1 = ((s.length - 1 : Nat) : Int) := by omega
     have h10J : (((⟨s.toArray⟩ : ByteArray)[s.length - 1]'(by simp [ByteArray.size]; omega)).toNat : Int) = 10 := by rw [hat, h10]; rfl
     clear hat h10 hl hla hne
     obtain ⟨w, hwr⟩ : ∃ w, w = wr := ⟨_, rfl⟩
     subst hwr
     have C0 : Cw (w.alloc (.cells (wdCells noPg noPg noPg (.slice none 0 0) 0) 38)) w.heap.size noWd := ⟨none, 0, Blk.new w _ _ _ rfl, logIn_no _, fun ad e => by cases e⟩
     have E0 := (Ext.refl w).alloc (.cells (wdCells noPg noPg noPg (.slice none 0 0) 0) 38)
     have h6n : s.count 10 ≤ 60 := by omega
     have H6 : Hid (s.count 10 ≤ 60) := h6n
     clear h6n
     go_wp2_with fail
     go_loopw [7, 8, 9] (fun g f i wx => ∃ (k fr : Nat) (L : List (List UInt8)), k ≤ s.length ∧ i = .int .i64 k ∧ f = .int .i64 fr ∧ g = tx (playL noWd L) ∧ Hid (Upl s k fr L) ∧ Ext w wx ∧ Cw wx w.heap.size (playW noWd L)) (fun _ _ i _ => s.length - (intOf i).toNat)
     case atStart => exact ⟨0, 0, [], Nat.zero_le _, rfl, rfl, rfl, ⟨Nat.le_refl _, by simp [splitAt']⟩, E0, C0⟩
     case round =>
      obtain ⟨k, fr, L, hk, rfl, rfl, rfl, HU, hE, C⟩ := hrel
      by_cases hlt : k < s.length
      ·have hkI : (k : Int) < (s.length : Int) := by omega
       have hat := str_at s k hlt
       have h6n := H6.out
       by_cases h10 : s[k] = 10
       ·have h10I : (((⟨s.toArray⟩ : ByteArray)[k]'(by simpa [ByteArray.size] using hlt)).toNat : Int) = 10 := by rw [hat, h10]; rfl
        have hV := play_right L
        have hyl : ((s.take k).drop fr).length ≤ 4096 := by rw [List.length_drop, List.length_take]; omega
        obtain ⟨a, cap, B, LI, hne⟩ := C
        have HPA : ∀ W', Ext wr W' → Calls Tryz.prog 12 #[wdVal (playW noWd L).p (playW noWd L).q (playW noWd L).r (.slice a (playW noWd L).l.length cap) (playW noWd L).safe, .string ((⟨s.toArray⟩ : ByteArray).extract fr k)] W' fun e w' => Ext W' w' ∧ PlAns a (playW noWd L).l.length W' w' e (toldR (playW noWd L) ((s.take k).drop fr)) := fun W' e => by
         rw [str_cut]
         exact played_any _ hV _ hyl a cap W' (LI.ext e)
        have hsmall := told_small hV ((s.take k).drop fr)
        have hgl := playL_len L noWd_err
        have hLl := upto_len HU.out (by omega)
        have HUn : Hid (Upl s (k + 1) (k + 1) (L ++ [(s.take k).drop fr])) := upto_at HU.out hlt h10
        have HPL : Hid (playL noWd (L ++ [(s.take k).drop fr]) = playL noWd L ++ ((if (toldR (playW noWd L) ((s.take k).drop fr)).err = 0 then (toldR (playW noWd L) ((s.take k).drop fr)).text else sError ++ digitsR (toldR (playW noWd L) ((s.take k).drop fr)).err.toNat) ++ [10])) := playL_snoc _ _ _
        have HPW : Hid (playW noWd (L ++ [(s.take k).drop fr]) = if (toldR (playW noWd L) ((s.take k).drop fr)).err = 0 then (toldR (playW noWd L) ((s.take k).drop fr)).wd else playW noWd L) := playW_snoc _ _ _
        have hgt : (playL noWd L).length ≤ 12060 := by omega
        have hfk := HU.out.1
        have hwl := B.lt
        clear hgl hLl hV hat h10 HU hyl
        generalize playL noWd L = gt at *
        generalize playW noWd L = V0 at *
        generalize (s.take k).drop fr = y at *
        unfold PlAns at HPA
        generalize toldR V0 y = T at *
        obtain ⟨xe, V1, t⟩ := T
        dsimp only at HPA HPL HPW hsmall
        obtain ⟨n, rfl⟩ : ∃ n : Nat, xe = (n : Nat) := ⟨xe.toNat, by have := hsmall.1.1; omega⟩
        have hn1 : n < 100 := by have := hsmall.1.2; omega
        have htl := hsmall.2
        clear hsmall
        by_cases hx : n = 0
        ·subst hx
         rw [if_pos (show ((0 : Nat) : Int) = 0 from rfl)] at HPL HPW
         have HP : ∀ W', Ext wr W' → Calls Tryz.prog 12 #[wdVal V0.p V0.q V0.r (.slice a V0.l.length cap) V0.safe, .string ((⟨s.toArray⟩ : ByteArray).extract fr k)] W' fun e w' => Ext W' w' ∧ ∃ a' cap', e = .returned (.tuple #[wdVal V1.p V1.q V1.r (.slice a' V1.l.length cap') V1.safe, tx t, .int .i64 0]) ∧ LogIn w' a' V1.l.length cap' V1.l ∧ ∀ ad, a' = some ad → W'.heap.size ≤ ad.block ∨ (a = some ad ∧ V1.l.length = V0.l.length) := fun W' e => (HPA W' e).mono fun e w' ⟨z1, V2, t2, a2, cap2, z2, z3, z4, z5⟩ => by
          obtain ⟨q1, q2⟩ := z5 rfl
          subst q1 q2
          exact ⟨z1, a2, cap2, z2, z3, z4⟩
         clear HPA
         have Ed := (Ext.refl wr).drew
         have KC2 : Hid (∀ W', Ext wr W' → ∀ o, W'.cell? ⟨w.heap.size, o, none⟩ = (wdCells V0.p V0.q V0.r (.slice a V0.l.length cap) V0.safe)[o]?) := fun W' e => (B.ext e).cell
         go_wp2_with fail
         refine wp_region_held_drew (S := fun W' => ∀ o, W'.cell? ⟨w.heap.size, o, none⟩ = (wdCells V0.p V0.q V0.r (.slice a V0.l.length cap) V0.safe)[o]?) (by kernel_rfl) (KC2.out _ Ed) (fun hHeld => ?_)
         refine tkn 0 rfl hHeld ?_
         simp only [Act.put]
         refine tkn 1 rfl hHeld ?_
         simp only [Act.put]
         refine tkn 2 rfl hHeld ?_
         simp only [Act.put]
         refine tkn 3 rfl hHeld ?_
         simp only [Act.put]
         refine tkn 4 rfl hHeld ?_
         simp only [Act.put]
         refine wpAnyH_ready (rs := [5, 10]) (by kernel_rfl) (by simp) ?_
         refine AllReadyH.cons rfl (fun K hK => ?_) (AllReadyH.cons rfl (fun K hK => ?_) AllReadyH.nil)
         ·go_simp
          refine (HP _ Ed).mono ?_
          rintro e w5 ⟨hw5, a', cap', rfl, L5, hf⟩
          have E5 := Ed.trans hw5
          have hz5 := E5.size
          have EV := E5.alloc (.cells (wdCells V1.p V1.q V1.r (.slice a' V1.l.length cap') V1.safe) 38)
          have XB := Blk.new w5 w5.heap.size (wdCells V1.p V1.q V1.r (.slice a' V1.l.length cap') V1.safe) 38 rfl
          have HF5 : Hid (∀ ad, a' = some ad → ad.block ≠ w.heap.size) := fun ad e => by
           rcases hf ad e with h | h
           ·simp at h; omega
           ·exact hne ad h.1
          have LV := (L5.ext ((Ext.refl w5).alloc (.cells (wdCells V1.p V1.q V1.r (.slice a' V1.l.length cap') V1.safe) 38)))
          clear hf L5
          go_wp2_with fail
          refine hK.out _ _ (KC2.out _ E5) (fun hHeld => ?_)
          clear hK K
          refine tkn 6 rfl hHeld ?_
          simp only [Act.put]
          refine tkn 7 rfl hHeld ?_
          simp only [Act.put]
          refine tkn 8 rfl hHeld ?_
          simp only [Act.put]
          refine tkn 9 rfl hHeld ?_
          simp only [Act.put]
          refine exn 10 rfl fun K hK => ?_
          go_simp
          refine hK.out _ _ (KC2.out _ (E5.alloc _)) (fun hHeld => ?_)
          clear hK K
          refine exn 11 rfl fun K hK => ?_
          go_simp
          refine hK.out _ _ (KC2.out _ EV) (fun hHeld => ?_)
          clear hK K
          refine exn 12 rfl fun K hK => ?_
          go_simp
          refine hK.out _ _ (KC2.out _ EV) (fun hHeld => ?_)
          clear hK K
          refine exn 13 rfl fun K hK => ?_
          go_simp
          refine hK.out _ _ (KC2.out _ EV) (fun hHeld => ?_)
          clear hK K hHeld
          refine wpAnyH_done (by kernel_rfl) ?_ _
          have BV := B.ext EV
          have x_ := XB.cell
          have b_ := BV.cell
          have f_ := BV.fr
          have E9 := putWd_ext (hE.trans EV) w.heap.size (Nat.le_refl _) V1.p V1.q V1.r (.slice a' V1.l.length cap') V1.safe
          have HC9 : Hid (Cw (putWd (w5.alloc (.cells (wdCells V1.p V1.q V1.r (.slice a' V1.l.length cap') V1.safe) 38)) w.heap.size V1.p V1.q V1.r (.slice a' V1.l.length cap') V1.safe) w.heap.size V1) := ⟨a', cap', putWd_blk BV V1.p V1.q V1.r (.slice a' V1.l.length cap') V1.safe, LV.gr (putWd_gr (w5.alloc (.cells (wdCells V1.p V1.q V1.r (.slice a' V1.l.length cap') V1.safe) 38)) w.heap.size V1.p V1.q V1.r (.slice a' V1.l.length cap') V1.safe) (fun ad e e2 => HF5.out ad e (by injection e2)), HF5.out⟩
          clear LV
          go_wp2_with fail
          go_roundw
          case rel => exact ⟨k + 1, k + 1, _, by omega, by go_num, by go_num, by rw [HPL.out]; exact congrArg Value.string ((congrArg (fun z => z ++ (⟨[10].toArray⟩ : ByteArray)) (str_add gt t)).trans ((str_add (gt ++ t) [10]).trans (by rw [List.append_assoc]))), HUn, E9, by rw [HPW.out]; exact HC9.out⟩
          case measure => simp [intOf]; omega
         ·go_simp
          have EA := Ed.alloc (.cells (wdCells noPg noPg noPg (.slice none 0 0) 0) 38)
          have ZA := Blk.new wr.drew wr.heap.size (wdCells noPg noPg noPg (.slice none 0 0) 0) 38 rfl
          refine hK.out _ _ (KC2.out _ EA) (fun hHeld => ?_)
          clear hK K
          refine exn 5 rfl fun K hK => ?_
          go_simp
          refine (HP _ EA).mono ?_
          rintro e w5 ⟨hw5, a', cap', rfl, L5, hf⟩
          have E5 := EA.trans hw5
          have hz5 := E5.size
          have Z5 := ZA.ext hw5
          have EV := putWd_ext E5 wr.heap.size (Nat.le_refl _) V1.p V1.q V1.r (.slice a' V1.l.length cap') V1.safe
          have XB := putWd_blk Z5 V1.p V1.q V1.r (.slice a' V1.l.length cap') V1.safe
          have HF5 : Hid (∀ ad, a' = some ad → ad.block ≠ w.heap.size) := fun ad e => by
           rcases hf ad e with h | h
           ·simp at h; omega
           ·exact hne ad h.1
          have LV := L5.grl (putWd_gr w5 wr.heap.size V1.p V1.q V1.r (.slice a' V1.l.length cap') V1.safe) (fun ad e h0 e2 => by
           injection e2 with e2
           rcases hf ad e with h | h
           ·simp at h; omega
           ·have := LI.recs.lt (by omega) ad h.1; omega)
          clear hf L5
          go_wp2_with fail
          refine hK.out _ _ (KC2.out _ E5) (fun hHeld => ?_)
          clear hK K
          refine tkn 6 rfl hHeld ?_
          simp only [Act.put]
          refine tkn 7 rfl hHeld ?_
          simp only [Act.put]
          refine tkn 8 rfl hHeld ?_
          simp only [Act.put]
          refine tkn 9 rfl hHeld ?_
          simp only [Act.put]
          have z_ := Z5.cell
          have y_ := Z5.fr
          refine exn 11 rfl fun K hK => ?_
          go_simp
          refine hK.out _ _ (KC2.out _ EV) (fun hHeld => ?_)
          clear hK K z_ y_
          refine exn 12 rfl fun K hK => ?_
          go_simp
          refine hK.out _ _ (KC2.out _ EV) (fun hHeld => ?_)
          clear hK K
          refine exn 13 rfl fun K hK => ?_
          go_simp
          refine hK.out _ _ (KC2.out _ EV) (fun hHeld => ?_)
          clear hK K hHeld
          refine wpAnyH_done (by kernel_rfl) ?_ _
          have BV := B.ext EV
          have x_ := XB.cell
          have b_ := BV.cell
          have f_ := BV.fr
          have E9 := putWd_ext (hE.trans EV) w.heap.size (Nat.le_refl _) V1.p V1.q V1.r (.slice a' V1.l.length cap') V1.safe
          have HC9 : Hid (Cw (putWd (putWd w5 wr.heap.size V1.p V1.q V1.r (.slice a' V1.l.length cap') V1.safe) w.heap.size V1.p V1.q V1.r (.slice a' V1.l.length cap') V1.safe) w.heap.size V1) := ⟨a', cap', putWd_blk BV V1.p V1.q V1.r (.slice a' V1.l.length cap') V1.safe, LV.gr (putWd_gr (putWd w5 wr.heap.size V1.p V1.q V1.r (.slice a' V1.l.length cap') V1.safe) w.heap.size V1.p V1.q V1.r (.slice a' V1.l.length cap') V1.safe) (fun ad e e2 => HF5.out ad e (by injection e2)), HF5.out⟩
          clear LV
          go_wp2_with fail
          go_roundw
          case rel => exact ⟨k + 1, k + 1, _, by omega, by go_num, by go_num, by rw [HPL.out]; exact congrArg Value.string ((congrArg (fun z => z ++ (⟨[10].toArray⟩ : ByteArray)) (str_add gt t)).trans ((str_add (gt ++ t) [10]).trans (by rw [List.append_assoc]))), HUn, E9, by rw [HPW.out]; exact HC9.out⟩
          case measure => simp [intOf]; omega
        ·have hnx : ¬ ((n : Nat) : Int) = 0 := by omega
         rw [if_neg hnx, Int.toNat_natCast] at HPL
         rw [if_neg hnx] at HPW
         have HP : ∀ W', Ext wr W' → Calls Tryz.prog 12 #[wdVal V0.p V0.q V0.r (.slice a V0.l.length cap) V0.safe, .string ((⟨s.toArray⟩ : ByteArray).extract fr k)] W' fun e w' => Ext W' w' ∧ ∃ (V1 : Wd) (t1 : List UInt8) (a' : Option Addr) (cap' : Nat), e = .returned (.tuple #[wdVal V1.p V1.q V1.r (.slice a' V1.l.length cap') V1.safe, tx t1, .int .i64 (n : Nat)]) := fun W' e => (HPA W' e).mono fun e w' ⟨z1, V2, t2, a2, cap2, z2, z3⟩ => ⟨z1, V2, t2, a2, cap2, z2⟩
         clear HPA
         have hdl := digits_len n
         generalize hdg : digitsR n = dg at *
         have HCat := (show Hid _ from err_cat gt dg)
         have Ed := (Ext.refl wr).drew
         have KC2 : Hid (∀ W', Ext wr W' → ∀ o, W'.cell? ⟨w.heap.size, o, none⟩ = (wdCells V0.p V0.q V0.r (.slice a V0.l.length cap) V0.safe)[o]?) := fun W' e => (B.ext e).cell
         go_wp2_with fail
         refine wp_region_held_drew (S := fun W' => ∀ o, W'.cell? ⟨w.heap.size, o, none⟩ = (wdCells V0.p V0.q V0.r (.slice a V0.l.length cap) V0.safe)[o]?) (by kernel_rfl) (KC2.out _ Ed) (fun hHeld => ?_)
         refine tkn 0 rfl hHeld ?_
         simp only [Act.put]
         refine tkn 1 rfl hHeld ?_
         simp only [Act.put]
         refine tkn 2 rfl hHeld ?_
         simp only [Act.put]
         refine tkn 3 rfl hHeld ?_
         simp only [Act.put]
         refine tkn 4 rfl hHeld ?_
         simp only [Act.put]
         refine wpAnyH_ready (rs := [5, 10]) (by kernel_rfl) (by simp) ?_
         refine AllReadyH.cons rfl (fun K hK => ?_) (AllReadyH.cons rfl (fun K hK => ?_) AllReadyH.nil)
         ·go_simp
          refine (HP _ Ed).mono ?_
          rintro e w5 ⟨hw5, V1, t1, a', cap', rfl⟩
          have E5 := Ed.trans hw5
          have hz5 := E5.size
          have EV := E5.alloc (.cells (wdCells V1.p V1.q V1.r (.slice a' V1.l.length cap') V1.safe) 38)
          have XB := Blk.new w5 w5.heap.size (wdCells V1.p V1.q V1.r (.slice a' V1.l.length cap') V1.safe) 38 rfl
          go_wp2_with fail
          refine hK.out _ _ (KC2.out _ E5) (fun hHeld => ?_)
          clear hK K
          refine tkn 6 rfl hHeld ?_
          simp only [Act.put]
          refine tkn 7 rfl hHeld ?_
          simp only [Act.put]
          refine tkn 8 rfl hHeld ?_
          simp only [Act.put]
          refine tkn 9 rfl hHeld ?_
          simp only [Act.put]
          refine exn 10 rfl fun K hK => ?_
          go_simp
          refine hK.out _ _ (KC2.out _ (E5.alloc _)) (fun hHeld => ?_)
          clear hK K
          refine exn 11 rfl fun K hK => ?_
          go_simp
          refine hK.out _ _ (KC2.out _ EV) (fun hHeld => ?_)
          clear hK K
          refine exn 12 rfl fun K hK => ?_
          go_simp
          refine hK.out _ _ (KC2.out _ EV) (fun hHeld => ?_)
          clear hK K
          refine exn 13 rfl fun K hK => ?_
          go_simp
          refine hK.out _ _ (KC2.out _ EV) (fun hHeld => ?_)
          clear hK K hHeld
          refine wpAnyH_done (by kernel_rfl) ?_ _
          have BV := B.ext EV
          have EW := hE.trans EV
          have HC6 : Hid (∀ W', Ext wr W' → Cw W' w.heap.size V0) := fun W' e => ⟨a, cap, B.ext e, LI.ext e, hne⟩
          clear XB BV
          generalize (w5.alloc (.cells (wdCells V1.p V1.q V1.r (.slice a' V1.l.length cap') V1.safe) 38)) = W6 at *
          go_wp2_with fail
          refine (digits_dg hdg (by omega) _).mono ?_
          rintro e w8 ⟨rfl, hw8⟩
          go_wp2_with fail
          go_roundw
          case rel => exact ⟨k + 1, k + 1, L ++ [y], by omega, by go_num, by go_num, by rw [HPL.out, HCat.out], HUn, EW.trans hw8, by rw [HPW.out]; exact HC6.out _ (EV.trans hw8)⟩
          case measure => simp [intOf]; omega
         ·go_simp
          have EA := Ed.alloc (.cells (wdCells noPg noPg noPg (.slice none 0 0) 0) 38)
          have ZA := Blk.new wr.drew wr.heap.size (wdCells noPg noPg noPg (.slice none 0 0) 0) 38 rfl
          refine hK.out _ _ (KC2.out _ EA) (fun hHeld => ?_)
          clear hK K
          refine exn 5 rfl fun K hK => ?_
          go_simp
          refine (HP _ EA).mono ?_
          rintro e w5 ⟨hw5, V1, t1, a', cap', rfl⟩
          have E5 := EA.trans hw5
          have hz5 := E5.size
          have Z5 := ZA.ext hw5
          have EV := putWd_ext E5 wr.heap.size (Nat.le_refl _) V1.p V1.q V1.r (.slice a' V1.l.length cap') V1.safe
          have XB := putWd_blk Z5 V1.p V1.q V1.r (.slice a' V1.l.length cap') V1.safe
          go_wp2_with fail
          refine hK.out _ _ (KC2.out _ E5) (fun hHeld => ?_)
          clear hK K
          refine tkn 6 rfl hHeld ?_
          simp only [Act.put]
          refine tkn 7 rfl hHeld ?_
          simp only [Act.put]
          refine tkn 8 rfl hHeld ?_
          simp only [Act.put]
          refine tkn 9 rfl hHeld ?_
          simp only [Act.put]
          have z_ := Z5.cell
          have y_ := Z5.fr
          refine exn 11 rfl fun K hK => ?_
          go_simp
          refine hK.out _ _ (KC2.out _ EV) (fun hHeld => ?_)
          clear hK K z_ y_
          refine exn 12 rfl fun K hK => ?_
          go_simp
          refine hK.out _ _ (KC2.out _ EV) (fun hHeld => ?_)
          clear hK K
          refine exn 13 rfl fun K hK => ?_
          go_simp
          refine hK.out _ _ (KC2.out _ EV) (fun hHeld => ?_)
          clear hK K hHeld
          refine wpAnyH_done (by kernel_rfl) ?_ _
          have BV := B.ext EV
          have EW := hE.trans EV
          have HC6 : Hid (∀ W', Ext wr W' → Cw W' w.heap.size V0) := fun W' e => ⟨a, cap, B.ext e, LI.ext e, hne⟩
          clear XB BV
          go_wp2_with fail
          refine (digits_dg hdg (by omega) _).mono ?_
          rintro e w8 ⟨rfl, hw8⟩
          go_wp2_with fail
          go_roundw
          case rel => exact ⟨k + 1, k + 1, L ++ [y], by omega, by go_num, by go_num, by rw [HPL.out, HCat.out], HUn, EW.trans hw8, by rw [HPW.out]; exact HC6.out _ (EV.trans hw8)⟩
          case measure => simp [intOf]; omega
       ·have h10I : ¬ (((⟨s.toArray⟩ : ByteArray)[k]'(by simpa [ByteArray.size] using hlt)).toNat : Int) = 10 := by
         rw [hat]
         intro e
         exact h10 (UInt8.toNat_inj.1 (by have : (10 : UInt8).toNat = 10 := rfl; omega))
        have HU2 : Hid (Upl s (k + 1) fr L) := upto_on HU.out hlt h10
        clear hat h10
        go_wp2_with fail
        go_roundw
        case rel => exact ⟨k + 1, fr, L, by omega, by go_num, rfl, rfl, HU2, hE, C⟩
        case measure => simp [intOf]; omega
      ·obtain rfl : k = s.length := by omega
       have hkI : ¬ ((s.length : Nat) : Int) < (s.length : Int) := by omega
       go_wp2_with fail
       go_ret2
       rw [HE.out, HR.out, upto_end HU.out]
       exact ⟨rfl, hE⟩
    ·have HE : Hid (playErr s = 1) := by show _ = _; unfold playErr; rw [if_neg (by omega), if_pos ⟨hne, hl⟩]
     have HR : Hid (playR s = []) := by show _ = _; unfold playR; rw [HE.out]; rfl
     have h10 : ¬ s[s.length - 1]'(by omega) = 10 := fun z => hl (by rw [hla, z])
     have hat := str_at s (s.length - 1) (by omega)
     have h10I : ¬ (((⟨s.toArray⟩ : ByteArray)[s.length - 1]'(by simp [ByteArray.size]; omega)).toNat : Int) = 10 := by
      rw [hat]
      intro e
      exact h10 (UInt8.toNat_inj.1 (by have : (10 : UInt8).toNat = 10 := rfl; omega))
     have hi1 : (s.length : Int) - 1 = ((s.length - 1 : Nat) : Int) := by omega
     clear hat h10
     generalize s.count 10 = n at *
     go_wp2_with fail
     go_ret2
     rw [HE.out, HR.out]
     exact ⟨rfl, Ext.refl _⟩
end Go.Proofs.YtibfgbmhmdggmaaGreatDoor.B
