/- The reference's played: what it answers to any line. -/
import Derived.Test.YtibfgbmhmdggmaaGreatDoorPl6
namespace Go.Proofs.YtibfgbmhmdggmaaGreatDoor.B
set_option maxHeartbeats 32000000
set_option maxRecDepth 100000
open Go.ChangeShapes Go.WideShapes Go.ChangeAt Go.RowKit
def PlAns (a : Option Addr) (n : Nat) (w w' : World) (e : Ending) (T : Told) : Prop :=
 ∃ (V : Wd) (t : List UInt8) (a' : Option Addr) (cap' : Nat), e = .returned (.tuple #[wdVal V.p V.q V.r (.slice a' V.l.length cap') V.safe, tx t, .int .i64 T.err]) ∧ LogIn w' a' V.l.length cap' V.l ∧ (∀ ad, a' = some ad → w.heap.size ≤ ad.block ∨ (a = some ad ∧ V.l.length = n)) ∧ (T.err = 0 → V = T.wd ∧ t = T.text)
theorem pl_same {W : Wd} {a : Option Addr} {cap : Nat} {w w' : World} {e : Ending} {t : List UInt8} {x : Int} {T : Told} (L : LogIn w a W.l.length cap W.l) (hT : T.err = x ∧ (x = 0 → W = T.wd ∧ t = T.text))
  (h : e = .returned (.tuple #[wdVal W.p W.q W.r (.slice a W.l.length cap) W.safe, tx t, .int .i64 x]) ∧ Ext w w') : Ext w w' ∧ PlAns a W.l.length w w' e T := by
 obtain ⟨h1, h2⟩ := h
 refine ⟨h2, W, t, a, cap, by rw [h1, hT.1], L.ext h2, fun _ e => Or.inr ⟨e, rfl⟩, fun z => hT.2 (by rw [← hT.1]; exact z)⟩
theorem pl_act {V : Wd} {a : Option Addr} {n : Nat} {w w' : World} {e : Ending} {t : List UInt8} {x : Int} {T : Told} (hT : T.err = x ∧ (x = 0 → V = T.wd ∧ t = T.text))
  (h : Ext w w' ∧ ∃ a' cap', e = .returned (.tuple #[wdVal V.p V.q V.r (.slice a' V.l.length cap') V.safe, tx t, .int .i64 x]) ∧ LogIn w' a' V.l.length cap' V.l ∧ ∀ ad, a' = some ad → w.heap.size ≤ ad.block) : Ext w w' ∧ PlAns a n w w' e T := by
 obtain ⟨h1, a', cap', h2, h3, h4⟩ := h
 exact ⟨h1, V, t, a', cap', by rw [h2, hT.1], h3, fun ad e => Or.inl (h4 ad e), fun z => hT.2 (by rw [← hT.1]; exact z)⟩
theorem listed_ok {xs : List Int} (hx : xs.length = 9) (hb : Small xs) (W' : World) : Calls Tryz.prog 23 #[.agg (ints xs)] W' fun e w' => e = .returned (tx (listedR xs)) ∧ Ext W' w' :=
 listed_any xs hx (fun n hn => by have := hb n hn; omega) W'
theorem pl_crash (W : Wd) (hW : W.err = 0) (a : Option Addr) (cap : Nat) (w : World) (L : LogIn w a W.l.length cap W.l) : Calls Tryz.prog 12 #[wdVal W.p W.q W.r (.slice a W.l.length cap) W.safe, tx sCrash] w fun e w' => Ext w w' ∧ PlAns a W.l.length w w' e (toldR W sCrash) := by
 obtain ⟨e1, e2⟩ := do_k6 (W := W) (x := ⟨6, 0, 0, 0, 0⟩) rfl
 have hT : toldR W sCrash = ⟨errOf W.err (mendErr W.cut), mendWd W, digitsR (needR W.cut)⟩ := by rw [← e1]; rfl
 rw [hT]
 have hns : needR W.cut < 1000 ∨ errOf W.err (mendErr W.cut) ≠ 0 := by
  by_cases hz : errOf W.err (mendErr W.cut) = 0
  ·left
   unfold errOf at hz
   rw [if_pos hW] at hz
   have := need_small hz
   omega
  ·exact Or.inr hz
 have hq : (if errOf W.err (mendErr W.cut) = 0 then needR W.cut else 0) < 1000 := by split <;> omega
 refine (played_crash W.p W.q W.r a W.l.length cap W.safe w (if errOf W.err (mendErr W.cut) = 0 then mendWd W else noWd).p (if errOf W.err (mendErr W.cut) = 0 then mendWd W else noWd).q (if errOf W.err (mendErr W.cut) = 0 then mendWd W else noWd).r (if errOf W.err (mendErr W.cut) = 0 then mendWd W else noWd).l (if errOf W.err (mendErr W.cut) = 0 then mendWd W else noWd).safe (errOf W.err (mendErr W.cut)) (if errOf W.err (mendErr W.cut) = 0 then needR W.cut else 0) hq ?_).mono fun _ _ h => pl_act (V := if errOf W.err (mendErr W.cut) = 0 then mendWd W else noWd) ⟨rfl, fun z => ⟨if_pos z, by rw [if_pos z]⟩⟩ h
 intro W' e
 refine refMendAll_new W.p W.q W.r a W.l.length cap W.safe W' _ _ _ _ _ _ _ (fun W2 e2 => (refMended_any W.p W.q W.r a W.l.length cap W.l W.safe W2 (L.ext (e.trans e2))).mono fun _ _ ⟨z1, z2⟩ => And.intro z1 ?_)
 have := z2.dw3
 unfold ansS at this
 rw [show ((if errOf W.err (mendErr W.cut) = 0 then needR W.cut else 0 : Nat) : Int) = if errOf W.err (mendErr W.cut) = 0 then ((needR W.cut : Nat) : Int) else 0 by split <;> rfl]
 exact this
theorem pl_now (W : Wd) (hW : W.err = 0) (a : Option Addr) (cap : Nat) (w : World) (L : LogIn w a W.l.length cap W.l) : Calls Tryz.prog 12 #[wdVal W.p W.q W.r (.slice a W.l.length cap) W.safe, tx sNow] w fun e w' => Ext w w' ∧ PlAns a W.l.length w w' e (toldR W sNow) := by
 have hR := right_l hW
 obtain ⟨x0, x1, x2, x3, x4, x5, x6, x7, x8, x9, x10, x11, hps⟩ := list12 _ (pagesR_len W.l)
 have hsm := pgAt_small hR
 have hT : toldR W sNow = ⟨0, W, listedR (cellsOfPgs (pgAt (pagesR W.l) 0) (pgAt (pagesR W.l) 1) (pgAt (pagesR W.l) 2))⟩ := rfl
 rw [hT]
 rw [hps] at hsm ⊢
 obtain ⟨n, _, _, h60⟩ := safe_n hW
 refine (played_now W.p W.q W.r a W.l.length cap W.safe w x0 x1 x2 x3 x4 x5 x6 x7 x8 x9 x10 x11 _ (fun W' e => ?_) (fun W' => listed_ok (xs := [x0, x1, x2, x4, x5, x6, x8, x9, x10]) rfl hsm W')).mono fun _ _ h => pl_same L ⟨rfl, fun _ => ⟨rfl, rfl⟩⟩ h
 have := pages_any a W.l.length cap W.l W' (L.ext e).recs (by omega) (right_fits W.l hR)
 rw [hps] at this
 exact this
theorem pl_disk (W : Wd) (hW : W.err = 0) (a : Option Addr) (cap : Nat) (w : World) (L : LogIn w a W.l.length cap W.l) : Calls Tryz.prog 12 #[wdVal W.p W.q W.r (.slice a W.l.length cap) W.safe, tx sDisk] w fun e w' => Ext w w' ∧ PlAns a W.l.length w w' e (toldR W sDisk) :=
 (played_disk W.p W.q W.r a W.l.length cap W.safe w _ (fun W' => listed_ok (xs := cellsOfPgs W.p W.q W.r) rfl (disk_small hW) W')).mono fun _ _ h => pl_same L ⟨rfl, fun _ => ⟨rfl, rfl⟩⟩ h
theorem pl_must (W : Wd) (hW : W.err = 0) (a : Option Addr) (cap : Nat) (w : World) (L : LogIn w a W.l.length cap W.l) : Calls Tryz.prog 12 #[wdVal W.p W.q W.r (.slice a W.l.length cap) W.safe, tx sMust] w fun e w' => Ext w w' ∧ PlAns a W.l.length w w' e (toldR W sMust) := by
 obtain ⟨n, hn, hnl, h60⟩ := safe_n hW
 obtain ⟨x0, x1, x2, x3, x4, x5, x6, x7, x8, hcs⟩ := list9e (cellsR_len W.cut)
 have hsm := must_small hW
 have hT : toldR W sMust = ⟨0, W, listedR (cellsR W.cut)⟩ := rfl
 have hcut : W.cut = W.l.take n := by unfold Wd.cut; rw [hn, Int.toNat_natCast]
 have hlz : logErr (W.l.take n) = 0 := by rw [← hcut]; exact cut_err hW
 have hco : cellsOr (W.l.take n) = [x0, x1, x2, x3, x4, x5, x6, x7, x8] := by rw [cellsOr_ok hlz, ← hcut, hcs]
 rw [hT, hcs]
 rw [hcs] at hsm
 refine (played_must W.p W.q W.r a W.l.length cap W.safe w n hn hnl L.le x0 x1 x2 x3 x4 x5 x6 x7 x8 _ (fun W' e => ?_) (fun W' => listed_ok (xs := [x0, x1, x2, x3, x4, x5, x6, x7, x8]) rfl hsm W')).mono fun _ _ h => pl_same L ⟨rfl, fun _ => ⟨rfl, rfl⟩⟩ h
 have := cellsOf_any a n cap (W.l.take n) W' ((L.ext e).recs.take n hnl) (Nat.le_trans hnl L.le) (by unfold maxLen; omega)
 rw [hco, hlz] at this
 exact this
theorem pl_log (W : Wd) (hW : W.err = 0) (a : Option Addr) (cap : Nat) (w : World) (L : LogIn w a W.l.length cap W.l) : Calls Tryz.prog 12 #[wdVal W.p W.q W.r (.slice a W.l.length cap) W.safe, tx sLog] w fun e w' => Ext w w' ∧ PlAns a W.l.length w w' e (toldR W sLog) := by
 obtain ⟨n, hn, hnl, h60⟩ := safe_n hW
 have hT : toldR W sLog = ⟨0, W, digitsR W.l.length ++ (32 :: digitsR W.safe.toNat)⟩ := rfl
 rw [hT]
 refine (played_log W.p W.q W.r a W.l.length cap W.safe w n hn h60 (by omega)).mono fun _ _ h => pl_same L ⟨rfl, fun _ => ⟨rfl, by rw [hn, Int.toNat_natCast]⟩⟩ h
end Go.Proofs.YtibfgbmhmdggmaaGreatDoor.B
