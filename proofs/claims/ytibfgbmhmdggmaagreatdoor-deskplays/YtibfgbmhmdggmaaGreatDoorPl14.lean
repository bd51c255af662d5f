/- The reference's played: any line with words behind. -/
import Derived.Test.YtibfgbmhmdggmaaGreatDoorPl13
import Derived.Test.YtibfgbmhmdggmaaGreatDoorPl7
import Derived.Test.YtibfgbmhmdggmaaGreatDoorPl8
import Derived.Test.YtibfgbmhmdggmaaGreatDoorPl9
import Derived.Test.YtibfgbmhmdggmaaGreatDoorPl10
import Derived.Test.YtibfgbmhmdggmaaGreatDoorPl11
import Derived.Test.YtibfgbmhmdggmaaGreatDoorPl12
namespace Go.Proofs.YtibfgbmhmdggmaaGreatDoor.B
set_option maxHeartbeats 32000000
set_option maxRecDepth 100000
open Go.ChangeShapes Go.WideShapes Go.ChangeAt Go.RowKit
theorem pl_write (W : Wd) (a : Option Addr) (cap : Nat) (w : World) (L : LogIn w a W.l.length cap W.l) (s : List UInt8) (ws : List (List UInt8)) (hs : s.length ≤ 4096) (hwl : ∀ v ∈ ws, v.length ≤ 4096) (hwn : ws.length ≤ 4096) (c0 : s ≠ sCrash) (c1 : s ≠ sNow) (c2 : s ≠ sDisk) (c3 : s ≠ sMust) (c4 : s ≠ sLog) (hw : wordsR s = sWrite :: ws) (n0 n1 n2 n3 : Int) (hn : ws.map numR = [n0, n1, n2, n3]) (hb : numsB ws = true) :
  Calls Tryz.prog 12 #[wdVal W.p W.q W.r (.slice a W.l.length cap) W.safe, tx s] w fun e w' => Ext w w' ∧ PlAns a W.l.length w w' e (actT W ⟨1, n0, n1, n2, n3⟩) := by
 obtain ⟨e1, e2⟩ := do_k1 (W := W) (x := ⟨1, n0, n1, n2, n3⟩) rfl
 refine (played_write W.p W.q W.r a W.l.length cap W.safe w s ws hs hw hwl hwn c0 c1 c2 c3 c4 n0 n1 n2 n3 hn hb _ _ _ _ _ _ (fun W' e => (writeTo_any W.p W.q W.r a W.l.length cap W.l W.safe n0 n1 n2 n3 W' (L.ext e)).mono fun _ _ ⟨z1, z2⟩ => And.intro z1 z2.dw)).mono fun _ _ h => pl_act ⟨?_, fun z => ⟨?_, rfl⟩⟩ h
 ·exact e1
 ·show _ = doTo W ⟨1, n0, n1, n2, n3⟩
  rw [e2, if_pos z]
theorem pl_commit (W : Wd) (a : Option Addr) (cap : Nat) (w : World) (L : LogIn w a W.l.length cap W.l) (s : List UInt8) (ws : List (List UInt8)) (hs : s.length ≤ 4096) (hwl : ∀ v ∈ ws, v.length ≤ 4096) (hwn : ws.length ≤ 4096) (c0 : s ≠ sCrash) (c1 : s ≠ sNow) (c2 : s ≠ sDisk) (c3 : s ≠ sMust) (c4 : s ≠ sLog) (hw : wordsR s = sCommit :: ws) (n0 : Int) (hn : ws.map numR = [n0]) (hb : numsB ws = true) :
  Calls Tryz.prog 12 #[wdVal W.p W.q W.r (.slice a W.l.length cap) W.safe, tx s] w fun e w' => Ext w w' ∧ PlAns a W.l.length w w' e (actT W ⟨2, n0, 0, 0, 0⟩) := by
 obtain ⟨e1, e2⟩ := do_k2 (W := W) (x := ⟨2, n0, 0, 0, 0⟩) rfl
 refine (played_commit W.p W.q W.r a W.l.length cap W.safe w s ws hs hw hwl hwn c0 c1 c2 c3 c4 n0 hn hb _ _ _ _ _ _ (fun W' e => (commitOf_any W.p W.q W.r a W.l.length cap W.l W.safe n0 W' (L.ext e)).mono fun _ _ ⟨z1, z2⟩ => And.intro z1 z2.dw)).mono fun _ _ h => pl_act ⟨?_, fun z => ⟨?_, rfl⟩⟩ h
 ·exact e1
 ·show _ = doTo W ⟨2, n0, 0, 0, 0⟩
  rw [e2, if_pos z]
theorem pl_abort (W : Wd) (a : Option Addr) (cap : Nat) (w : World) (L : LogIn w a W.l.length cap W.l) (s : List UInt8) (ws : List (List UInt8)) (hs : s.length ≤ 4096) (hwl : ∀ v ∈ ws, v.length ≤ 4096) (hwn : ws.length ≤ 4096) (c0 : s ≠ sCrash) (c1 : s ≠ sNow) (c2 : s ≠ sDisk) (c3 : s ≠ sMust) (c4 : s ≠ sLog) (hw : wordsR s = sAbort :: ws) (n0 : Int) (hn : ws.map numR = [n0]) (hb : numsB ws = true) :
  Calls Tryz.prog 12 #[wdVal W.p W.q W.r (.slice a W.l.length cap) W.safe, tx s] w fun e w' => Ext w w' ∧ PlAns a W.l.length w w' e (actT W ⟨3, n0, 0, 0, 0⟩) := by
 obtain ⟨e1, e2⟩ := do_k3 (W := W) (x := ⟨3, n0, 0, 0, 0⟩) rfl
 refine (played_abort W.p W.q W.r a W.l.length cap W.safe w s ws hs hw hwl hwn c0 c1 c2 c3 c4 n0 hn hb _ _ _ _ _ _ (fun W' e => (abortOf_any W.p W.q W.r a W.l.length cap W.l W.safe n0 W' (L.ext e)).mono fun _ _ ⟨z1, z2⟩ => And.intro z1 z2.dw)).mono fun _ _ h => pl_act ⟨?_, fun z => ⟨?_, rfl⟩⟩ h
 ·exact e1
 ·show _ = doTo W ⟨3, n0, 0, 0, 0⟩
  rw [e2, if_pos z]
theorem pl_sync (W : Wd) (a : Option Addr) (cap : Nat) (w : World) (L : LogIn w a W.l.length cap W.l) (s : List UInt8) (ws : List (List UInt8)) (hs : s.length ≤ 4096) (hwl : ∀ v ∈ ws, v.length ≤ 4096) (hwn : ws.length ≤ 4096) (c0 : s ≠ sCrash) (c1 : s ≠ sNow) (c2 : s ≠ sDisk) (c3 : s ≠ sMust) (c4 : s ≠ sLog) (hw : wordsR s = sSync :: ws) (n0 : Int) (hn : ws.map numR = [n0]) (hb : numsB ws = true) :
  Calls Tryz.prog 12 #[wdVal W.p W.q W.r (.slice a W.l.length cap) W.safe, tx s] w fun e w' => Ext w w' ∧ PlAns a W.l.length w w' e (actT W ⟨4, 0, 0, 0, n0⟩) := by
 obtain ⟨e1, e2⟩ := do_k4 (W := W) (x := ⟨4, 0, 0, 0, n0⟩) rfl
 refine (played_sync W.p W.q W.r a W.l.length cap W.safe w s ws hs hw hwl hwn c0 c1 c2 c3 c4 n0 hn hb _ _ _ _ _ _ (fun W' e => (syncOf_any W.p W.q W.r a W.l.length cap W.l W.safe n0 W' (L.ext e)).mono fun _ _ ⟨z1, z2⟩ => And.intro z1 z2.dw)).mono fun _ _ h => pl_act ⟨?_, fun z => ⟨?_, rfl⟩⟩ h
 ·exact e1
 ·show _ = doTo W ⟨4, 0, 0, 0, n0⟩
  rw [e2, if_pos z]
theorem pl_flush (W : Wd) (a : Option Addr) (cap : Nat) (w : World) (L : LogIn w a W.l.length cap W.l) (s : List UInt8) (ws : List (List UInt8)) (hs : s.length ≤ 4096) (hwl : ∀ v ∈ ws, v.length ≤ 4096) (hwn : ws.length ≤ 4096) (c0 : s ≠ sCrash) (c1 : s ≠ sNow) (c2 : s ≠ sDisk) (c3 : s ≠ sMust) (c4 : s ≠ sLog) (hw : wordsR s = sFlush :: ws) (n0 : Int) (hn : ws.map numR = [n0]) (hb : numsB ws = true) :
  Calls Tryz.prog 12 #[wdVal W.p W.q W.r (.slice a W.l.length cap) W.safe, tx s] w fun e w' => Ext w w' ∧ PlAns a W.l.length w w' e (actT W ⟨5, 0, n0, 0, 0⟩) := by
 obtain ⟨e1, e2⟩ := do_k5 (W := W) (x := ⟨5, 0, n0, 0, 0⟩) rfl
 refine (played_flush W.p W.q W.r a W.l.length cap W.safe w s ws hs hw hwl hwn c0 c1 c2 c3 c4 n0 hn hb _ _ _ _ _ _ (fun W' e => (flushOf_any W.p W.q W.r a W.l.length cap W.l W.safe n0 W' (L.ext e)).mono fun _ _ ⟨z1, z2⟩ => And.intro z1 z2.dw)).mono fun _ _ h => pl_act ⟨?_, fun z => ⟨?_, rfl⟩⟩ h
 ·exact e1
 ·show _ = doTo W ⟨5, 0, n0, 0, 0⟩
  rw [e2, if_pos z]
theorem pl_form (W : Wd) (a : Option Addr) (cap : Nat) (w : World) (L : LogIn w a W.l.length cap W.l) (s : List UInt8) (ws : List (List UInt8)) (hs : s.length ≤ 4096) (hwl : ∀ v ∈ ws, v.length ≤ 4096) (hwn : ws.length ≤ 4096) (c0 : s ≠ sCrash) (c1 : s ≠ sNow) (c2 : s ≠ sDisk) (c3 : s ≠ sMust) (c4 : s ≠ sLog) (x : List UInt8) (hw : wordsR s = x :: ws) (T : Told) (hT : T = formT W) (hf : numsB ws = true → (x = sWrite → ¬ ws.length = 4) ∧ (x = sCommit → ¬ ws.length = 1) ∧ (x = sAbort → ¬ ws.length = 1) ∧ (x = sSync → ¬ ws.length = 1) ∧ (x = sFlush → ¬ ws.length = 1) ∧ (x = sState → ¬ ws.length = 1)) :
  Calls Tryz.prog 12 #[wdVal W.p W.q W.r (.slice a W.l.length cap) W.safe, tx s] w fun e w' => Ext w w' ∧ PlAns a W.l.length w w' e T := by
 subst hT
 exact (played_form W.p W.q W.r a W.l.length cap W.safe w s x ws hs hw hwl hwn c0 c1 c2 c3 c4 hf).mono fun _ _ h => pl_same L ⟨rfl, fun z => by cases z⟩ h
theorem pl_state (W : Wd) (hW : W.err = 0) (a : Option Addr) (cap : Nat) (w : World) (L : LogIn w a W.l.length cap W.l) (s : List UInt8) (ws : List (List UInt8)) (hs : s.length ≤ 4096) (hwl : ∀ v ∈ ws, v.length ≤ 4096) (hwn : ws.length ≤ 4096) (c0 : s ≠ sCrash) (c1 : s ≠ sNow) (c2 : s ≠ sDisk) (c3 : s ≠ sMust) (c4 : s ≠ sLog) (hw : wordsR s = sState :: ws) (n0 : Int) (hn : ws.map numR = [n0]) (hb : numsB ws = true) :
  Calls Tryz.prog 12 #[wdVal W.p W.q W.r (.slice a W.l.length cap) W.safe, tx s] w fun e w' => Ext w w' ∧ PlAns a W.l.length w w' e ⟨(if out 1 9 [n0] then 3 else 0), W, digitsR (stateR W.l n0).toNat⟩ := by
 have hl := (worldErr_zero hW).1
 have hst := state_small W.l n0
 have hk : (if out 1 9 [n0] then 0 else (stateR W.l n0).toNat) < 1000 := by split <;> omega
 refine (played_state W.p W.q W.r a W.l.length cap W.safe w s ws hs hw hwl hwn c0 c1 c2 c3 c4 n0 hn hb (if out 1 9 [n0] then 0 else (stateR W.l n0).toNat) hk (stateAns W.l n0).2.1 (if out 1 9 [n0] then 3 else 0) (fun W' e => ?_)).mono fun _ _ h => pl_same L ⟨rfl, fun z => ⟨rfl, ?_⟩⟩ h
 ·have := stateOf_any a W.l.length cap W.l n0 W' (L.ext e).recs L.le L.max
  have h1 : (stateAns W.l n0).1 = ((if out 1 9 [n0] then 0 else (stateR W.l n0).toNat : Nat) : Int) := by
   unfold stateAns
   rw [if_pos hl]
   split
   ·rfl
   ·show stateR W.l n0 = _
    omega
  have h2 : (stateAns W.l n0).2.2 = (if out 1 9 [n0] then 3 else 0) := by
   unfold stateAns
   rw [if_pos hl]
   split <;> rfl
  rw [h1, h2] at this
  exact this
 ·split at z
  ·cases z
  ·rename_i ho
   rw [if_neg ho]
theorem played_any (W : Wd) (hW : W.err = 0) (s : List UInt8) (hs : s.length ≤ 4096) (a : Option Addr) (cap : Nat) (w : World) (L : LogIn w a W.l.length cap W.l) :
  Calls Tryz.prog 12 #[wdVal W.p W.q W.r (.slice a W.l.length cap) W.safe, tx s] w fun e w' => Ext w w' ∧ PlAns a W.l.length w w' e (toldR W s) := by
 by_cases c0 : s = sCrash
 ·subst c0; exact pl_crash W hW a cap w L
 by_cases c1 : s = sNow
 ·subst c1; exact pl_now W hW a cap w L
 by_cases c2 : s = sDisk
 ·subst c2; exact pl_disk W hW a cap w L
 by_cases c3 : s = sMust
 ·subst c3; exact pl_must W hW a cap w L
 by_cases c4 : s = sLog
 ·subst c4; exact pl_log W hW a cap w L
 obtain ⟨x, ws, hw⟩ := words_ne s
 rw [told_eq W s x ws hw]
 have hsm := split_small 32 s
 have hw' : splitAt' 32 s = x :: ws := hw
 rw [hw'] at hsm
 have hwl : ∀ v ∈ ws, v.length ≤ 4096 := fun v hv => by have := hsm.2 v (by simp [hv]); omega
 have hwn : ws.length ≤ 4096 := by have := hsm.1; simp at this; omega
 have form := fun T hT hf => pl_form W a cap w L s ws hs hwl hwn c0 c1 c2 c3 c4 x hw T hT hf
 have six0 : ∀ (y : List UInt8), x = y → y ≠ sWrite → y ≠ sCommit → y ≠ sAbort → y ≠ sSync → y ≠ sFlush → y ≠ sState → (x = sWrite → ¬ ws.length = 4) ∧ (x = sCommit → ¬ ws.length = 1) ∧ (x = sAbort → ¬ ws.length = 1) ∧ (x = sSync → ¬ ws.length = 1) ∧ (x = sFlush → ¬ ws.length = 1) ∧ (x = sState → ¬ ws.length = 1) :=
  fun y h h1 h2 h3 h4 h5 h6 => by subst h; exact ⟨fun e => absurd e h1, fun e => absurd e h2, fun e => absurd e h3, fun e => absurd e h4, fun e => absurd e h5, fun e => absurd e h6⟩
 have short : ∀ (y : List UInt8), x = y → s ≠ y → ¬ ws.length = 0 := fun y h hne hz => by
  rw [List.length_eq_zero_iff.1 hz] at hw
  exact hne ((words_one hw).trans h)
 have one : ws.length = 1 → ∃ n0, ws.map numR = [n0] := fun h => by
  match ws, h with
  | [s], _ => exact ⟨numR s, rfl⟩
 have four : ws.length = 4 → ∃ n0 n1 n2 n3, ws.map numR = [n0, n1, n2, n3] := fun h => by
  match ws, h with
  | [s0, s1, s2, s3], _ => exact ⟨_, _, _, _, rfl⟩
 have HT : ∀ i, ordNo x = some i → wordsT W x ws = if ws.length = ordN i then (if numsB ws = true then ordT W i (ws.map numR) else formT W) else formT W := fun i hi => by unfold wordsT numsB; rw [hi]
 rcases ord_cases x with ⟨rfl, ho⟩ | ⟨rfl, ho⟩ | ⟨rfl, ho⟩ | ⟨rfl, ho⟩ | ⟨rfl, ho⟩ | ⟨rfl, ho⟩ | ⟨rfl, ho⟩ | ⟨rfl, ho⟩ | ⟨rfl, ho⟩ | ⟨rfl, ho⟩ | ⟨rfl, ho⟩ | ⟨n0, n1, n2, n3, n4, n5, n6, n7, n8, n9, n10, ho⟩
 ·rw [HT 0 ho, show ordN 0 = 4 from rfl]
  by_cases hl : ws.length = 4
  ·rw [if_pos hl]
   by_cases hb : numsB ws = true
   ·rw [if_pos hb]
    obtain ⟨n0, n1, n2, n3, hns⟩ := four hl
    rw [hns]
    exact pl_write W a cap w L s ws hs hwl hwn c0 c1 c2 c3 c4 hw n0 n1 n2 n3 hns hb
   ·rw [if_neg hb]
    exact form _ rfl (fun z => absurd z hb)
  ·rw [if_neg hl]
   exact form _ rfl (fun _ => ⟨fun _ => hl, fun e => absurd e (by decide), fun e => absurd e (by decide), fun e => absurd e (by decide), fun e => absurd e (by decide), fun e => absurd e (by decide)⟩)
 ·rw [HT 1 ho, show ordN 1 = 1 from rfl]
  by_cases hl : ws.length = 1
  ·rw [if_pos hl]
   by_cases hb : numsB ws = true
   ·rw [if_pos hb]
    obtain ⟨n0, hns⟩ := one hl
    rw [hns]
    exact pl_commit W a cap w L s ws hs hwl hwn c0 c1 c2 c3 c4 hw n0 hns hb
   ·rw [if_neg hb]
    exact form _ rfl (fun z => absurd z hb)
  ·rw [if_neg hl]
   exact form _ rfl (fun _ => ⟨fun e => absurd e (by decide), fun _ => hl, fun e => absurd e (by decide), fun e => absurd e (by decide), fun e => absurd e (by decide), fun e => absurd e (by decide)⟩)
 ·rw [HT 2 ho, show ordN 2 = 1 from rfl]
  by_cases hl : ws.length = 1
  ·rw [if_pos hl]
   by_cases hb : numsB ws = true
   ·rw [if_pos hb]
    obtain ⟨n0, hns⟩ := one hl
    rw [hns]
    exact pl_abort W a cap w L s ws hs hwl hwn c0 c1 c2 c3 c4 hw n0 hns hb
   ·rw [if_neg hb]
    exact form _ rfl (fun z => absurd z hb)
  ·rw [if_neg hl]
   exact form _ rfl (fun _ => ⟨fun e => absurd e (by decide), fun e => absurd e (by decide), fun _ => hl, fun e => absurd e (by decide), fun e => absurd e (by decide), fun e => absurd e (by decide)⟩)
 ·rw [HT 3 ho, show ordN 3 = 1 from rfl]
  by_cases hl : ws.length = 1
  ·rw [if_pos hl]
   by_cases hb : numsB ws = true
   ·rw [if_pos hb]
    obtain ⟨n0, hns⟩ := one hl
    rw [hns]
    exact pl_sync W a cap w L s ws hs hwl hwn c0 c1 c2 c3 c4 hw n0 hns hb
   ·rw [if_neg hb]
    exact form _ rfl (fun z => absurd z hb)
  ·rw [if_neg hl]
   exact form _ rfl (fun _ => ⟨fun e => absurd e (by decide), fun e => absurd e (by decide), fun e => absurd e (by decide), fun _ => hl, fun e => absurd e (by decide), fun e => absurd e (by decide)⟩)
 ·rw [HT 4 ho, show ordN 4 = 1 from rfl]
  by_cases hl : ws.length = 1
  ·rw [if_pos hl]
   by_cases hb : numsB ws = true
   ·rw [if_pos hb]
    obtain ⟨n0, hns⟩ := one hl
    rw [hns]
    exact pl_flush W a cap w L s ws hs hwl hwn c0 c1 c2 c3 c4 hw n0 hns hb
   ·rw [if_neg hb]
    exact form _ rfl (fun z => absurd z hb)
  ·rw [if_neg hl]
   exact form _ rfl (fun _ => ⟨fun e => absurd e (by decide), fun e => absurd e (by decide), fun e => absurd e (by decide), fun e => absurd e (by decide), fun _ => hl, fun e => absurd e (by decide)⟩)
 ·rw [HT 5 ho, show ordN 5 = 0 from rfl, if_neg (short sCrash rfl c0)]
  exact form _ rfl (fun _ => six0 sCrash rfl (by decide) (by decide) (by decide) (by decide) (by decide) (by decide))
 ·rw [HT 6 ho, show ordN 6 = 0 from rfl, if_neg (short sNow rfl c1)]
  exact form _ rfl (fun _ => six0 sNow rfl (by decide) (by decide) (by decide) (by decide) (by decide) (by decide))
 ·rw [HT 7 ho, show ordN 7 = 0 from rfl, if_neg (short sDisk rfl c2)]
  exact form _ rfl (fun _ => six0 sDisk rfl (by decide) (by decide) (by decide) (by decide) (by decide) (by decide))
 ·rw [HT 8 ho, show ordN 8 = 0 from rfl, if_neg (short sMust rfl c3)]
  exact form _ rfl (fun _ => six0 sMust rfl (by decide) (by decide) (by decide) (by decide) (by decide) (by decide))
 ·rw [HT 9 ho, show ordN 9 = 0 from rfl, if_neg (short sLog rfl c4)]
  exact form _ rfl (fun _ => six0 sLog rfl (by decide) (by decide) (by decide) (by decide) (by decide) (by decide))
 ·rw [HT 10 ho, show ordN 10 = 1 from rfl]
  by_cases hl : ws.length = 1
  ·rw [if_pos hl]
   by_cases hb : numsB ws = true
   ·rw [if_pos hb]
    obtain ⟨n0, hns⟩ := one hl
    rw [hns]
    exact pl_state W hW a cap w L s ws hs hwl hwn c0 c1 c2 c3 c4 hw n0 hns hb
   ·rw [if_neg hb]
    exact form _ rfl (fun z => absurd z hb)
  ·rw [if_neg hl]
   exact form _ rfl (fun _ => ⟨fun e => absurd e (by decide), fun e => absurd e (by decide), fun e => absurd e (by decide), fun e => absurd e (by decide), fun e => absurd e (by decide), fun _ => hl⟩)
 ·have : wordsT W x ws = formT W := by unfold wordsT; rw [ho]
  rw [this]
  exact form _ rfl (fun _ => six0 x rfl n0 n1 n2 n3 n4 n10)
end Go.Proofs.YtibfgbmhmdggmaaGreatDoor.B
