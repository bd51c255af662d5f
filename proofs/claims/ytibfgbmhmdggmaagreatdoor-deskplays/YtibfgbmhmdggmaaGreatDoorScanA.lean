/- The contracts of the scan's Crash, and of the reference's CrashOf. The contracts of the scan's Losers, and of the reference's losers and LosersOf. -/
import Derived.Test.YtibfgbmhmdggmaaGreatDoorWork6
import Derived.Test.YtibfgbmhmdggmaaGreatDoorPlainB
import Derived.Maps.AppendAt
namespace Go.Proofs.YtibfgbmhmdggmaaGreatDoor.B
set_option maxHeartbeats 32000000
set_option maxRecDepth 100000
open Go.ChangeShapes Go.WideShapes Go.ChangeAt Go.RowKit
theorem own_take {w : World} {base : Nat} {a : Option Addr} {n cap : Nat} {l : List Rc} (h : w.ownsRow base 81 8 (.slice a n cap) l.length (flat l)) (k : Nat) (hk : k ≤ l.length) : w.ownsRow base 81 8 (.slice a k cap) (l.take k).length (flat (l.take k)) := by
 have hlen : (l.take k).length = k := List.length_take_of_le hk
 rcases h.2 with ⟨h1, h2⟩ | ⟨g, c, cur, h1, hg, hb, hc, hm, hs, ht⟩
 ·injection h1 with h3 h4 h5
  subst h3 h5
  have : k = 0 := by omega
  subst this
  exact ⟨rfl, Or.inl ⟨rfl, rfl⟩⟩
 ·injection h1 with h3 h4 h5
  subst h3 h5
  refine ⟨by rw [flat_len], Or.inr ⟨g, cap, cur, by rw [hlen], hg, hb, by omega, hm, hs, ?_⟩⟩
  have hf : flat (l.take k) = (flat l).take (k * 8) := by
   have h1 : flat l = flat (l.take k) ++ flat (l.drop k) := by unfold flat; rw [← List.flatMap_append, List.take_append_drop]
   rw [h1, List.take_left' (by rw [flat_len, hlen])]
  rw [hf, ← ht, List.take_take, hlen]
  congr 1
  omega
theorem safe_nat {p q r : Pg} {l : List Rc} {safe : Int} (h : worldErr p q r l safe = 0) : ∃ n : Nat, safe = (n : Nat) ∧ n ≤ l.length ∧ l.length ≤ 60 := by
 obtain ⟨h1, h2, _⟩ := worldErr_zero h
 obtain ⟨h4, h5⟩ := out1_false h2
 exact ⟨safe.toNat, by omega, by omega, (logErr_zero h1).1⟩
theorem crash_any (p q r : Pg) (a : Option Addr) (len cap : Nat) (l : List Rc) (safe : Int) (w : World) (h : LogIn w a len cap l) :
  Calls Tryz.prog 134 #[wdVal p q r (.slice a len cap) safe] w fun e w' => Ext w w' ∧ WorkAns w.heap.size w' e p q r (worldErr p q r l safe) (l.take safe.toNat) safe := by
 have hll := h.recs.len
 have E0 := ((Ext.refl w).alloc (.cells (wdCells p q r (.slice a len cap) safe) 38)).alloc (.cells (wdCells noPg noPg noPg (.slice none 0 0) 0) 38)
 have B0 := (Blk.new w w.heap.size (wdCells p q r (.slice a len cap) safe) 38 rfl).alloc (.cells (wdCells noPg noPg noPg (.slice none 0 0) 0) 38)
 have N0 := Blk.new (w.alloc (.cells (wdCells p q r (.slice a len cap) safe) 38)) (w.heap.size + 1) (wdCells noPg noPg noPg (.slice none 0 0) 0) 38 (by simp)
 have H := worldCheck_any p q r a len cap l safe _ (h.recs.ext E0) h.nil h.max
 have HN : Hid (worldErr p q r l safe = 0 → ∃ n : Nat, safe = (n : Nat) ∧ n ≤ len ∧ len ≤ 60) := fun hz => by obtain ⟨n, h1, h2, h3⟩ := safe_nat hz; exact ⟨n, h1, by omega, by omega⟩
 generalize worldErr p q r l safe = we at *
 have b0 := B0.cell
 go_enter Tryz.func134, Tryz.ntmps134
 go_wp2_with fail
 refine H.mono ?_
 rintro e w1 ⟨rfl, hE⟩
 have E := E0.trans hE
 have B := B0.ext hE
 have N := N0.ext hE
 clear H b0 B0 N0 E0 hE
 by_cases hz : we = 0
 ·subst hz
  obtain ⟨n, rfl, hn, h60⟩ := HN.out rfl
  have b1 := B.cell
  have hnc : n ≤ cap := by have := h.le; omega
  have hR := (h.recs.ext E).take n hn
  have hlt : (l.take n).length = n := List.length_take_of_le (by omega)
  have hnil := h.nil
  go_wp2_with fail
  refine (clone_any a n cap (l.take n) _ hR hnil (by omega)).mono ?_
  rintro e w2 ⟨v, rfl, hown, hE2⟩
  obtain ⟨sa, sm, sc, rfl⟩ := own_slice hown
  obtain rfl := own_len hown
  rw [hlt] at hown ⊢
  have B2 := B.ext hE2
  have N2 := N.ext hE2
  have E2 := E.trans hE2
  have f2 := B2.fr
  have B3 := B2.set 12 (.slice sa n sc)
  have N3 := N2.other ⟨w.heap.size, 12, none⟩ (.slice sa n sc) (by simp)
  have b3 := B3.cell
  have b2 := B2.cell
  have n3 := N3.cell
  have g3 := N3.fr
  have G3 : Gr (some w.heap.size) w2 (w2.setCell ⟨w.heap.size, 12, none⟩ (.slice sa n sc)) := (Gr.refl (some w.heap.size) w2).set (p := ⟨w.heap.size, 12, none⟩) (Or.inr rfl) _
  have own3 := own_gr hown G3 (fun k hk e => by injection e with e; exact own_notblk hown B2 (by decide) k hk e)
  have E3 := E2.setCell (p := ⟨w.heap.size, 12, none⟩) (Nat.le_refl _) (.slice sa n sc)
  have G4 := put14_gr (w2.setCell ⟨w.heap.size, 12, none⟩ (.slice sa n sc)) (w.heap.size + 1) (.int .i64 p.c0) (.int .i64 p.c1) (.int .i64 p.c2) (.int .i64 p.last) (.int .i64 q.c0) (.int .i64 q.c1) (.int .i64 q.c2) (.int .i64 q.last) (.int .i64 r.c0) (.int .i64 r.c1) (.int .i64 r.c2) (.int .i64 r.last) (.slice sa n sc) (.int .i64 (n : Nat))
  have own4 := own_gr own3 G4 (fun k hk e => by injection e with e; exact own_notblk own3 N3 (by decide) k hk e)
  have E4 := put14_ext E3 (w.heap.size + 1) (by omega) (.int .i64 p.c0) (.int .i64 p.c1) (.int .i64 p.c2) (.int .i64 p.last) (.int .i64 q.c0) (.int .i64 q.c1) (.int .i64 q.c2) (.int .i64 q.last) (.int .i64 r.c0) (.int .i64 r.c1) (.int .i64 r.c2) (.int .i64 r.last) (.slice sa n sc) (.int .i64 (n : Nat))
  have HIn : Hid (LogIn (put14 (w2.setCell ⟨w.heap.size, 12, none⟩ (.slice sa n sc)) (w.heap.size + 1) (.int .i64 p.c0) (.int .i64 p.c1) (.int .i64 p.c2) (.int .i64 p.last) (.int .i64 q.c0) (.int .i64 q.c1) (.int .i64 q.c2) (.int .i64 q.last) (.int .i64 r.c0) (.int .i64 r.c1) (.int .i64 r.c2) (.int .i64 r.last) (.slice sa n sc) (.int .i64 (n : Nat))) sa n sc (l.take n)) := by
   have := own_in2 (l := l.take n) (by rw [hlt]; exact own4) (by omega)
   rw [hlt] at this
   exact this
  have HF : Hid (∀ ad, sa = some ad → w.heap.size ≤ ad.block) := fun ad e => by
   have := own_from hown ad.block (by rw [e]; rfl)
   have := E.size
   omega
  have HT : Hid ((l.take ((n : Nat) : Int).toNat) = l.take n) := by rw [Hid, Int.toNat_natCast]
  have HL := (show Hid ((l.take n).length = n) from hlt)
  clear hown own3 own4 hR HN E E2 E3 G3 G4 B N B2 N2 B3 N3 hE2 hlt hnil
  go_wp2_with fail
  refine bodyPost_ret (v := .tuple #[.agg (wdCells p q r (.slice sa n sc) (n : Nat)), .int .i64 0]) (by simp [results, Tryz.results134, go_sem, n3]) rfl ⟨?_, Or.inl ⟨rfl, sa, sc, ?_, ?_, HF.out⟩⟩
  ·exact E4
  ·rw [HT.out, HL.out]
  ·rw [HT.out, HL.out]; exact HIn.out
 ·have hb : (we != 0) = true := by simpa using hz
  have HZ := (show Hid (we ≠ 0) from hz)
  clear hz
  have n_ := N.cell
  have f_ := N.fr
  have E9 := put14_ext E (w.heap.size + 1) (by omega) (.int .i64 0) (.int .i64 0) (.int .i64 0) (.int .i64 0) (.int .i64 0) (.int .i64 0) (.int .i64 0) (.int .i64 0) (.int .i64 0) (.int .i64 0) (.int .i64 0) (.int .i64 0) (.slice none 0 0) (.int .i64 0)
  go_wp2_with fail
  refine bodyPost_ret (v := .tuple #[.agg (wdCells noPg noPg noPg (.slice none 0 0) 0), .int .i64 we]) (by simp [results, Tryz.results134, go_sem, n_]) rfl ⟨?_, Or.inr ⟨HZ.out, rfl⟩⟩
  exact E9
def OwnAns (base : Nat) (w' : World) (e : Ending) (p q r : Pg) (x : Int) (l' : List Rc) (safe' : Int) : Prop :=
 (x = 0 ∧ ∃ a cap, e = .returned (.tuple #[wdVal p q r (.slice a l'.length cap) safe', .int .i64 0]) ∧ w'.ownsRow base 81 8 (.slice a l'.length cap) l'.length (flat l') ∧ l'.length ≤ 60) ∨
  (x ≠ 0 ∧ e = .returned (.tuple #[wdVal noPg noPg noPg (.slice none 0 0) 0, .int .i64 x]))
theorem crashOf_any (p q r : Pg) (a : Option Addr) (len cap : Nat) (l : List Rc) (safe : Int) (w : World) (h : LogIn w a len cap l) :
  Calls Tryz.prog 85 #[wdVal p q r (.slice a len cap) safe] w fun e w' => Ext w w' ∧ OwnAns w.heap.size w' e p q r (worldErr p q r l safe) (l.take safe.toNat) safe := by
 have hll := h.recs.len
 have E0 := ((Ext.refl w).alloc (.cells (wdCells p q r (.slice a len cap) safe) 38)).alloc (.cells (wdCells noPg noPg noPg (.slice none 0 0) 0) 38)
 have B0 := (Blk.new w w.heap.size (wdCells p q r (.slice a len cap) safe) 38 rfl).alloc (.cells (wdCells noPg noPg noPg (.slice none 0 0) 0) 38)
 have N0 := Blk.new (w.alloc (.cells (wdCells p q r (.slice a len cap) safe) 38)) (w.heap.size + 1) (wdCells noPg noPg noPg (.slice none 0 0) 0) 38 (by simp)
 have H := worldError_any p q r a len cap l safe _ (h.recs.ext E0) h.le h.max
 have HN : Hid (worldErr p q r l safe = 0 → ∃ n : Nat, safe = (n : Nat) ∧ n ≤ len ∧ len ≤ 60) := fun hz => by obtain ⟨n, h1, h2, h3⟩ := safe_nat hz; exact ⟨n, h1, by omega, by omega⟩
 generalize worldErr p q r l safe = we at *
 have b0 := B0.cell
 go_enter Tryz.func85, Tryz.ntmps85
 go_wp2_with fail
 refine H.mono ?_
 rintro e w1 ⟨rfl, hE⟩
 have E := E0.trans hE
 have B := B0.ext hE
 have N := N0.ext hE
 clear H b0 B0 N0 E0 hE
 by_cases hz : we = 0
 ·subst hz
  obtain ⟨n, rfl, hn, h60⟩ := HN.out rfl
  have b1 := B.cell
  have hlt : (l.take n).length = n := List.length_take_of_le (by omega)
  go_wp2_with fail
  refine (ownWorld_any p q r a len cap l _ _ (h.ext E) h60).mono ?_
  rintro e w2 ⟨sa, sc, rfl, hE2, hown⟩
  have hcc : n ≤ sc := by obtain ⟨_, c, h1, h2, h3, _⟩ := recs_own' hown; injection h1 with _ _ h1; subst h1; omega
  have hsz : w.heap.size + 1 < w2.heap.size := (N.ext hE2).lt
  have E2 := E.trans hE2
  have N2 := N.ext hE2
  have B2 := B.ext hE2
  have n2 := N2.cell
  have g2 := N2.fr
  have b2 := (B2.alloc (.cells (wdCells p q r (.slice sa len sc) (n : Nat)) 38)).cell
  have hown3 := own_base (own_take hown n (by omega)) E.size
  have HT : Hid ((l.take ((n : Nat) : Int).toNat) = l.take n) := by rw [Hid, Int.toNat_natCast]
  have HL := (show Hid ((l.take n).length = n) from hlt)
  rw [hlt] at hown3
  have G4 := put14_gr w2 (w.heap.size + 1) (.int .i64 p.c0) (.int .i64 p.c1) (.int .i64 p.c2) (.int .i64 p.last) (.int .i64 q.c0) (.int .i64 q.c1) (.int .i64 q.c2) (.int .i64 q.last) (.int .i64 r.c0) (.int .i64 r.c1) (.int .i64 r.c2) (.int .i64 r.last) (.slice sa n sc) (.int .i64 (n : Nat))
  have own5 := own_ext (own_gr hown3 G4 (fun k hk e => by injection e with e; exact own_notblk hown3 N2 (by decide) k hk e)) ((Ext.refl _).alloc (.cells (wdCells p q r (.slice sa n sc) (n : Nat)) 38))
  have E4 := (put14_ext E2 (w.heap.size + 1) (by omega) (.int .i64 p.c0) (.int .i64 p.c1) (.int .i64 p.c2) (.int .i64 p.last) (.int .i64 q.c0) (.int .i64 q.c1) (.int .i64 q.c2) (.int .i64 q.last) (.int .i64 r.c0) (.int .i64 r.c1) (.int .i64 r.c2) (.int .i64 r.last) (.slice sa n sc) (.int .i64 (n : Nat))).alloc (.cells (wdCells p q r (.slice sa n sc) (n : Nat)) 38)
  have n3 := ((put14_blk N2 (.int .i64 p.c0) (.int .i64 p.c1) (.int .i64 p.c2) (.int .i64 p.last) (.int .i64 q.c0) (.int .i64 q.c1) (.int .i64 q.c2) (.int .i64 q.last) (.int .i64 r.c0) (.int .i64 r.c1) (.int .i64 r.c2) (.int .i64 r.last) (.slice sa n sc) (.int .i64 (n : Nat))).alloc (.cells (wdCells p q r (.slice sa n sc) (n : Nat)) 38)).cell
  have HOwn := (show Hid (World.ownsRow ((put14 w2 (w.heap.size + 1) (.int .i64 p.c0) (.int .i64 p.c1) (.int .i64 p.c2) (.int .i64 p.last) (.int .i64 q.c0) (.int .i64 q.c1) (.int .i64 q.c2) (.int .i64 q.last) (.int .i64 r.c0) (.int .i64 r.c1) (.int .i64 r.c2) (.int .i64 r.last) (.slice sa n sc) (.int .i64 (n : Nat))).alloc (.cells (wdCells p q r (.slice sa n sc) (n : Nat)) 38)) w.heap.size 81 8 (.slice sa n sc) n (flat (l.take n))) from own5)
  clear hown hown3 own5 G4 E2 B2 N2 B N E hE2 b1 hlt
  go_wp2_with fail
  refine bodyPost_ret (v := .tuple #[.agg (wdCells p q r (.slice sa n sc) (n : Nat)), .int .i64 0]) (by simp [results, Tryz.results85, go_sem, n3]) rfl ⟨?_, Or.inl ⟨rfl, sa, sc, ?_, ?_, by rw [HT.out, HL.out]; omega⟩⟩
  ·exact E4
  ·rw [HT.out, HL.out]
  ·rw [HT.out, HL.out]; exact HOwn.out
 ·have hb : (we != 0) = true := by simpa using hz
  have HZ := (show Hid (we ≠ 0) from hz)
  clear hz
  have n_ := N.cell
  have f_ := N.fr
  have E9 := put14_ext E (w.heap.size + 1) (by omega) (.int .i64 0) (.int .i64 0) (.int .i64 0) (.int .i64 0) (.int .i64 0) (.int .i64 0) (.int .i64 0) (.int .i64 0) (.int .i64 0) (.int .i64 0) (.int .i64 0) (.int .i64 0) (.slice none 0 0) (.int .i64 0)
  go_wp2_with fail
  refine bodyPost_ret (v := .tuple #[.agg (wdCells noPg noPg noPg (.slice none 0 0) 0), .int .i64 we]) (by simp [results, Tryz.results85, go_sem, n_]) rfl ⟨?_, Or.inr ⟨HZ.out, rfl⟩⟩
  exact E9
end Go.Proofs.YtibfgbmhmdggmaaGreatDoor.B
namespace Go.Proofs.YtibfgbmhmdggmaaGreatDoor.B
set_option maxHeartbeats 32000000
set_option maxRecDepth 100000
open Go.ChangeShapes Go.WideShapes Go.ChangeAt Go.RowKit Go.Shelf
attribute [local go_sem] Oper.semAt_some
theorem ofState_losers (l : List Rc) : ofState [1, 3] (stateR l) 9 = losersR l := by
 have h1 : ((List.range 9).map fun j : Nat => (j : Int) + 1) = txnsL := rfl
 unfold ofState losersR
 rw [h1]
 congr 1
 funext t
 simp only [List.contains_cons, List.contains_nil, Bool.or_false]
theorem losers_take (l : List Rc) (k : Nat) : ofState [1, 3] (stateR l) (k + 1) = if stateR l ((k : Int) + 1) = 1 ∨ stateR l ((k : Int) + 1) = 3 then ofState [1, 3] (stateR l) k ++ [(k : Int) + 1] else ofState [1, 3] (stateR l) k := by
 rw [ofState_succ]
 simp only [List.contains_cons, List.contains_nil, Bool.or_false, Bool.or_eq_true, beq_iff_eq]
theorem refLosers_any (a : Option Addr) (len cap : Nat) (l : List Rc) (w : World) (h : Recs w a len l) (hl : len ≤ 1000) :
  Calls Tryz.prog 125 #[.slice a len cap] w fun e w' => ∃ a' cap', e = .returned (.slice a' (losersR l).length cap') ∧ (losersR l).length ≤ cap' ∧ Ints w.heap.size w' a' (losersR l) ∧ Ext w w' := by
 obtain ⟨i0, hi, hz0, hz1, hz2⟩ := info_parts infoInt
 have HI := (show Hid _ from hi)
 have Z0 := (show Hid _ from hz0)
 have Z1 := (show Hid _ from hz1)
 have Z2 := (show Hid _ from hz2)
 clear hi hz0 hz1 hz2
 have HA := (show Hid (ofState [1, 3] (stateR l) 9 = losersR l) from ofState_losers l)
 generalize losersR l = lo at *
 go_enter Tryz.func125, Tryz.ntmps125
 go_wp2_with fail
 go_loopw [3, 4] (fun o i wr => ∃ k : Nat, k ≤ 9 ∧ i = .int .i64 ((k : Int) + 1) ∧ Ext w wr ∧ wr.ownsRow w.heap.size 3 1 o (ofState [1, 3] (stateR l) k).length (ivs (ofState [1, 3] (stateR l) k))) (fun _ i _ => 10 - (intOf i).toNat)
 case atStart => exact ⟨0, by omega, rfl, Ext.refl w, rfl, Or.inl ⟨rfl, rfl⟩⟩
 case round =>
  obtain ⟨k, hk, rfl, hE, hown⟩ := hrel
  by_cases hlt : k < 9
  ·have HS := (show Hid _ from losers_take l k)
   have hml := ofState_len [1, 3] (stateR l) k
   generalize ofState [1, 3] (stateR l) k = ns at *
   have hkl : ((k : Int) + 1 ≤ 9) := by omega
   go_wp2_with fail
   refine (state_any a len cap l ((k : Int) + 1) wr (h.ext hE) hl).mono ?_
   rintro e w2 ⟨rfl, rfl⟩
   generalize stateR l ((k : Int) + 1) = s at *
   by_cases hs : s = 1 ∨ s = 3
   ·have HS2 : Hid (ofState [1, 3] (stateR l) (k + 1) = ns ++ [(k : Int) + 1]) := by rw [Hid, HS.out, if_pos hs]
    obtain ⟨sa, sm, sc, rfl⟩ := own_slice hown
    obtain rfl := own_len hown
    have HO := (show Hid (w2.ownsRow w.heap.size 3 1 (.slice sa ns.length sc) ns.length (ivs ns)) from hown)
    clear hown
    rcases hs with rfl | rfl
    ·go_wp2_with (at_builtin; refine wpList_append_lies _ rfl _ _ 61 rfl w.heap.size 3 i0 (.int .i64 0) 1 8 Tryz.underlying61 HI.out Z0.out Z1.out Z2.out rfl (by decide) (.slice sa ns.length sc) ns.length (ivs ns) rfl (own_ext HO.out ((Ext.refl w2).alloc _)) ⟨w2.heap.size, 0, none⟩ 1 1 [.int .i64 ((k : Int) + 1)] rfl rfl (cells_new _ [.int .i64 ((k : Int) + 1)] _ _ (by simp)) (fun x hx => by simp at hx; subst hx; rfl) (by decide) (by unfold maxLen; omega) (by omega) (by have := hE.size; simp; omega) _ rfl ?_; intro g cap' w3 hown' hgrow hg hgl)
     have hE3 : Ext w w3 := (hE.alloc _).grown (own_ext HO.out ((Ext.refl w2).alloc _)) hgrow
     refine ⟨⟨k + 1, by omega, by go_num, hE3, ?_⟩, by simp [intOf]; omega⟩
     rw [HS2.out, List.length_append, ivs_snoc]
     exact hown'
    ·go_wp2_with (at_builtin; refine wpList_append_lies _ rfl _ _ 61 rfl w.heap.size 3 i0 (.int .i64 0) 1 8 Tryz.underlying61 HI.out Z0.out Z1.out Z2.out rfl (by decide) (.slice sa ns.length sc) ns.length (ivs ns) rfl (own_ext HO.out ((Ext.refl w2).alloc _)) ⟨w2.heap.size, 0, none⟩ 1 1 [.int .i64 ((k : Int) + 1)] rfl rfl (cells_new _ [.int .i64 ((k : Int) + 1)] _ _ (by simp)) (fun x hx => by simp at hx; subst hx; rfl) (by decide) (by unfold maxLen; omega) (by omega) (by have := hE.size; simp; omega) _ rfl ?_; intro g cap' w3 hown' hgrow hg hgl)
     have hE3 : Ext w w3 := (hE.alloc _).grown (own_ext HO.out ((Ext.refl w2).alloc _)) hgrow
     refine ⟨⟨k + 1, by omega, by go_num, hE3, ?_⟩, by simp [intOf]; omega⟩
     rw [HS2.out, List.length_append, ivs_snoc]
     exact hown'
   ·have HS2 : Hid (ofState [1, 3] (stateR l) (k + 1) = ns) := by rw [Hid, HS.out, if_neg hs]
    have hb1 : (s == 1) = false := by simp; omega
    have hb3 : (s == 3) = false := by simp; omega
    clear hs
    go_wp2_with fail
    go_roundw
    case rel => exact ⟨k + 1, by omega, by go_num, hE, by rw [HS2.out]; exact hown⟩
    case measure => simp [intOf]; omega
  ·obtain rfl : k = 9 := by omega
   rw [HA.out] at hown
   have hml : lo.length ≤ 9 := by rw [← HA.out]; exact ofState_len _ _ _
   obtain ⟨sa, sc, rfl, hc, hr⟩ := Ints.of_own hown
   go_wp2_with fail
   go_ret
   exact ⟨sa, sc, rfl, hc, hr, hE⟩
end Go.Proofs.YtibfgbmhmdggmaaGreatDoor.B
