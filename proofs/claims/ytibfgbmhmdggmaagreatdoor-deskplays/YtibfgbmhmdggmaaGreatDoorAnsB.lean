/- The contracts of the mend's All and Half. · What All and Half answer, in one form for the world and for the error. How slices of truths, and of numbers, that a law is handed are opened. mendBegun answers true. The contract of the laws' is, where the cells of the pages are the cells asked. -/
import Derived.Test.YtibfgbmhmdggmaaGreatDoorCrewB
namespace Go.Proofs.YtibfgbmhmdggmaaGreatDoor.B
set_option maxHeartbeats 32000000
set_option maxRecDepth 100000
open Go.ChangeShapes Go.WideShapes Go.ChangeAt Go.RowKit
def AllAns (base : Nat) (w' : World) (e : Ending) (p q r : Pg) (x : Int) (n : Nat) (l' : List Rc) (s : Int) : Prop :=
 (x = 0 ∧ ∃ a cap, e = .returned (.tuple #[wdVal p q r (.slice a l'.length cap) s, .int .i64 (n : Nat), .int .i64 0]) ∧ LogIn w' a l'.length cap l' ∧ ∀ ad, a = some ad → base ≤ ad.block) ∨
  (x ≠ 0 ∧ e = .returned (.tuple #[wdVal noPg noPg noPg (.slice none 0 0) 0, .int .i64 0, .int .i64 x]))
theorem job_safe {p q r : Pg} {l : List Rc} {safe : Int} (h : worldErr p q r l safe = 0) : safe ≤ ((l.take safe.toNat).length : Nat) := by rw [(world_cut h).2]; exact Int.le_refl _
theorem mendAll_any (p q r : Pg) (a : Option Addr) (len cap : Nat) (l : List Rc) (safe : Int) (w : World) (h : LogIn w a len cap l) :
  Calls Tryz.prog 74 #[wdVal p q r (.slice a len cap) safe] w fun e w' => Ext w w' ∧
   AllAns w.heap.size w' e (pgAt (pagesR (mendR (l.take safe.toNat))) 0) (pgAt (pagesR (mendR (l.take safe.toNat))) 1) (pgAt (pagesR (mendR (l.take safe.toNat))) 2) (errOf (worldErr p q r l safe) (mendErr (l.take safe.toNat))) (needR (l.take safe.toNat)) (mendR (l.take safe.toNat)) ((mendR (l.take safe.toNat)).length : Nat) := by
 have E0 : Ext w (((w.alloc (.cells (wdCells p q r (.slice a len cap) safe) 38)).alloc (.cells (wdCells noPg noPg noPg (.slice none 0 0) 0) 38)).alloc (.cells #[.int .i64 0] 3)) := (((Ext.refl w).alloc _).alloc _).alloc _
 have B0 : Blk (((w.alloc (.cells (wdCells p q r (.slice a len cap) safe) 38)).alloc (.cells (wdCells noPg noPg noPg (.slice none 0 0) 0) 38)).alloc (.cells #[.int .i64 0] 3)) w.heap.size (wdCells p q r (.slice a len cap) safe) 38 := ((Blk.new w _ _ _ rfl).alloc _).alloc _
 have Z0 : Blk (((w.alloc (.cells (wdCells p q r (.slice a len cap) safe) 38)).alloc (.cells (wdCells noPg noPg noPg (.slice none 0 0) 0) 38)).alloc (.cells #[.int .i64 0] 3)) (w.heap.size + 1) (wdCells noPg noPg noPg (.slice none 0 0) 0) 38 := (Blk.new _ _ _ _ (by simp)).alloc _
 have N0 : Blk (((w.alloc (.cells (wdCells p q r (.slice a len cap) safe) 38)).alloc (.cells (wdCells noPg noPg noPg (.slice none 0 0) 0) 38)).alloc (.cells #[.int .i64 0] 3)) (w.heap.size + 1 + 1) #[.int .i64 0] 3 := Blk.new _ _ _ _ (by simp)
 have hsz : (((w.alloc (.cells (wdCells p q r (.slice a len cap) safe) 38)).alloc (.cells (wdCells noPg noPg noPg (.slice none 0 0) 0) 38)).alloc (.cells #[.int .i64 0] 3)).heap.size = w.heap.size + 3 := by simp
 have H := send_any [w.heap.size + 1 + 1] (fun x W => Blk W (w.heap.size + 1 + 1) #[.int .i64 ((if x = 0 then needR (l.take safe.toNat) else 0 : Nat) : Int)] 3) p q r (pgAt (pagesR (mendR (l.take safe.toNat))) 0) (pgAt (pagesR (mendR (l.take safe.toNat))) 1) (pgAt (pagesR (mendR (l.take safe.toNat))) 2) a len cap l (mendR (l.take safe.toNat)) safe ((mendR (l.take safe.toNat)).length : Nat) (mendErr (l.take safe.toNat)) 110 #[.pointer (some ⟨w.heap.size + 1 + 1, 0, none⟩)] _ (h.ext E0)
  (fun k hk => by simp only [List.mem_singleton] at hk; omega) (fun x A B hA hh => by unfold Blk at *; rw [hh _ (by omega)]; exact hA) (fun hz => by rw [if_neg hz]; exact N0) (fun v w => callFunc_enter _ w Tryz.func110 (by kernel_rfl) (by kernel_rfl))
  (fun hz w' base db pb mt mh tx ho lv cb e hb hC hD => all1_any cb (w.heap.size + 1 + 1) w' hD hC (N0.ext e) (by omega) (job_safe hz))
 have hge : w.heap.size + 3 ≤ (((w.alloc (.cells (wdCells p q r (.slice a len cap) safe) 38)).alloc (.cells (wdCells noPg noPg noPg (.slice none 0 0) 0) 38)).alloc (.cells #[.int .i64 0] 3)).heap.size := by omega
 clear hsz
 generalize errOf (worldErr p q r l safe) (mendErr (l.take safe.toNat)) = xx at *
 generalize needR (l.take safe.toNat) = nn at *
 generalize pgAt (pagesR (mendR (l.take safe.toNat))) 0 = p' at *
 generalize pgAt (pagesR (mendR (l.take safe.toNat))) 1 = q' at *
 generalize pgAt (pagesR (mendR (l.take safe.toNat))) 2 = r' at *
 generalize mendR (l.take safe.toNat) = l' at *
 obtain ⟨s', hs'⟩ : ∃ s' : Int, ((l'.length : Nat) : Int) = s' := ⟨_, rfl⟩
 rw [hs'] at H ⊢
 clear hs'
 have HE := (show Hid (Ext w (((w.alloc (.cells (wdCells p q r (.slice a len cap) safe) 38)).alloc (.cells (wdCells noPg noPg noPg (.slice none 0 0) 0) 38)).alloc (.cells #[.int .i64 0] 3))) from E0)
 have b0 := B0.cell
 go_enter Tryz.func74, Tryz.ntmps74
 go_wp2_with fail
 refine H.mono ?_
 rintro e w1 ⟨hoff, hfin, hans⟩
 have E1 : Ext w w1 := Below.trans HE.out (Off.below ⟨hoff.os, hoff.tape, hoff.output, hoff.size, fun k hk _ => hoff.block k (by omega) (by simp; omega)⟩)
 have Z1 : Blk w1 (w.heap.size + 1) (wdCells noPg noPg noPg (.slice none 0 0) 0) 38 := Z0.off hoff (by omega) (by simp)
 clear H hoff Z0 N0 B0 b0 E0 HE hge
 rcases hans with ⟨h0, a', cap', rfl, hin, hfrom⟩ | ⟨h0, rfl⟩
 ·have N1 : Blk w1 (w.heap.size + 1 + 1) #[.int .i64 (nn : Nat)] 3 := by rw [if_pos h0] at hfin; exact hfin
  have HX := (show Hid (xx = 0) from h0)
  have HFr : Hid (∀ ad, a' = some ad → w.heap.size + 1 + 1 < ad.block) := fun ad e => by have := hfrom ad e; simp at this; omega
  have HIn := (show Hid (LogIn w1 a' l'.length cap' l') from hin)
  clear hfin h0 hfrom hin
  have M2 := Blk.new w1 w1.heap.size (wdCells p' q' r' (.slice a' l'.length cap') s') 38 rfl
  have e2 := (Ext.refl w1).alloc (.cells (wdCells p' q' r' (.slice a' l'.length cap') s') 38)
  have N2 := N1.ext e2
  have Z2 := Z1.ext e2
  have E2 := E1.trans e2
  have hzm : w.heap.size + 1 ≠ w1.heap.size := by have := Z1.lt; omega
  go_wp2_with fail
  have KC : Hid (∀ W, Blk W w1.heap.size (wdCells p' q' r' (.slice a' l'.length cap') s') 38 → Blk W (w.heap.size + 1 + 1) #[.int .i64 (nn : Nat)] 3 → (∀ o, W.cell? ⟨w1.heap.size, o, none⟩ = (wdCells p' q' r' (.slice a' l'.length cap') s')[o]?) ∧ (∀ o, W.cell? ⟨w.heap.size + 1 + 1, o, none⟩ = #[Value.int .i64 (nn : Nat)][o]?)) := fun W x y => ⟨x.cell, y.cell⟩
  generalize w1.alloc (.cells (wdCells p' q' r' (.slice a' l'.length cap') s') 38) = w2 at *
  refine wp_region_held_drew (S := fun W => (∀ o, W.cell? ⟨w1.heap.size, o, none⟩ = (wdCells p' q' r' (.slice a' l'.length cap') s')[o]?) ∧ (∀ o, W.cell? ⟨w.heap.size + 1 + 1, o, none⟩ = #[Value.int .i64 (nn : Nat)][o]?)) (by kernel_rfl) (KC.out _ M2.drew N2.drew) (fun hHeld => ?_)
  refine tkn 0 rfl hHeld ?_
  simp only [Act.put]
  refine tkn 1 rfl hHeld ?_
  simp only [Act.put]
  refine tkn 2 rfl hHeld ?_
  simp only [Act.put]
  have z2 := Z2.cell
  have f2 := Z2.fr
  refine exn 3 rfl fun K hK => ?_
  go_simp
  have M3 := put14_other M2 (w.heap.size + 1) (Ne.symm hzm) (.int .i64 p'.c0) (.int .i64 p'.c1) (.int .i64 p'.c2) (.int .i64 p'.last) (.int .i64 q'.c0) (.int .i64 q'.c1) (.int .i64 q'.c2) (.int .i64 q'.last) (.int .i64 r'.c0) (.int .i64 r'.c1) (.int .i64 r'.c2) (.int .i64 r'.last) (.slice a' l'.length cap') (.int .i64 s')
  have N3 := put14_other N2 (w.heap.size + 1) (by omega) (.int .i64 p'.c0) (.int .i64 p'.c1) (.int .i64 p'.c2) (.int .i64 p'.last) (.int .i64 q'.c0) (.int .i64 q'.c1) (.int .i64 q'.c2) (.int .i64 q'.last) (.int .i64 r'.c0) (.int .i64 r'.c1) (.int .i64 r'.c2) (.int .i64 r'.last) (.slice a' l'.length cap') (.int .i64 s')
  have Z3 := put14_blk Z2 (.int .i64 p'.c0) (.int .i64 p'.c1) (.int .i64 p'.c2) (.int .i64 p'.last) (.int .i64 q'.c0) (.int .i64 q'.c1) (.int .i64 q'.c2) (.int .i64 q'.last) (.int .i64 r'.c0) (.int .i64 r'.c1) (.int .i64 r'.c2) (.int .i64 r'.last) (.slice a' l'.length cap') (.int .i64 s')
  have E3 := put14_ext E2 (w.heap.size + 1) (by omega) (.int .i64 p'.c0) (.int .i64 p'.c1) (.int .i64 p'.c2) (.int .i64 p'.last) (.int .i64 q'.c0) (.int .i64 q'.c1) (.int .i64 q'.c2) (.int .i64 q'.last) (.int .i64 r'.c0) (.int .i64 r'.c1) (.int .i64 r'.c2) (.int .i64 r'.last) (.slice a' l'.length cap') (.int .i64 s')
  have G3 := put14_gr w2 (w.heap.size + 1) (.int .i64 p'.c0) (.int .i64 p'.c1) (.int .i64 p'.c2) (.int .i64 p'.last) (.int .i64 q'.c0) (.int .i64 q'.c1) (.int .i64 q'.c2) (.int .i64 q'.last) (.int .i64 r'.c0) (.int .i64 r'.c1) (.int .i64 r'.c2) (.int .i64 r'.last) (.slice a' l'.length cap') (.int .i64 s')
  clear hHeld z2 f2
  refine hK.out _ _ (KC.out _ M3.drew N3.drew) (fun hHeld => ?_)
  clear hK K
  refine exn 4 rfl fun K hK => ?_
  go_simp
  refine hK.out _ _ (KC.out _ M3.drew N3.drew) (fun hHeld => ?_)
  clear hK K
  refine exn 5 rfl fun K hK => ?_
  go_simp
  refine hK.out _ _ (KC.out _ M3.drew N3.drew) (fun hHeld => ?_)
  clear hK K hHeld
  refine wpAnyH_done (by kernel_rfl) ?_ _
  have z3 := Z3.drew.cell
  have HIn3 : Hid (LogIn (put14 w2 (w.heap.size + 1) (.int .i64 p'.c0) (.int .i64 p'.c1) (.int .i64 p'.c2) (.int .i64 p'.last) (.int .i64 q'.c0) (.int .i64 q'.c1) (.int .i64 q'.c2) (.int .i64 q'.last) (.int .i64 r'.c0) (.int .i64 r'.c1) (.int .i64 r'.c2) (.int .i64 r'.last) (.slice a' l'.length cap') (.int .i64 s')).drew a' l'.length cap' l') := ((HIn.out.ext e2).gr G3 (fun ad e e3 => by injection e3 with e3; have := HFr.out ad e; omega)).ext (Ext.refl _).drew
  clear KC M2 N2 Z2 E2 M3 N3 Z3 G3 e2 HIn
  go_wp2_with fail
  refine bodyPost_ret (v := .tuple #[.agg (wdCells p' q' r' (.slice a' l'.length cap') s'), .int .i64 (nn : Nat), .int .i64 0]) (by simp [results, Tryz.results74, go_sem, z3]) rfl ⟨?_, Or.inl ⟨HX.out, a', cap', rfl, ?_, fun ad e => by have := HFr.out ad e; omega⟩⟩
  ·exact E3.drew
  ·exact HIn3.out
 ·have N1 : Blk w1 (w.heap.size + 1 + 1) #[.int .i64 0] 3 := by rw [if_neg h0] at hfin; exact hfin
  have HX := (show Hid (xx ≠ 0) from h0)
  clear hfin h0
  have M2 := Blk.new w1 w1.heap.size (wdCells noPg noPg noPg (.slice none 0 0) 0) 38 rfl
  have e2 := (Ext.refl w1).alloc (.cells (wdCells noPg noPg noPg (.slice none 0 0) 0) 38)
  have N2 := N1.ext e2
  have Z2 := Z1.ext e2
  have E2 := E1.trans e2
  have hzm : w.heap.size + 1 ≠ w1.heap.size := by have := Z1.lt; omega
  go_wp2_with fail
  have KC : Hid (∀ W, Blk W w1.heap.size (wdCells noPg noPg noPg (.slice none 0 0) 0) 38 → Blk W (w.heap.size + 1 + 1) #[.int .i64 0] 3 → (∀ o, W.cell? ⟨w1.heap.size, o, none⟩ = (wdCells noPg noPg noPg (.slice none 0 0) 0)[o]?) ∧ (∀ o, W.cell? ⟨w.heap.size + 1 + 1, o, none⟩ = #[Value.int .i64 0][o]?)) := fun W x y => ⟨x.cell, y.cell⟩
  generalize w1.alloc (.cells (wdCells noPg noPg noPg (.slice none 0 0) 0) 38) = w2 at *
  refine wp_region_held_drew (S := fun W => (∀ o, W.cell? ⟨w1.heap.size, o, none⟩ = (wdCells noPg noPg noPg (.slice none 0 0) 0)[o]?) ∧ (∀ o, W.cell? ⟨w.heap.size + 1 + 1, o, none⟩ = #[Value.int .i64 0][o]?)) (by kernel_rfl) (KC.out _ M2.drew N2.drew) (fun hHeld => ?_)
  refine tkn 0 rfl hHeld ?_
  simp only [Act.put]
  refine tkn 1 rfl hHeld ?_
  simp only [Act.put]
  refine tkn 2 rfl hHeld ?_
  simp only [Act.put]
  have z2 := Z2.cell
  have f2 := Z2.fr
  refine exn 3 rfl fun K hK => ?_
  go_simp
  have M3 := put14_other M2 (w.heap.size + 1) (Ne.symm hzm) (.int .i64 0) (.int .i64 0) (.int .i64 0) (.int .i64 0) (.int .i64 0) (.int .i64 0) (.int .i64 0) (.int .i64 0) (.int .i64 0) (.int .i64 0) (.int .i64 0) (.int .i64 0) (.slice none 0 0) (.int .i64 0)
  have N3 := put14_other N2 (w.heap.size + 1) (by omega) (.int .i64 0) (.int .i64 0) (.int .i64 0) (.int .i64 0) (.int .i64 0) (.int .i64 0) (.int .i64 0) (.int .i64 0) (.int .i64 0) (.int .i64 0) (.int .i64 0) (.int .i64 0) (.slice none 0 0) (.int .i64 0)
  have Z3 := put14_blk Z2 (.int .i64 0) (.int .i64 0) (.int .i64 0) (.int .i64 0) (.int .i64 0) (.int .i64 0) (.int .i64 0) (.int .i64 0) (.int .i64 0) (.int .i64 0) (.int .i64 0) (.int .i64 0) (.slice none 0 0) (.int .i64 0)
  have E3 := put14_ext E2 (w.heap.size + 1) (by omega) (.int .i64 0) (.int .i64 0) (.int .i64 0) (.int .i64 0) (.int .i64 0) (.int .i64 0) (.int .i64 0) (.int .i64 0) (.int .i64 0) (.int .i64 0) (.int .i64 0) (.int .i64 0) (.slice none 0 0) (.int .i64 0)
  have G3 := put14_gr w2 (w.heap.size + 1) (.int .i64 0) (.int .i64 0) (.int .i64 0) (.int .i64 0) (.int .i64 0) (.int .i64 0) (.int .i64 0) (.int .i64 0) (.int .i64 0) (.int .i64 0) (.int .i64 0) (.int .i64 0) (.slice none 0 0) (.int .i64 0)
  clear hHeld z2 f2
  refine hK.out _ _ (KC.out _ M3.drew N3.drew) (fun hHeld => ?_)
  clear hK K
  refine exn 4 rfl fun K hK => ?_
  go_simp
  refine hK.out _ _ (KC.out _ M3.drew N3.drew) (fun hHeld => ?_)
  clear hK K
  refine exn 5 rfl fun K hK => ?_
  go_simp
  refine hK.out _ _ (KC.out _ M3.drew N3.drew) (fun hHeld => ?_)
  clear hK K hHeld
  refine wpAnyH_done (by kernel_rfl) ?_ _
  have z3 := Z3.drew.cell
  clear KC M2 N2 Z2 E2 M3 N3 Z3 G3 e2
  go_wp2_with fail
  refine bodyPost_ret (v := .tuple #[.agg (wdCells noPg noPg noPg (.slice none 0 0) 0), .int .i64 0, .int .i64 xx]) (by simp [results, Tryz.results74, go_sem, z3]) rfl ⟨?_, Or.inr ⟨HX.out, rfl⟩⟩
  exact E3.drew
theorem AllAns.all {base : Nat} {w' : World} {e : Ending} {p q r : Pg} {x : Int} {n : Nat} {l' : List Rc} {s : Int} (h : AllAns base w' e p q r x n l' s) :
  ∃ a cap, e = .returned (.tuple #[wdVal (ansP x p) (ansP x q) (ansP x r) (.slice a (ansL x l').length cap) (ansS x s), .int .i64 (ansS x (n : Nat)), .int .i64 x]) ∧ LogIn w' a (ansL x l').length cap (ansL x l') := by
 unfold ansP ansL ansS
 rcases h with ⟨rfl, a, cap, rfl, hin, _⟩ | ⟨hx, rfl⟩
 ·exact ⟨a, cap, rfl, hin⟩
 ·simp only [if_neg hx]
  exact ⟨none, 0, rfl, ⟨recs_none _, Nat.le_refl _, Nat.zero_le _, fun _ => rfl, fun ad e => by cases e⟩⟩
def NumsAt (w : World) (a : Option Addr) (len : Nat) (ns : List Int) : Prop := ns.length = len ∧ (∀ n ∈ ns, IntKind.i64.has n) ∧ (ns = [] ∨ ∃ b off, a = some ⟨b, off, none⟩ ∧ ∀ i, (h : i < ns.length) → w.cell? ⟨b, off + i, none⟩ = some (.int .i64 ns[i]))
theorem NumsAt.ext {w w' : World} {a : Option Addr} {len : Nat} {ns : List Int} (h : NumsAt w a len ns) (e : Ext w w') : NumsAt w' a len ns := by
 obtain ⟨h1, h2, h | ⟨b, off, ha, hc⟩⟩ := h
 ·exact ⟨h1, h2, Or.inl h⟩
 ·exact ⟨h1, h2, Or.inr ⟨b, off, ha, fun i hi => e.cell (hc i hi)⟩⟩
theorem NumsAt.at {w : World} {a : Option Addr} {len : Nat} {ns : List Int} (h : NumsAt w a len ns) {k : Nat} (hk : k < ns.length) : ∃ b off, a = some ⟨b, off, none⟩ ∧ w.cell? ⟨b, off + k, none⟩ = some (.int .i64 ns[k]) ∧ IntKind.i64.has ns[k] := by
 obtain ⟨_, h2, h | ⟨b, off, ha, hc⟩⟩ := h
 ·rw [h] at hk; exact absurd hk (Nat.not_lt_zero k)
 ·exact ⟨b, off, ha, hc k hk, h2 _ (List.getElem_mem hk)⟩
end Go.Proofs.YtibfgbmhmdggmaaGreatDoor.B
