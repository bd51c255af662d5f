/- The laws' some(): nine records. logBegun answers true. -/
import Derived.Test.YtlpodahldpaniaaGreatBookB
import Derived.Test.YtlpodahldpaniaaGreatRec3
import Derived.ArgAppend
import Derived.Laws.MakeOwn
import Derived.Test.YtlpodahldpaniaaGreatLine
namespace Go.Proofs.YtlpodahldpaniaaGreat.B
set_option maxRecDepth 100000
open Go.ChangeShapes Go.WideShapes Go.ChangeAt Go.RowKit

def someL : List Rc := [⟨1, 1, 0, 0, 0, 0, 5, 0⟩, ⟨1, 2, 0, 1, 1, 0, 6, 0⟩, ⟨1, 1, 1, 0, 1, 0, 7, 0⟩, ⟨2, 2, 2, 0, 0, 0, 0, 0⟩, ⟨4, 2, 4, 0, 0, 0, 0, 0⟩, ⟨3, 1, 3, 0, 1, 7, 0, 1⟩, ⟨3, 1, 6, 0, 0, 5, 0, 0⟩, ⟨4, 1, 7, 0, 0, 0, 0, 0⟩, ⟨1, 3, 0, 0, 0, 0, 8, 0⟩]
def someX : List Rc := [⟨1, 1, 0, 0, 0, 0, 5, 0⟩, ⟨1, 2, 0, 1, 1, 0, 6, 0⟩, ⟨1, 1, 1, 0, 1, 0, 7, 0⟩, ⟨2, 2, 2, 0, 0, 0, 0, 0⟩, ⟨4, 2, 4, 0, 0, 0, 0, 0⟩, ⟨3, 1, 3, 0, 1, 7, 0, 1⟩, ⟨3, 1, 6, 0, 0, 5, 0, 0⟩, ⟨4, 1, 7, 0, 0, 0, 0, 0⟩, ⟨1, 3, 0, 0, 0, 5, 8, 0⟩]
def someY : List Rc := [⟨1, 1, 0, 0, 0, 0, 5, 0⟩, ⟨1, 2, 0, 1, 1, 0, 6, 0⟩, ⟨1, 1, 1, 0, 1, 0, 7, 0⟩, ⟨2, 2, 2, 0, 0, 0, 0, 0⟩, ⟨4, 2, 4, 0, 0, 0, 0, 0⟩, ⟨3, 1, 3, 0, 1, 7, 0, 0⟩, ⟨3, 1, 6, 0, 0, 5, 0, 0⟩, ⟨4, 1, 7, 0, 0, 0, 0, 0⟩, ⟨1, 3, 0, 0, 0, 0, 8, 0⟩]
def someZ : List Rc := [⟨1, 1, 0, 0, 0, 0, 5, 0⟩, ⟨1, 2, 0, 1, 1, 0, 6, 0⟩, ⟨1, 2, 2, 0, 0, 5, 6, 0⟩]
theorem some_err : logErr someL = 0 := by decide +kernel
theorem some7_err : logErr (someL.take 7) = 0 := by decide +kernel
theorem some4_err : logErr (someL.take 4) = 0 := by decide +kernel
theorem someX_err : logErr someX = 1 := by decide +kernel
theorem someY_err : logErr someY = 1 := by decide +kernel
theorem someZ_err : logErr someZ = 1 := by decide +kernel
theorem some_1 : stateAns someL 1 = (4, 8, 0) := by decide +kernel
theorem some_3 : stateAns someL 3 = (1, 9, 0) := by decide +kernel
theorem some_10 : stateAns someL 10 = (0, 0, 3) := by decide +kernel
theorem some_7 : stateAns (someL.take 7) 1 = (3, 7, 0) := by decide +kernel
theorem some_4 : stateAns (someL.take 4) 2 = (2, 4, 0) := by decide +kernel
theorem some_pages : pagesOrNone someL = [8, 0, 0, 9, 0, 6, 0, 2, 0, 0, 0, 0] := by decide +kernel
theorem recs_blk {w : World} {b : Nat} {t : TypeId} {l : List Rc} (h : Blk w b (flat l).toArray t) : Recs w (some ⟨b, 0, none⟩) l.length l := by
  refine ⟨rfl, Or.inr ⟨b, 0, rfl, fun i hi => ?_⟩⟩
  have := own_rec (m := (flat l).length) h (by simp) i hi
  rw [Nat.zero_add]
  exact this
set_option maxHeartbeats 2000000 in
set_option maxRecDepth 100000 in
theorem some_any (w : World) :
    Calls Tryz.prog 46 #[] w fun e w' => ∃ b, e = .returned (.slice (some ⟨b, 0, none⟩) 9 9) ∧ Ext w w' ∧ w.heap.size ≤ b ∧ Blk w' b (flat someL).toArray 65 := by
  go_enter Tryz.func46, Tryz.ntmps46
  have E0 := Ext.refl w
  go_wp2_with fail
  refine (wr_any 1 0 0 0 0 5 _).mono ?_
  rintro e w1 ⟨rfl, hw⟩
  have E1 := E0.trans hw
  clear E0 hw
  go_wp2_with fail
  refine (wr_any 2 0 1 1 0 6 _).mono ?_
  rintro e w2 ⟨rfl, hw⟩
  have E2 := E1.trans hw
  clear E1 hw
  go_wp2_with fail
  refine (wr_any 1 1 0 1 0 7 _).mono ?_
  rintro e w3 ⟨rfl, hw⟩
  have E3 := E2.trans hw
  clear E2 hw
  go_wp2_with fail
  refine (cm_any 2 2 _).mono ?_
  rintro e w4 ⟨rfl, hw⟩
  have E4 := E3.trans hw
  clear E3 hw
  go_wp2_with fail
  refine (en_any 2 4 _).mono ?_
  rintro e w5 ⟨rfl, hw⟩
  have E5 := E4.trans hw
  clear E4 hw
  go_wp2_with fail
  refine (bk_any 1 3 0 1 7 0 1 _).mono ?_
  rintro e w6 ⟨rfl, hw⟩
  have E6 := E5.trans hw
  clear E5 hw
  go_wp2_with fail
  refine (bk_any 1 6 0 0 5 0 0 _).mono ?_
  rintro e w7 ⟨rfl, hw⟩
  have E7 := E6.trans hw
  clear E6 hw
  go_wp2_with fail
  refine (en_any 1 7 _).mono ?_
  rintro e w8 ⟨rfl, hw⟩
  have E8 := E7.trans hw
  clear E7 hw
  go_wp2_with fail
  refine (wr_any 3 0 0 0 0 8 _).mono ?_
  rintro e w9 ⟨rfl, hw⟩
  have E9 := E8.trans hw
  clear E8 hw
  go_wp2_with fail
  go_ret
  exact ⟨_, rfl, E9.alloc _, E9.size, Blk.new _ _ _ _ rfl⟩
set_option maxHeartbeats 2000000 in
set_option maxRecDepth 100000 in
theorem logCheck_many (a : Option Addr) (len cap : Nat) (w : World) (hl : 60 < len) (hm : len ≤ maxLen) :
    Calls Tryz.prog 50 #[.slice a len cap] w fun e w' => e = .returned (.int .i64 2) ∧ Ext w w' := by
  have H := read_many a len cap w hl hm
  go_enter Tryz.func50, Tryz.ntmps50
  go_wp2_with fail
  refine H.mono ?_
  rintro e w1 ⟨rfl, hE⟩
  go_wp2_with fail
  go_ret
  exact ⟨rfl, hE⟩
def someZ9 : List Rc := [⟨1, 1, 0, 0, 0, 0, 5, 0⟩, ⟨1, 2, 0, 1, 1, 0, 6, 0⟩, ⟨1, 2, 2, 0, 0, 5, 6, 0⟩, ⟨2, 2, 2, 0, 0, 0, 0, 0⟩, ⟨4, 2, 4, 0, 0, 0, 0, 0⟩, ⟨3, 1, 3, 0, 1, 7, 0, 1⟩, ⟨3, 1, 6, 0, 0, 5, 0, 0⟩, ⟨4, 1, 7, 0, 0, 0, 0, 0⟩, ⟨1, 3, 0, 0, 0, 0, 8, 0⟩]
theorem underRecs : Tryz.prog.underlying 26 = some (.slice 65) := by kernel_rfl
/-- One record behind two, where there is room. -/
theorem append_z {V : World} {b c : Nat} (B : Blk V b (flat someL).toArray 65) (C : Blk V c (Rc.mk 1 2 2 0 0 5 6 0).cs 65) (ty : TypeId) : ∃ V', (Builtin.append_ #[26, 26] ty #[.slice (some ⟨b, 0, none⟩) 2 9, .slice (some ⟨c, 0, none⟩) 1 1]).run Tryz.prog V = .ok (.slice (some ⟨b, 0, none⟩) 3 9) V' ∧
    Blk V' b (flat someZ9).toArray 65 ∧ ∀ W, Ext W V → W.heap.size ≤ b → Ext W V' := by
  obtain ⟨i0, hi, hz0, hz1, hz2⟩ := info_parts infoRec
  have h := run_append_room_cells (P := Tryz.prog) V 26 ty 65 i0 underRecs hi b 0 2 9 ⟨c, 0, none⟩ 1 1 (Rc.mk 1 2 2 0 0 5 6 0).cs.toList (by rw [hz1]; rfl)
    (fun j u hj => by
      rw [Addr.add_lit, Nat.zero_add, C.cell]
      rw [← hj]
      exact Array.getElem?_toList.symm) (cs_oneCell _) (by decide)
    (fun j hj => by
      rw [hz1, B.cell]
      have : j < 8 := hj
      match j, this with
      | 0, _ => rfl | 1, _ => rfl | 2, _ => rfl | 3, _ => rfl | 4, _ => rfl | 5, _ => rfl | 6, _ => rfl | 7, _ => rfl)
    (fun j hj => B.fr _)
  rw [hz1] at h
  refine ⟨_, h, ?_, fun W e hb => ?_⟩
  · have := (((((((B.set 16 (.int .i64 1)).set 17 (.int .i64 2)).set 18 (.int .i64 2)).set 19 (.int .i64 0)).set 20 (.int .i64 0)).set 21 (.int .i64 5)).set 22 (.int .i64 6)).set 23 (.int .i64 0)
    exact this
  · exact (((((((e.setCell (p := ⟨b, 16, none⟩) hb (.int .i64 1)).setCell (p := ⟨b, 17, none⟩) hb (.int .i64 2)).setCell (p := ⟨b, 18, none⟩) hb (.int .i64 2)).setCell (p := ⟨b, 19, none⟩) hb (.int .i64 0)).setCell (p := ⟨b, 20, none⟩) hb (.int .i64 0)).setCell (p := ⟨b, 21, none⟩) hb (.int .i64 5)).setCell (p := ⟨b, 22, none⟩) hb (.int .i64 6)).setCell (p := ⟨b, 23, none⟩) hb (.int .i64 0)
/-- Sixty-one records of noughts. -/
theorem make61 (V : World) : ∃ o, (Instr.makeSlice 26 (.int .i64 61) (.int .i64 61)).run Tryz.prog V = .ok (.slice (some ⟨V.heap.size, 0, none⟩) 61 61) (V.alloc o) := by
  obtain ⟨i0, hi, hz0, hz1, hz2⟩ := info_parts infoRec
  exact ⟨_, run_makeSlice (P := Tryz.prog) V 26 65 i0 _ underRecs hi hz0 .i64 .i64 61 61 (by decide) (by decide) (by rw [hz1]; decide) (by rw [hz2]; decide) (by decide)⟩
end Go.Proofs.YtlpodahldpaniaaGreat.B
namespace Go.Proofs.YtlpodahldpaniaaGreat.B
set_option maxRecDepth 100000
open Go.ChangeShapes Go.WideShapes Go.ChangeAt Go.RowKit

end Go.Proofs.YtlpodahldpaniaaGreat.B
