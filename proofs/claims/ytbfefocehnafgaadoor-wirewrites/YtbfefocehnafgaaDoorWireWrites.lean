/- WireWrites holds: Write and Read answer just what the document says, errors too. -/
import Derived.Test.YtbfefocehnafgaaDoorWireL
import Derived.Test.YtbfefocehnafgaaDoorWireE
namespace Go.Proofs.YtbfefocehnafgaaDoor.B
set_option maxRecDepth 100000
open Go.ChangeShapes Go.WideShapes Go.ChangeAt Go.RowKit

theorem run_txt_eq2 (s : List UInt8) (w : World) : (binOp .eql 9 (txt s) (txt s)).run Tryd.prog w = .ok (.bool true) w := by
  unfold binOp
  simp [Op.stringOp]
theorem from_len (s : List UInt8) : ((fromR s).getD noWd).l.length ≤ 60 := by
  cases hf : fromR s with
  | none => exact Nat.zero_le _
  | some v => exact right_len _ (logErr_zero (worldErr_zero (from_some hf).1).1).2
set_option maxHeartbeats 8000000 in
theorem wireWrites_okm (w : World) (p q r : Pg) (a : Option Addr) (len cap : Nat) (l : List Rc) (safe : Int) (h : LogIn w a len cap l) (s : List UInt8) (hs : s.length ≤ maxLen) (hE : Early w) (hx : worldErr p q r l safe = 0) (hm : 4096 < s.length) :
    Calls Tryd.prog 3 #[wdVal p q r (.slice a len cap) safe, txt s] w fun e w' => e = .returned (.bool true) ∧ Ext w w' := by
  have HS := (show Hid (s.length ≤ maxLen) from hs)
  have hll := h.recs.len
  have H1 := fun W (e : Ext w W) => wireWrite_any p q r a len cap l safe W (h.ext e)
  have H2 := fun W (e : Ext w W) => worldError_any p q r a len cap l safe W (h.ext e).recs h.le h.max
  have H3 := fun W (e : Early W) => wireRead_any s W hs e
  have H60 : len ≤ 60 := by have := right_len _ (logErr_zero (worldErr_zero hx).1).2; omega
  have HB := fun W (e : Ext w W) => worldBytes_any p q r a len cap l safe W (h.ext e).recs H60
  rw [if_pos hx] at H1
  have hx3 : readX s = 2 := by unfold readX; rw [if_pos hm]
  have hv3 : readV s = noWd := by unfold readV; rw [if_pos hm]
  rw [hx3, hv3] at H3
  unfold RdW at H3
  dsimp only [noWd, List.length_nil] at H3
  have hmi : (4096 : Int) < (s.length : Int) := by omega
  clear hx3 hv3 hm
  clear hs
  generalize worldErr p q r l safe = x1 at *
  have E0 := (Ext.refl w).alloc (.cells (wdCells p q r (.slice a len cap) safe) 28)
  have B0 := Blk.new w w.heap.size (wdCells p q r (.slice a len cap) safe) 28 rfl
  have b0 := B0.cell
  subst hx
  generalize wdBytes ⟨p, q, r, l, safe⟩ = bs at *
  go_enter Tryd.func3, Tryd.ntmps3
  go_wp2_with fail
  refine (H1 _ E0).mono ?_
  rintro e w1 ⟨rfl, hw⟩
  have E1 := E0.trans hw
  have B1 := B0.ext hw
  clear hw b0 B0 E0 H1
  have b1 := B1.cell
  go_wp2_with fail
  refine (H2 _ E1).mono ?_
  rintro e w2 ⟨rfl, hw⟩
  have E2 := E1.trans hw
  have B2 := B1.ext hw
  clear hw b1 B1 E1 H2
  have b2 := B2.cell
  have hst := run_txt_eq2 bs
  go_wp2_with fail
  refine (HB _ E2).mono ?_
  rintro e w3 ⟨rfl, hw⟩
  have E3 := E2.trans hw
  clear hw b2 B2 E2 HB
  go_wp2_with fail
  refine (H3 _ (hE.ext E3)).mono ?_
  rintro e w4 ⟨hw, a4, cap4, rfl, L4⟩
  have o4 := (Ext.refl w4).alloc (.cells (wdCells zPg zPg zPg (.slice a4 0 cap4) 0) 28)
  have X4 := Blk.new w4 w4.heap.size (wdCells zPg zPg zPg (.slice a4 0 cap4) 0) 28 rfl
  have E4 := (E3.trans hw).trans o4
  have R4 := L4.ext o4
  clear hw o4 E3 L4 H3
  have x4 := X4.cell
  have hlm := HS.out
  unfold maxLen at hlm
  go_wp2_with fail
  refine (wireBegun_any _ (hE.ext E4)).mono ?_
  rintro e w5 ⟨rfl, hw⟩
  have E5 := E4.trans hw
  have R5 := R4.ext hw
  have x5 := (X4.ext hw).cell
  clear hw E4 R4 X4 x4
  generalize w4.heap.size = bx at *
  go_wp2_with fail
  refine (sameWorlds_eq zPg zPg zPg 0 a4 none 0 cap4 0 [] _ R5.recs (recs_none _) (by decide)).mono ?_
  rintro e w6 ⟨rfl, hw⟩
  go_wp2_with fail
  go_ret
  exact ⟨by first | rfl | simp, E5.trans hw⟩
set_option maxHeartbeats 8000000 in
theorem wireWrites_okf (w : World) (p q r : Pg) (a : Option Addr) (len cap : Nat) (l : List Rc) (safe : Int) (h : LogIn w a len cap l) (s : List UInt8) (hs : s.length ≤ maxLen) (hE : Early w) (hx : worldErr p q r l safe = 0) (hm : ¬ 4096 < s.length) :
    Calls Tryd.prog 3 #[wdVal p q r (.slice a len cap) safe, txt s] w fun e w' => e = .returned (.bool true) ∧ Ext w w' := by
  have HS := (show Hid (s.length ≤ maxLen) from hs)
  have hll := h.recs.len
  have H1 := fun W (e : Ext w W) => wireWrite_any p q r a len cap l safe W (h.ext e)
  have H2 := fun W (e : Ext w W) => worldError_any p q r a len cap l safe W (h.ext e).recs h.le h.max
  have H3 := fun W (e : Early W) => wireRead_any s W hs e
  have H60 : len ≤ 60 := by have := right_len _ (logErr_zero (worldErr_zero hx).1).2; omega
  have HB := fun W (e : Ext w W) => worldBytes_any p q r a len cap l safe W (h.ext e).recs H60
  rw [if_pos hx] at H1
  have hx3 : readX s = if (fromR s).isSome then 0 else 1 := by unfold readX; rw [if_neg hm]
  have hv3 : readV s = (fromR s).getD noWd := by unfold readV; rw [if_neg hm]
  rw [hx3, hv3] at H3
  unfold RdW at H3
  have H7 := fun W => worldFrom_any s W (by omega)
  have HL := (show Hid (((fromR s).getD noWd).l.length ≤ 60) from from_len s)
  have hmi : ¬ (4096 : Int) < (s.length : Int) := by omega
  clear hx3 hv3 hm
  generalize (fromR s).getD noWd = V at *
  generalize (fromR s).isSome = B at *
  generalize hx3 : (if B = true then (0 : Int) else 1) = x3 at *
  have HX3 := (show Hid ((if B = true then (0 : Int) else 1) = x3) from hx3)
  clear hx3
  obtain ⟨p2, q2, r2, m, s2⟩ := V
  dsimp only at H3 H7 HL
  clear hs
  generalize worldErr p q r l safe = x1 at *
  have E0 := (Ext.refl w).alloc (.cells (wdCells p q r (.slice a len cap) safe) 28)
  have B0 := Blk.new w w.heap.size (wdCells p q r (.slice a len cap) safe) 28 rfl
  have b0 := B0.cell
  subst hx
  generalize wdBytes ⟨p, q, r, l, safe⟩ = bs at *
  go_enter Tryd.func3, Tryd.ntmps3
  go_wp2_with fail
  refine (H1 _ E0).mono ?_
  rintro e w1 ⟨rfl, hw⟩
  have E1 := E0.trans hw
  have B1 := B0.ext hw
  clear hw b0 B0 E0 H1
  have b1 := B1.cell
  go_wp2_with fail
  refine (H2 _ E1).mono ?_
  rintro e w2 ⟨rfl, hw⟩
  have E2 := E1.trans hw
  have B2 := B1.ext hw
  clear hw b1 B1 E1 H2
  have b2 := B2.cell
  have hst := run_txt_eq2 bs
  go_wp2_with fail
  refine (HB _ E2).mono ?_
  rintro e w3 ⟨rfl, hw⟩
  have E3 := E2.trans hw
  clear hw b2 B2 E2 HB
  go_wp2_with fail
  refine (H3 _ (hE.ext E3)).mono ?_
  rintro e w4 ⟨hw, a4, cap4, rfl, L4⟩
  have o4 := (Ext.refl w4).alloc (.cells (wdCells p2 q2 r2 (.slice a4 m.length cap4) s2) 28)
  have X4 := Blk.new w4 w4.heap.size (wdCells p2 q2 r2 (.slice a4 m.length cap4) s2) 28 rfl
  have E4 := (E3.trans hw).trans o4
  have R4 := L4.ext o4
  clear hw o4 E3 L4 H3
  have hlm := HS.out
  unfold maxLen at hlm
  go_wp2_with fail
  refine (H7 _).mono ?_
  rintro e w5 ⟨hw, a5, cap5, rfl, L5⟩
  have o5 := (Ext.refl w5).alloc (.cells (wdCells p2 q2 r2 (.slice a5 m.length cap5) s2) 28)
  have Y5 := Blk.new w5 w5.heap.size (wdCells p2 q2 r2 (.slice a5 m.length cap5) s2) 28 rfl
  have E5 := (E4.trans hw).trans o5
  have R5 := (R4.ext hw).ext o5
  have S5 := L5.ext o5
  have X5 := (X4.ext hw).ext o5
  clear hw o5 E4 L5 H7 R4 X4
  generalize w4.heap.size = bx at *
  have h60 := HL.out
  cases B with
  | true =>
    have hx3 : x3 = 0 := HX3.out.symm
    clear HX3
    subst hx3
    go_wp2_with fail
    refine (wireBegun_any _ (hE.ext E5)).mono ?_
    rintro e w6 ⟨rfl, hw⟩
    have E6 := E5.trans hw
    have R6 := R5.ext hw
    have S6 := S5.ext hw
    have x6 := (X5.ext hw).cell
    have y6 := (Y5.ext hw).cell
    clear hw E5 R5 S5 X5 Y5
    generalize w5.heap.size = bz at *
    go_wp2_with fail
    refine (sameWorlds_eq p2 q2 r2 s2 a4 a5 m.length cap4 cap5 m _ R6.recs S6.recs (by omega)).mono ?_
    rintro e w7 ⟨rfl, hw⟩
    go_wp2_with fail
    go_ret
    exact ⟨by first | rfl | simp, E6.trans hw⟩
  | false =>
    have hx3 : x3 = 1 := HX3.out.symm
    clear HX3
    subst hx3
    go_wp2_with fail
    refine (wireBegun_any _ (hE.ext E5)).mono ?_
    rintro e w6 ⟨rfl, hw⟩
    have E6 := E5.trans hw
    have R6 := R5.ext hw
    have S6 := S5.ext hw
    have x6 := (X5.ext hw).cell
    have y6 := (Y5.ext hw).cell
    clear hw E5 R5 S5 X5 Y5
    generalize w5.heap.size = bz at *
    go_wp2_with fail
    refine (sameWorlds_eq p2 q2 r2 s2 a4 a5 m.length cap4 cap5 m _ R6.recs S6.recs (by omega)).mono ?_
    rintro e w7 ⟨rfl, hw⟩
    go_wp2_with fail
    go_ret
    exact ⟨by first | rfl | simp, E6.trans hw⟩
set_option maxHeartbeats 8000000 in
theorem wireWrites_nom (w : World) (p q r : Pg) (a : Option Addr) (len cap : Nat) (l : List Rc) (safe : Int) (h : LogIn w a len cap l) (s : List UInt8) (hs : s.length ≤ maxLen) (hE : Early w) (hx : worldErr p q r l safe ≠ 0) (hm : 4096 < s.length) :
    Calls Tryd.prog 3 #[wdVal p q r (.slice a len cap) safe, txt s] w fun e w' => e = .returned (.bool true) ∧ Ext w w' := by
  have HS := (show Hid (s.length ≤ maxLen) from hs)
  have hll := h.recs.len
  have H1 := fun W (e : Ext w W) => wireWrite_any p q r a len cap l safe W (h.ext e)
  have H2 := fun W (e : Ext w W) => worldError_any p q r a len cap l safe W (h.ext e).recs h.le h.max
  have H3 := fun W (e : Early W) => wireRead_any s W hs e
  rw [if_neg hx] at H1
  have hx3 : readX s = 2 := by unfold readX; rw [if_pos hm]
  have hv3 : readV s = noWd := by unfold readV; rw [if_pos hm]
  rw [hx3, hv3] at H3
  unfold RdW at H3
  dsimp only [noWd, List.length_nil] at H3
  have hmi : (4096 : Int) < (s.length : Int) := by omega
  clear hx3 hv3 hm
  clear hs
  generalize worldErr p q r l safe = x1 at *
  have E0 := (Ext.refl w).alloc (.cells (wdCells p q r (.slice a len cap) safe) 28)
  have B0 := Blk.new w w.heap.size (wdCells p q r (.slice a len cap) safe) 28 rfl
  have b0 := B0.cell
  have hb1 : (x1 == 0) = false := by simp [hx]
  clear hx
  go_enter Tryd.func3, Tryd.ntmps3
  go_wp2_with fail
  refine (H1 _ E0).mono ?_
  rintro e w1 ⟨rfl, hw⟩
  have E1 := E0.trans hw
  have B1 := B0.ext hw
  clear hw b0 B0 E0 H1
  have b1 := B1.cell
  go_wp2_with fail
  refine (H2 _ E1).mono ?_
  rintro e w2 ⟨rfl, hw⟩
  have E2 := E1.trans hw
  have B2 := B1.ext hw
  clear hw b1 B1 E1 H2
  have E3 := E2
  have hst := run_txt_eq2 []
  clear E2 B2
  go_wp2_with fail
  refine (H3 _ (hE.ext E3)).mono ?_
  rintro e w4 ⟨hw, a4, cap4, rfl, L4⟩
  have o4 := (Ext.refl w4).alloc (.cells (wdCells zPg zPg zPg (.slice a4 0 cap4) 0) 28)
  have X4 := Blk.new w4 w4.heap.size (wdCells zPg zPg zPg (.slice a4 0 cap4) 0) 28 rfl
  have E4 := (E3.trans hw).trans o4
  have R4 := L4.ext o4
  clear hw o4 E3 L4 H3
  have x4 := X4.cell
  have hlm := HS.out
  unfold maxLen at hlm
  go_wp2_with fail
  refine (wireBegun_any _ (hE.ext E4)).mono ?_
  rintro e w5 ⟨rfl, hw⟩
  have E5 := E4.trans hw
  have R5 := R4.ext hw
  have x5 := (X4.ext hw).cell
  clear hw E4 R4 X4 x4
  generalize w4.heap.size = bx at *
  have hb2 : (x1 == x1) = true := by simp
  go_wp2_with fail
  refine (sameWorlds_eq zPg zPg zPg 0 a4 none 0 cap4 0 [] _ R5.recs (recs_none _) (by decide)).mono ?_
  rintro e w6 ⟨rfl, hw⟩
  go_wp2_with fail
  go_ret
  exact ⟨by first | rfl | simp, E5.trans hw⟩
set_option maxHeartbeats 8000000 in
theorem wireWrites_nof (w : World) (p q r : Pg) (a : Option Addr) (len cap : Nat) (l : List Rc) (safe : Int) (h : LogIn w a len cap l) (s : List UInt8) (hs : s.length ≤ maxLen) (hE : Early w) (hx : worldErr p q r l safe ≠ 0) (hm : ¬ 4096 < s.length) :
    Calls Tryd.prog 3 #[wdVal p q r (.slice a len cap) safe, txt s] w fun e w' => e = .returned (.bool true) ∧ Ext w w' := by
  have HS := (show Hid (s.length ≤ maxLen) from hs)
  have hll := h.recs.len
  have H1 := fun W (e : Ext w W) => wireWrite_any p q r a len cap l safe W (h.ext e)
  have H2 := fun W (e : Ext w W) => worldError_any p q r a len cap l safe W (h.ext e).recs h.le h.max
  have H3 := fun W (e : Early W) => wireRead_any s W hs e
  rw [if_neg hx] at H1
  have hx3 : readX s = if (fromR s).isSome then 0 else 1 := by unfold readX; rw [if_neg hm]
  have hv3 : readV s = (fromR s).getD noWd := by unfold readV; rw [if_neg hm]
  rw [hx3, hv3] at H3
  unfold RdW at H3
  have H7 := fun W => worldFrom_any s W (by omega)
  have HL := (show Hid (((fromR s).getD noWd).l.length ≤ 60) from from_len s)
  have hmi : ¬ (4096 : Int) < (s.length : Int) := by omega
  clear hx3 hv3 hm
  generalize (fromR s).getD noWd = V at *
  generalize (fromR s).isSome = B at *
  generalize hx3 : (if B = true then (0 : Int) else 1) = x3 at *
  have HX3 := (show Hid ((if B = true then (0 : Int) else 1) = x3) from hx3)
  clear hx3
  obtain ⟨p2, q2, r2, m, s2⟩ := V
  dsimp only at H3 H7 HL
  clear hs
  generalize worldErr p q r l safe = x1 at *
  have E0 := (Ext.refl w).alloc (.cells (wdCells p q r (.slice a len cap) safe) 28)
  have B0 := Blk.new w w.heap.size (wdCells p q r (.slice a len cap) safe) 28 rfl
  have b0 := B0.cell
  have hb1 : (x1 == 0) = false := by simp [hx]
  clear hx
  go_enter Tryd.func3, Tryd.ntmps3
  go_wp2_with fail
  refine (H1 _ E0).mono ?_
  rintro e w1 ⟨rfl, hw⟩
  have E1 := E0.trans hw
  have B1 := B0.ext hw
  clear hw b0 B0 E0 H1
  have b1 := B1.cell
  go_wp2_with fail
  refine (H2 _ E1).mono ?_
  rintro e w2 ⟨rfl, hw⟩
  have E2 := E1.trans hw
  have B2 := B1.ext hw
  clear hw b1 B1 E1 H2
  have E3 := E2
  have hst := run_txt_eq2 []
  clear E2 B2
  go_wp2_with fail
  refine (H3 _ (hE.ext E3)).mono ?_
  rintro e w4 ⟨hw, a4, cap4, rfl, L4⟩
  have o4 := (Ext.refl w4).alloc (.cells (wdCells p2 q2 r2 (.slice a4 m.length cap4) s2) 28)
  have X4 := Blk.new w4 w4.heap.size (wdCells p2 q2 r2 (.slice a4 m.length cap4) s2) 28 rfl
  have E4 := (E3.trans hw).trans o4
  have R4 := L4.ext o4
  clear hw o4 E3 L4 H3
  have hlm := HS.out
  unfold maxLen at hlm
  go_wp2_with fail
  refine (H7 _).mono ?_
  rintro e w5 ⟨hw, a5, cap5, rfl, L5⟩
  have o5 := (Ext.refl w5).alloc (.cells (wdCells p2 q2 r2 (.slice a5 m.length cap5) s2) 28)
  have Y5 := Blk.new w5 w5.heap.size (wdCells p2 q2 r2 (.slice a5 m.length cap5) s2) 28 rfl
  have E5 := (E4.trans hw).trans o5
  have R5 := (R4.ext hw).ext o5
  have S5 := L5.ext o5
  have X5 := (X4.ext hw).ext o5
  clear hw o5 E4 L5 H7 R4 X4
  generalize w4.heap.size = bx at *
  have h60 := HL.out
  cases B with
  | true =>
    have hx3 : x3 = 0 := HX3.out.symm
    clear HX3
    subst hx3
    go_wp2_with fail
    refine (wireBegun_any _ (hE.ext E5)).mono ?_
    rintro e w6 ⟨rfl, hw⟩
    have E6 := E5.trans hw
    have R6 := R5.ext hw
    have S6 := S5.ext hw
    have x6 := (X5.ext hw).cell
    have y6 := (Y5.ext hw).cell
    clear hw E5 R5 S5 X5 Y5
    generalize w5.heap.size = bz at *
    have hb2 : (x1 == x1) = true := by simp
    go_wp2_with fail
    refine (sameWorlds_eq p2 q2 r2 s2 a4 a5 m.length cap4 cap5 m _ R6.recs S6.recs (by omega)).mono ?_
    rintro e w7 ⟨rfl, hw⟩
    go_wp2_with fail
    go_ret
    exact ⟨by first | rfl | simp, E6.trans hw⟩
  | false =>
    have hx3 : x3 = 1 := HX3.out.symm
    clear HX3
    subst hx3
    go_wp2_with fail
    refine (wireBegun_any _ (hE.ext E5)).mono ?_
    rintro e w6 ⟨rfl, hw⟩
    have E6 := E5.trans hw
    have R6 := R5.ext hw
    have S6 := S5.ext hw
    have x6 := (X5.ext hw).cell
    have y6 := (Y5.ext hw).cell
    clear hw E5 R5 S5 X5 Y5
    generalize w5.heap.size = bz at *
    have hb2 : (x1 == x1) = true := by simp
    go_wp2_with fail
    refine (sameWorlds_eq p2 q2 r2 s2 a4 a5 m.length cap4 cap5 m _ R6.recs S6.recs (by omega)).mono ?_
    rintro e w7 ⟨rfl, hw⟩
    go_wp2_with fail
    go_ret
    exact ⟨by first | rfl | simp, E6.trans hw⟩
theorem wireWrites_go (w : World) (p q r : Pg) (a : Option Addr) (len cap : Nat) (l : List Rc) (safe : Int) (h : LogIn w a len cap l) (s : List UInt8) (hs : s.length ≤ maxLen) (hE : Early w) :
    Calls Tryd.prog 3 #[wdVal p q r (.slice a len cap) safe, txt s] w fun e w' => e = .returned (.bool true) ∧ Ext w w' := by
  by_cases hx : worldErr p q r l safe = 0 <;> by_cases hm : 4096 < s.length
  · exact wireWrites_okm w p q r a len cap l safe h s hs hE hx hm
  · exact wireWrites_okf w p q r a len cap l safe h s hs hE hx hm
  · exact wireWrites_nom w p q r a len cap l safe h s hs hE hx hm
  · exact wireWrites_nof w p q r a len cap l safe h s hs hE hx hm

set_option maxRecDepth 100000 in
theorem wireWrites_lifted (os : Os) (started : os.Started) (H : Type) (enc : TypeId × Value → H) :
    ReturnsInHanded {} Tryd.checked os 3 .any (fun w args => (Rows.wireWritesSpec.pre enc Tryd.prog Tryd.f3 Rows.wireWritesRow.domain false w args ∧ laidMet Tryd.prog Rows.wireWritesRow.laid w) ∧ sizedMet enc Tryd.prog Tryd.f3 (OpenSpec.ofChange Rows.wireWritesSpec) false w args) (Rows.wireWritesSpec.post enc Tryd.prog Tryd.f3 false true false false) := by
  refine returnsInHanded_of_change_and (C := Tryd.checked) (X := (fun w _ => laidMet Tryd.prog Rows.wireWritesRow.laid w)) (fun _ _ _ hh h => h.of_heap hh) own started (by kernel_rfl) Tryd.func3
    (ChangeSpec.witness_at (enc := enc) (C := Tryd.checked) (os := os) (X := (fun w _ => laidMet Tryd.prog Rows.wireWritesRow.laid w)) false (let w0 := World.holding Tryd.prog os ⟨#[.cells #[.string ⟨early.toArray⟩] 130], #[], []⟩; { w0 with heap := w0.heap.modify 0 fun | .cells _ t frozen => .cells #[.iface 112 (.pointer (some ⟨(World.holding Tryd.prog default ⟨#[], #[], []⟩).heap.size, 0, none⟩))] t frozen | o => o }) #[.agg #[.int .i64 0, .int .i64 0, .int .i64 0, .int .i64 0, .int .i64 0, .int .i64 0, .int .i64 0, .int .i64 0, .int .i64 0, .int .i64 0, .int .i64 0, .int .i64 0, .slice none 0 0, .int .i64 0], .string ⟨#[]⟩] 8 rfl (by kernel_rfl) (by kernel_rfl) (by kernel_rfl) (by kernel_rfl) (by kernel_rfl)
      (laidMet_of_run (ps := [.cell 0 0, .cell (World.holding Tryd.prog default ⟨#[], #[], []⟩).heap.size 0]) 8 (by kernel_rfl) (by kernel_rfl) (by kernel_rfl))) ?_
  intro W base args ds gs before hval0 hW _ _ hL _
  have hval : ∀ (j : Nat) t v, Tryd.f3.params[j]? = some t → args[j]? = some v → Value.okWide Tryd.prog W .any base t v := hval0
  have hW' := hW
  obtain ⟨p, q, hA0, hV, rfl, hfz, hnd⟩ := hW
  have hA : DataW.TrodAll enc Tryd.prog W 0 (fun _ => true) true Tryd.f3.params.toList args.toList ds p := hA0
  rw [Tryd.params3] at hA hval
  obtain ⟨v0, vs0, d0, ds0, p0, q0, hargs, rfl, rfl, h0, r0⟩ := trodAll_cons hA
  obtain ⟨v1, vs1, d1, ds1, p1, q1, rfl, rfl, rfl, h1, r1⟩ := trodAll_cons r0
  obtain ⟨rfl, rfl, rfl⟩ := trodAll_nil r1
  obtain rfl : args = #[v0, v1] := by cases args; simp_all
  obtain ⟨rfl, rfl⟩ := trodVars_none hV
  obtain ⟨P0, Q0, R0, x0, len0, cap0, l0, safe0, rfl, s0⟩ := open_wd (hval 0 28 v0 rfl rfl) h0
  obtain ⟨S1, rfl, rfl, rfl, z1⟩ := Go.ChangeMaps.open_string Tryd.underlying9 (hval 1 9 v1 rfl rfl) h1
  obtain ⟨⟨b1⟩⟩ := S1
  clear hA0 hval0
  refine (wireWrites_go W P0 Q0 R0 x0 len0 cap0 l0 safe0 s0 b1 z1 (early_of_laid hL)).mono fun e W' ⟨he, bel⟩ => ?_
  subst he
  exact ⟨_, rfl, _, _, _, [], _, [], hW', trodAll_mk1 (shut_bool Tryd.underlying4 _),
    (trodAll_cons_mk (Below.trod laidOut (by kernel_rfl) (of_decide_eq_true (by kernel_rfl)) h0 bel (lt_of_trod h0))
    (trodAll_cons_mk (Below.trod laidOut (by kernel_rfl) (of_decide_eq_true (by kernel_rfl)) h1 bel (lt_of_trod h1))
    trodAll_mk0)), rfl, bel.frame _, fun h => by cases h⟩

theorem wireWrites_over : Rows.wireWritesRow.holds Tryd.pinned (OpenSpec.ofChange Rows.wireWritesSpec) :=
  OpenClaim.holds_of_wide 3 Tryd.f3 rfl rfl rfl rfl rfl rfl rfl ⟨rfl, rfl, rfl, rfl, rfl⟩ rfl rfl rfl rfl rfl (by kernel_rfl) Tryd.func3 (by kernel_rfl)
    (of_decide_eq_true (by kernel_rfl)) (by unfold Func.isWrapper; first | (rw [if_pos (by decide +kernel)]; kernel_rfl) | (rw [if_neg (by decide +kernel)]; exact ⟨rfl, rfl⟩))
    (fun os started H enc _ => wireWrites_lifted os started H enc)
end Go.Proofs.YtbfefocehnafgaaDoor.B
namespace Go.Proofs.YtbfefocehnafgaaDoor
theorem wireWrites_row : Rows.WireWritesSaid := B.wireWrites_over
theorem wireWrites_holds : Rows.WireWritesCardSaid :=
  Claim7.holds_tied_plain_at .later [] [.sentinel] true Rows.wireWritesCard.stood.harness false
    wireWrites_row (fun _ h => by cases h) (by kernel_rfl) (fun _ h => by cases h) wireWrites_row_tie rfl ⟨rfl, rfl⟩ (by kernel_rfl) rfl
    (fun f fn hf hfn => by
      obtain rfl : f = 3 := Option.some.inj ((show Tryd.prog.funcNamed Rows.wireWritesRow.func = some 3 by kernel_rfl).symm.trans hf) |>.symm
      obtain rfl : fn = Tryd.f3 := (Option.some.inj (Tryd.func3.symm.trans hfn)).symm
      exact ⟨by kernel_rfl, fun j t ht => by
        rw [Tryd.params3] at ht
        have hm : t ∈ [28, 9] := by
          have := Array.mem_of_getElem? ht
          simpa using this
        have hall : ([28, 9].all fun t => Tryd.prog.wantsStandIn t == false) = true := by kernel_rfl
        exact eq_of_beq (List.all_eq_true.1 hall t hm)⟩)
    (by kernel_rfl)
#print axioms wireWrites_holds
end Go.Proofs.YtbfefocehnafgaaDoor

