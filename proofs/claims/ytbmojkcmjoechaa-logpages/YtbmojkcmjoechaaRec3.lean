/- The laws' own records, what must be of records in any case, and RecTells and RecTrue. -/
import Derived.Test.YtbmojkcmjoechaaRec2
import Derived.Test.YtbmojkcmjoechaaOpen
import Derived.Deep.RegionHeld3
namespace Go.Proofs.Ytbmojkcmjoechaa.B
open Go.ChangeShapes Go.WideShapes Go.ChangeAt Go.RowKit

set_option maxHeartbeats 400000 in
theorem wr_any (txn prev at' cell was now : Int) (w : World) :
    Calls Try.prog 33 #[.int .i64 txn, .int .i64 prev, .int .i64 at', .int .i64 cell, .int .i64 was, .int .i64 now] w fun e w' => e = .returned (Rc.val ⟨1, txn, prev, at', cell, was, now, 0⟩) ∧ Ext w w' := by
  go_enter Try.func33, Try.ntmps33
  go_wp2_with fail
  exact bodyPost_ret (v := .agg #[.int .i64 1, .int .i64 txn, .int .i64 prev, .int .i64 at', .int .i64 cell, .int .i64 was, .int .i64 now, .int .i64 0]) (by simp [results, Try.results33, go_sem]) rfl ⟨rfl, (Ext.refl _).alloc _⟩

set_option maxHeartbeats 400000 in
theorem cm_any (txn prev : Int) (w : World) :
    Calls Try.prog 36 #[.int .i64 txn, .int .i64 prev] w fun e w' => e = .returned (Rc.val ⟨2, txn, prev, 0, 0, 0, 0, 0⟩) ∧ Ext w w' := by
  go_enter Try.func36, Try.ntmps36
  go_wp2_with fail
  exact bodyPost_ret (v := .agg #[.int .i64 2, .int .i64 txn, .int .i64 prev, .int .i64 0, .int .i64 0, .int .i64 0, .int .i64 0, .int .i64 0]) (by simp [results, Try.results36, go_sem]) rfl ⟨rfl, (Ext.refl _).alloc _⟩

set_option maxHeartbeats 400000 in
theorem bk_any (txn prev at' cell was now nx : Int) (w : World) :
    Calls Try.prog 35 #[.int .i64 txn, .int .i64 prev, .int .i64 at', .int .i64 cell, .int .i64 was, .int .i64 now, .int .i64 nx] w fun e w' => e = .returned (Rc.val ⟨3, txn, prev, at', cell, was, now, nx⟩) ∧ Ext w w' := by
  go_enter Try.func35, Try.ntmps35
  go_wp2_with fail
  exact bodyPost_ret (v := .agg #[.int .i64 3, .int .i64 txn, .int .i64 prev, .int .i64 at', .int .i64 cell, .int .i64 was, .int .i64 now, .int .i64 nx]) (by simp [results, Try.results35, go_sem]) rfl ⟨rfl, (Ext.refl _).alloc _⟩

set_option maxHeartbeats 400000 in
theorem en_any (txn prev : Int) (w : World) :
    Calls Try.prog 34 #[.int .i64 txn, .int .i64 prev] w fun e w' => e = .returned (Rc.val ⟨4, txn, prev, 0, 0, 0, 0, 0⟩) ∧ Ext w w' := by
  go_enter Try.func34, Try.ntmps34
  go_wp2_with fail
  exact bodyPost_ret (v := .agg #[.int .i64 4, .int .i64 txn, .int .i64 prev, .int .i64 0, .int .i64 0, .int .i64 0, .int .i64 0, .int .i64 0]) (by simp [results, Try.results34, go_sem]) rfl ⟨rfl, (Ext.refl _).alloc _⟩

set_option maxHeartbeats 1000000 in
set_option maxRecDepth 100000 in
theorem recBegun_any (w : World) :
    Calls Try.prog 15 #[] w fun e w' => e = .returned (.bool true) ∧ Ext w w' := by
  go_enter Try.func15, Try.ntmps15
  go_wp2_with fail
  refine (wr_any 1 0 0 0 0 5 _).mono ?_
  rintro e w1 ⟨rfl, hw1⟩
  have Ew1 : Ext w w1 := hw1
  clear hw1
  go_wp2_with fail
  refine (recCheck_any 1 ⟨1, 1, 0, 0, 0, 0, 5, 0⟩ _).mono ?_
  rintro e w2 ⟨rfl, hw2⟩
  rw [show recErr 1 ⟨1, 1, 0, 0, 0, 0, 5, 0⟩ = 0 from rfl]
  have Ew2 : Ext w w2 := Ew1.trans hw2
  clear Ew1
  clear hw2
  go_wp2_with fail
  refine (wr_any 1 1 0 0 0 5 _).mono ?_
  rintro e w3 ⟨rfl, hw3⟩
  have Ew3 : Ext w w3 := Ew2.trans hw3
  clear Ew2
  clear hw3
  go_wp2_with fail
  refine (recCheck_any 1 ⟨1, 1, 1, 0, 0, 0, 5, 0⟩ _).mono ?_
  rintro e w4 ⟨rfl, hw4⟩
  rw [show recErr 1 ⟨1, 1, 1, 0, 0, 0, 5, 0⟩ = 3 from rfl]
  have Ew4 : Ext w w4 := Ew3.trans hw4
  clear Ew3
  clear hw4
  go_wp2_with fail
  refine (wr_any 1 0 0 0 0 100 _).mono ?_
  rintro e w5 ⟨rfl, hw5⟩
  have Ew5 : Ext w w5 := Ew4.trans hw5
  clear Ew4
  clear hw5
  go_wp2_with fail
  refine (recCheck_any 1 ⟨1, 1, 0, 0, 0, 0, 100, 0⟩ _).mono ?_
  rintro e w6 ⟨rfl, hw6⟩
  rw [show recErr 1 ⟨1, 1, 0, 0, 0, 0, 100, 0⟩ = 3 from rfl]
  have Ew6 : Ext w w6 := Ew5.trans hw6
  clear Ew5
  clear hw6
  go_wp2_with fail
  refine (en_any 1 1 _).mono ?_
  rintro e w7 ⟨rfl, hw7⟩
  have Ew7 : Ext w w7 := Ew6.trans hw7
  clear Ew6
  clear hw7
  go_wp2_with fail
  refine (recCheck_any 61 ⟨4, 1, 1, 0, 0, 0, 0, 0⟩ _).mono ?_
  rintro e w8 ⟨rfl, hw8⟩
  rw [show recErr 61 ⟨4, 1, 1, 0, 0, 0, 0, 0⟩ = 3 from rfl]
  have Ew8 : Ext w w8 := Ew7.trans hw8
  clear Ew7
  clear hw8
  go_wp2_with fail
  refine (recCheck_any 2 ⟨5, 1, 0, 0, 0, 0, 0, 0⟩ _).mono ?_
  rintro e w9 ⟨rfl, hw9⟩
  rw [show recErr 2 ⟨5, 1, 0, 0, 0, 0, 0, 0⟩ = 4 from rfl]
  have Ew9 : Ext w w9 := Ew8.trans hw9
  clear Ew8
  clear hw9
  go_wp2_with fail
  refine (recCheck_any 2 ⟨4, 1, 0, 0, 1, 0, 0, 0⟩ _).mono ?_
  rintro e w10 ⟨rfl, hw10⟩
  rw [show recErr 2 ⟨4, 1, 0, 0, 1, 0, 0, 0⟩ = 1 from rfl]
  have Ew10 : Ext w w10 := Ew9.trans hw10
  clear Ew9
  clear hw10
  go_wp2_with fail
  refine (recCheck_any 2 ⟨1, 1, 0, 0, 0, 0, 0, 1⟩ _).mono ?_
  rintro e w11 ⟨rfl, hw11⟩
  rw [show recErr 2 ⟨1, 1, 0, 0, 0, 0, 0, 1⟩ = 1 from rfl]
  have Ew11 : Ext w w11 := Ew10.trans hw11
  clear Ew10
  clear hw11
  go_wp2_with fail
  refine (bk_any 1 3 0 0 5 0 1 _).mono ?_
  rintro e w12 ⟨rfl, hw12⟩
  have Ew12 : Ext w w12 := Ew11.trans hw12
  clear Ew11
  clear hw12
  go_wp2_with fail
  refine (recCheck_any 9 ⟨3, 1, 3, 0, 0, 5, 0, 1⟩ _).mono ?_
  rintro e w13 ⟨rfl, hw13⟩
  rw [show recErr 9 ⟨3, 1, 3, 0, 0, 5, 0, 1⟩ = 0 from rfl]
  have Ew13 : Ext w w13 := Ew12.trans hw13
  clear Ew12
  clear hw13
  go_wp2_with fail
  refine (wr_any 1 0 0 0 0 5 _).mono ?_
  rintro e w14 ⟨rfl, hw14⟩
  have Ew14 : Ext w w14 := Ew13.trans hw14
  clear Ew13
  clear hw14
  go_wp2_with fail
  refine (turns_any ⟨1, 1, 0, 0, 0, 0, 5, 0⟩ _).mono ?_
  rintro e w15 ⟨rfl, hw15⟩
  rw [show turns ⟨1, 1, 0, 0, 0, 0, 5, 0⟩ = true from rfl]
  have Ew15 : Ext w w15 := Ew14.trans hw15
  clear Ew14
  clear hw15
  go_wp2_with fail
  refine (cm_any 1 1 _).mono ?_
  rintro e w16 ⟨rfl, hw16⟩
  have Ew16 : Ext w w16 := Ew15.trans hw16
  clear Ew15
  clear hw16
  go_wp2_with fail
  refine (turns_any ⟨2, 1, 1, 0, 0, 0, 0, 0⟩ _).mono ?_
  rintro e w17 ⟨rfl, hw17⟩
  rw [show turns ⟨2, 1, 1, 0, 0, 0, 0, 0⟩ = false from rfl]
  have Ew17 : Ext w w17 := Ew16.trans hw17
  clear Ew16
  clear hw17
  go_wp2_with fail
  go_ret
  exact ⟨rfl, Ew17⟩

set_option maxHeartbeats 1000000 in
set_option maxRecDepth 100000 in
theorem recTells_walk (n : Int) (r : Rc) (w : World) :
    Calls Try.prog 5 #[.int .i64 n, r.val] w fun e w' => e = .returned (.bool true) ∧ Ext w w' := by
  go_enter Try.func5, Try.ntmps5
  go_wp2_with fail
  have C0 := Blk.new w w.heap.size r.cs 34 rfl
  have hE3 := (Ext.refl w).alloc (.cells r.cs 34)
  generalize w.alloc (.cells r.cs 34) = W at *
  have KS : Hid (∀ w', Ext W w' → Ext W w' ∧ (∀ o, w'.cell? ⟨w.heap.size, o, none⟩ = r.cs[o]?)) := fun w' h => ⟨h, (C0.ext h).cell⟩
  go_region_held3 (fun w' => Ext W w' ∧ (∀ o, w'.cell? ⟨w.heap.size, o, none⟩ = r.cs[o]?)) ((refine KS.out _ ?_; first | exact (Ext.refl W).drew | exact hx)) (first
    | (go_at_call 15; refine (recBegun_any _).mono ?_; rintro e w' ⟨rfl, hw'⟩; have hx : Ext W w' := Ext.trans (And.left (by assumption)) hw')
    | (go_at_call 16; refine (recCheck_any n r _).mono ?_; rintro e w' ⟨rfl, hw'⟩; have hx : Ext W w' := Ext.trans (And.left (by assumption)) hw')
    | (go_at_call 17; refine (recError_any n r _).mono ?_; rintro e w' ⟨rfl, hw'⟩; have hx : Ext W w' := Ext.trans (And.left (by assumption)) hw')
    | (go_at_call 18; refine (turns_any r _).mono ?_; rintro e w' ⟨rfl, hw'⟩; have hx : Ext W w' := Ext.trans (And.left (by assumption)) hw')
    | (go_at_call 19; refine (turnsOf_any r _).mono ?_; rintro e w' ⟨rfl, hw'⟩; have hx : Ext W w' := Ext.trans (And.left (by assumption)) hw'))
  go_wp2
  go_ret
  exact ⟨rfl, hE3.trans hx⟩
end Go.Proofs.Ytbmojkcmjoechaa.B
