/- The walks of the book's turn: one theorem a page. The contract of the book's letGo. The contract of the book's hold. -/
import Derived.Test.YtibfgbmhmdggmaaGreatDoorChainA
namespace Go.Proofs.YtibfgbmhmdggmaaGreatDoor.B
set_option maxHeartbeats 32000000
set_option maxRecDepth 100000
open Go.ChangeShapes Go.WideShapes Go.ChangeAt Go.RowKit
abbrev bookArr (a0 a1 a2 a3 a4 a5 a6 a7 a8 a9 a10 a11 : Int) (mt mh : Nat) (sz : Int) : Array Value := #[.int .i64 a0, .int .i64 a1, .int .i64 a2, .int .i64 a3, .int .i64 a4, .int .i64 a5, .int .i64 a6, .int .i64 a7, .int .i64 a8, .int .i64 a9, .int .i64 a10, .int .i64 a11, .map (some mt), .map (some mh), .int .i64 sz]
theorem bookArr_eq (a0 a1 a2 a3 a4 a5 a6 a7 a8 a9 a10 a11 : Int) (mt mh : Nat) (sz : Int) : bookCells [a0, a1, a2, a3, a4, a5, a6, a7, a8, a9, a10, a11] mt mh sz = bookArr a0 a1 a2 a3 a4 a5 a6 a7 a8 a9 a10 a11 mt mh sz := rfl
theorem turn_not {r : Rc} (n : Int) (pb : Nat) (w : World) (ht : turns r = false) :
  Calls Tryz.prog 175 #[.pointer (some ⟨pb, 0, none⟩), .int .i64 n, r.val] w fun e w' => e = .returned (.tuple #[]) ∧ Ext w w' := by
 have HT := (show Hid (turns r = false) from ht)
 clear ht
 go_enter Tryz.func175, Tryz.ntmps175
 go_wp2_with fail
 refine (turns_any r _).mono ?_
 rintro e w1 ⟨rfl, hw1⟩
 rw [HT.out]
 go_wp2_with fail
 (try simp only [Exit.inBlock, Exit.then])
 refine bodyPost_ret (results_none rfl _ _ _) rfl ?_
 exact ⟨rfl, ((Ext.refl w).alloc _).trans hw1⟩
theorem turn_0 (a0 a1 a2 a3 a4 a5 a6 a7 a8 a9 a10 a11 : Int) (mt mh pb : Nat) (sz n kind txn prev cell old new next : Int) (w : World) (hB : Blk w pb (bookArr a0 a1 a2 a3 a4 a5 a6 a7 a8 a9 a10 a11 mt mh sz) 134) (ht : turns (Rc.mk kind txn prev 0 cell old new next) = true) :
  Calls Tryz.prog 175 #[.pointer (some ⟨pb, 0, none⟩), .int .i64 n, (Rc.mk kind txn prev 0 cell old new next).val] w fun e w' => e = .returned (.tuple #[]) ∧ Gr (some pb) w w' ∧ Blk w' pb (bookArr ((setOf ⟨a0, a1, a2, a3⟩ cell new n).1.c0) ((setOf ⟨a0, a1, a2, a3⟩ cell new n).1.c1) ((setOf ⟨a0, a1, a2, a3⟩ cell new n).1.c2) ((setOf ⟨a0, a1, a2, a3⟩ cell new n).1.last) a4 a5 a6 a7 a8 a9 a10 a11 mt mh sz) 134 := by
 have HT := (show Hid (turns (Rc.mk kind txn prev 0 cell old new next) = true) from ht)
 clear ht
 go_enter Tryz.func175, Tryz.ntmps175
 go_wp2_with fail
 refine (turns_any (Rc.mk kind txn prev 0 cell old new next) _).mono ?_
 rintro e w1 ⟨rfl, hw1⟩
 rw [HT.out]
 go_wp2_with fail
 have hR := (Blk.new w w.heap.size (Rc.mk kind txn prev 0 cell old new next).cs 81 rfl).ext hw1
 have hB1 := (hB.alloc (.cells (Rc.mk kind txn prev 0 cell old new next).cs 81)).ext hw1
 have g1 : Gr (some pb) w w1 := ((Gr.refl (some pb) w).alloc _).ext hw1
 have hne : w.heap.size ≠ pb := by have := hB.lt; omega
 have KC : Hid (∀ w', Gr (some pb) w1 w' → (∀ o, w'.cell? ⟨w.heap.size, o, none⟩ = (Rc.mk kind txn prev 0 cell old new next).cs[o]?)) := fun w' e => (hR.gr e (by simpa using hne)).cell
 clear hB hw1 HT
 have c1 := hB1.cell
 have f1 := hB1.fr
 refine wp_region_held_drew (S := fun w' => Gr (some pb) w1 w' ∧ (∀ o, w'.cell? ⟨w.heap.size, o, none⟩ = (Rc.mk kind txn prev 0 cell old new next).cs[o]?)) (by kernel_rfl) ⟨(Gr.refl (some pb) w1).drew, KC.out _ (Gr.refl (some pb) w1).drew⟩ (fun hHeld => ?_)
 refine tkn 0 rfl hHeld ?_
 simp only [Act.put]
 refine tkn 1 rfl hHeld ?_
 simp only [Act.put]
 refine tkn 2 rfl hHeld ?_
 simp only [Act.put]
 refine tkn 3 rfl hHeld ?_
 simp only [Act.put]
 refine tkn 4 rfl hHeld ?_
 simp only [Act.put]
 refine tkn 5 rfl hHeld ?_
 simp only [Act.put]
 refine tkn 6 rfl hHeld ?_
 simp only [Act.put]
 refine tkn 7 rfl hHeld ?_
 simp only [Act.put]
 refine tkn 8 rfl hHeld ?_
 simp only [Act.put]
 refine tkn 10 rfl hHeld ?_
 simp only [Act.put]
 refine tkn 11 rfl hHeld ?_
 simp only [Act.put]
 refine tkn 12 rfl hHeld ?_
 simp only [Act.put]
 refine tkn 13 rfl hHeld ?_
 simp only [Act.put]
 refine tkn 14 rfl hHeld ?_
 simp only [Act.put]
 refine tkn 19 rfl hHeld ?_
 simp only [Act.put]
 refine tkn 20 rfl hHeld ?_
 simp only [Act.put]
 refine exn 9 rfl fun K hK => ?_
 go_simp
 refine hK.out _ _ hHeld (fun hHeld => ?_)
 clear hK K
 refine exn 15 rfl fun K hK => ?_
 go_simp
 refine (set_any ⟨a0, a1, a2, a3⟩ cell new n _).mono ?_
 rintro e w2 ⟨rfl, hw2⟩
 have hy : Gr (some pb) w1 w2 := hHeld.1.ext hw2
 have D := (Blk.drew hB1).ext hw2
 have dc := D.cell
 have df := D.fr
 go_wp2_with fail
 clear hHeld
 refine hK.out _ _ ⟨hy, KC.out _ hy⟩ (fun hHeld => ?_)
 clear hK K
 refine tkn 16 rfl hHeld ?_
 simp only [Act.put]
 refine tkn 17 rfl hHeld ?_
 simp only [Act.put]
 refine tkn 18 rfl hHeld ?_
 simp only [Act.put]
 refine tkn 21 rfl hHeld ?_
 simp only [Act.put]
 refine exn 22 rfl fun K hK => ?_
 go_simp
 have hz := fun (u0 u1 u2 u3 : Value) => (((hy.set (p := ⟨pb, 0, none⟩) (Or.inr rfl) u0).set (p := ⟨pb, 1, none⟩) (Or.inr rfl) u1).set (p := ⟨pb, 2, none⟩) (Or.inr rfl) u2).set (p := ⟨pb, 3, none⟩) (Or.inr rfl) u3
 refine hK.out _ _ ⟨hz _ _ _ _, KC.out _ (hz _ _ _ _)⟩ (fun hHeld => ?_)
 clear hK K
 refine wpAnyH_done (by kernel_rfl) ?_ _
 clear KC hHeld dc df c1 f1
 go_end0
 exact ⟨rfl, g1.trans (hz _ _ _ _), (((D.set 0 _).set 1 _).set 2 _).set 3 _⟩
theorem turn_1 (a0 a1 a2 a3 a4 a5 a6 a7 a8 a9 a10 a11 : Int) (mt mh pb : Nat) (sz n kind txn prev cell old new next : Int) (w : World) (hB : Blk w pb (bookArr a0 a1 a2 a3 a4 a5 a6 a7 a8 a9 a10 a11 mt mh sz) 134) (ht : turns (Rc.mk kind txn prev 1 cell old new next) = true) :
  Calls Tryz.prog 175 #[.pointer (some ⟨pb, 0, none⟩), .int .i64 n, (Rc.mk kind txn prev 1 cell old new next).val] w fun e w' => e = .returned (.tuple #[]) ∧ Gr (some pb) w w' ∧ Blk w' pb (bookArr a0 a1 a2 a3 ((setOf ⟨a4, a5, a6, a7⟩ cell new n).1.c0) ((setOf ⟨a4, a5, a6, a7⟩ cell new n).1.c1) ((setOf ⟨a4, a5, a6, a7⟩ cell new n).1.c2) ((setOf ⟨a4, a5, a6, a7⟩ cell new n).1.last) a8 a9 a10 a11 mt mh sz) 134 := by
 have HT := (show Hid (turns (Rc.mk kind txn prev 1 cell old new next) = true) from ht)
 clear ht
 go_enter Tryz.func175, Tryz.ntmps175
 go_wp2_with fail
 refine (turns_any (Rc.mk kind txn prev 1 cell old new next) _).mono ?_
 rintro e w1 ⟨rfl, hw1⟩
 rw [HT.out]
 go_wp2_with fail
 have hR := (Blk.new w w.heap.size (Rc.mk kind txn prev 1 cell old new next).cs 81 rfl).ext hw1
 have hB1 := (hB.alloc (.cells (Rc.mk kind txn prev 1 cell old new next).cs 81)).ext hw1
 have g1 : Gr (some pb) w w1 := ((Gr.refl (some pb) w).alloc _).ext hw1
 have hne : w.heap.size ≠ pb := by have := hB.lt; omega
 have KC : Hid (∀ w', Gr (some pb) w1 w' → (∀ o, w'.cell? ⟨w.heap.size, o, none⟩ = (Rc.mk kind txn prev 1 cell old new next).cs[o]?)) := fun w' e => (hR.gr e (by simpa using hne)).cell
 clear hB hw1 HT
 have c1 := hB1.cell
 have f1 := hB1.fr
 refine wp_region_held_drew (S := fun w' => Gr (some pb) w1 w' ∧ (∀ o, w'.cell? ⟨w.heap.size, o, none⟩ = (Rc.mk kind txn prev 1 cell old new next).cs[o]?)) (by kernel_rfl) ⟨(Gr.refl (some pb) w1).drew, KC.out _ (Gr.refl (some pb) w1).drew⟩ (fun hHeld => ?_)
 refine tkn 0 rfl hHeld ?_
 simp only [Act.put]
 refine tkn 1 rfl hHeld ?_
 simp only [Act.put]
 refine tkn 2 rfl hHeld ?_
 simp only [Act.put]
 refine tkn 3 rfl hHeld ?_
 simp only [Act.put]
 refine tkn 4 rfl hHeld ?_
 simp only [Act.put]
 refine tkn 5 rfl hHeld ?_
 simp only [Act.put]
 refine tkn 6 rfl hHeld ?_
 simp only [Act.put]
 refine tkn 7 rfl hHeld ?_
 simp only [Act.put]
 refine tkn 8 rfl hHeld ?_
 simp only [Act.put]
 refine tkn 10 rfl hHeld ?_
 simp only [Act.put]
 refine tkn 11 rfl hHeld ?_
 simp only [Act.put]
 refine tkn 12 rfl hHeld ?_
 simp only [Act.put]
 refine tkn 13 rfl hHeld ?_
 simp only [Act.put]
 refine tkn 14 rfl hHeld ?_
 simp only [Act.put]
 refine tkn 19 rfl hHeld ?_
 simp only [Act.put]
 refine tkn 20 rfl hHeld ?_
 simp only [Act.put]
 refine exn 9 rfl fun K hK => ?_
 go_simp
 refine hK.out _ _ hHeld (fun hHeld => ?_)
 clear hK K
 refine exn 15 rfl fun K hK => ?_
 go_simp
 refine (set_any ⟨a4, a5, a6, a7⟩ cell new n _).mono ?_
 rintro e w2 ⟨rfl, hw2⟩
 have hy : Gr (some pb) w1 w2 := hHeld.1.ext hw2
 have D := (Blk.drew hB1).ext hw2
 have dc := D.cell
 have df := D.fr
 go_wp2_with fail
 clear hHeld
 refine hK.out _ _ ⟨hy, KC.out _ hy⟩ (fun hHeld => ?_)
 clear hK K
 refine tkn 16 rfl hHeld ?_
 simp only [Act.put]
 refine tkn 17 rfl hHeld ?_
 simp only [Act.put]
 refine tkn 18 rfl hHeld ?_
 simp only [Act.put]
 refine tkn 21 rfl hHeld ?_
 simp only [Act.put]
 refine exn 22 rfl fun K hK => ?_
 go_simp
 have hz := fun (u0 u1 u2 u3 : Value) => (((hy.set (p := ⟨pb, 4, none⟩) (Or.inr rfl) u0).set (p := ⟨pb, 5, none⟩) (Or.inr rfl) u1).set (p := ⟨pb, 6, none⟩) (Or.inr rfl) u2).set (p := ⟨pb, 7, none⟩) (Or.inr rfl) u3
 refine hK.out _ _ ⟨hz _ _ _ _, KC.out _ (hz _ _ _ _)⟩ (fun hHeld => ?_)
 clear hK K
 refine wpAnyH_done (by kernel_rfl) ?_ _
 clear KC hHeld dc df c1 f1
 go_end0
 exact ⟨rfl, g1.trans (hz _ _ _ _), (((D.set 4 _).set 5 _).set 6 _).set 7 _⟩
theorem turn_2 (a0 a1 a2 a3 a4 a5 a6 a7 a8 a9 a10 a11 : Int) (mt mh pb : Nat) (sz n kind txn prev cell old new next : Int) (w : World) (hB : Blk w pb (bookArr a0 a1 a2 a3 a4 a5 a6 a7 a8 a9 a10 a11 mt mh sz) 134) (ht : turns (Rc.mk kind txn prev 2 cell old new next) = true) :
  Calls Tryz.prog 175 #[.pointer (some ⟨pb, 0, none⟩), .int .i64 n, (Rc.mk kind txn prev 2 cell old new next).val] w fun e w' => e = .returned (.tuple #[]) ∧ Gr (some pb) w w' ∧ Blk w' pb (bookArr a0 a1 a2 a3 a4 a5 a6 a7 ((setOf ⟨a8, a9, a10, a11⟩ cell new n).1.c0) ((setOf ⟨a8, a9, a10, a11⟩ cell new n).1.c1) ((setOf ⟨a8, a9, a10, a11⟩ cell new n).1.c2) ((setOf ⟨a8, a9, a10, a11⟩ cell new n).1.last) mt mh sz) 134 := by
 have HT := (show Hid (turns (Rc.mk kind txn prev 2 cell old new next) = true) from ht)
 clear ht
 go_enter Tryz.func175, Tryz.ntmps175
 go_wp2_with fail
 refine (turns_any (Rc.mk kind txn prev 2 cell old new next) _).mono ?_
 rintro e w1 ⟨rfl, hw1⟩
 rw [HT.out]
 go_wp2_with fail
 have hR := (Blk.new w w.heap.size (Rc.mk kind txn prev 2 cell old new next).cs 81 rfl).ext hw1
 have hB1 := (hB.alloc (.cells (Rc.mk kind txn prev 2 cell old new next).cs 81)).ext hw1
 have g1 : Gr (some pb) w w1 := ((Gr.refl (some pb) w).alloc _).ext hw1
 have hne : w.heap.size ≠ pb := by have := hB.lt; omega
 have KC : Hid (∀ w', Gr (some pb) w1 w' → (∀ o, w'.cell? ⟨w.heap.size, o, none⟩ = (Rc.mk kind txn prev 2 cell old new next).cs[o]?)) := fun w' e => (hR.gr e (by simpa using hne)).cell
 clear hB hw1 HT
 have c1 := hB1.cell
 have f1 := hB1.fr
 refine wp_region_held_drew (S := fun w' => Gr (some pb) w1 w' ∧ (∀ o, w'.cell? ⟨w.heap.size, o, none⟩ = (Rc.mk kind txn prev 2 cell old new next).cs[o]?)) (by kernel_rfl) ⟨(Gr.refl (some pb) w1).drew, KC.out _ (Gr.refl (some pb) w1).drew⟩ (fun hHeld => ?_)
 refine tkn 0 rfl hHeld ?_
 simp only [Act.put]
 refine tkn 1 rfl hHeld ?_
 simp only [Act.put]
 refine tkn 2 rfl hHeld ?_
 simp only [Act.put]
 refine tkn 3 rfl hHeld ?_
 simp only [Act.put]
 refine tkn 4 rfl hHeld ?_
 simp only [Act.put]
 refine tkn 5 rfl hHeld ?_
 simp only [Act.put]
 refine tkn 6 rfl hHeld ?_
 simp only [Act.put]
 refine tkn 7 rfl hHeld ?_
 simp only [Act.put]
 refine tkn 8 rfl hHeld ?_
 simp only [Act.put]
 refine tkn 10 rfl hHeld ?_
 simp only [Act.put]
 refine tkn 11 rfl hHeld ?_
 simp only [Act.put]
 refine tkn 12 rfl hHeld ?_
 simp only [Act.put]
 refine tkn 13 rfl hHeld ?_
 simp only [Act.put]
 refine tkn 14 rfl hHeld ?_
 simp only [Act.put]
 refine tkn 19 rfl hHeld ?_
 simp only [Act.put]
 refine tkn 20 rfl hHeld ?_
 simp only [Act.put]
 refine exn 9 rfl fun K hK => ?_
 go_simp
 refine hK.out _ _ hHeld (fun hHeld => ?_)
 clear hK K
 refine exn 15 rfl fun K hK => ?_
 go_simp
 refine (set_any ⟨a8, a9, a10, a11⟩ cell new n _).mono ?_
 rintro e w2 ⟨rfl, hw2⟩
 have hy : Gr (some pb) w1 w2 := hHeld.1.ext hw2
 have D := (Blk.drew hB1).ext hw2
 have dc := D.cell
 have df := D.fr
 go_wp2_with fail
 clear hHeld
 refine hK.out _ _ ⟨hy, KC.out _ hy⟩ (fun hHeld => ?_)
 clear hK K
 refine tkn 16 rfl hHeld ?_
 simp only [Act.put]
 refine tkn 17 rfl hHeld ?_
 simp only [Act.put]
 refine tkn 18 rfl hHeld ?_
 simp only [Act.put]
 refine tkn 21 rfl hHeld ?_
 simp only [Act.put]
 refine exn 22 rfl fun K hK => ?_
 go_simp
 have hz := fun (u0 u1 u2 u3 : Value) => (((hy.set (p := ⟨pb, 8, none⟩) (Or.inr rfl) u0).set (p := ⟨pb, 9, none⟩) (Or.inr rfl) u1).set (p := ⟨pb, 10, none⟩) (Or.inr rfl) u2).set (p := ⟨pb, 11, none⟩) (Or.inr rfl) u3
 refine hK.out _ _ ⟨hz _ _ _ _, KC.out _ (hz _ _ _ _)⟩ (fun hHeld => ?_)
 clear hK K
 refine wpAnyH_done (by kernel_rfl) ?_ _
 clear KC hHeld dc df c1 f1
 go_end0
 exact ⟨rfl, g1.trans (hz _ _ _ _), (((D.set 8 _).set 9 _).set 10 _).set 11 _⟩
theorem letGo_any (pc : Array Value) (mh pb : Nat) (ho : List HE) (r : Rc) (w : World) (hB : Blk w pb pc 134) (h13 : pc[13]? = some (.map (some mh))) (hM : MapAt keyP w mh (ho.map hoEnt)) (hne : pb ≠ mh)
  (h1 : 0 < (lookH ho (r.page, r.cell)).2) (h2 : (lookH ho (r.page, r.cell)).2 < 1000) :
  Calls Tryz.prog 202 #[.pointer (some ⟨pb, 0, none⟩), r.val] w fun e w' => e = .returned (.tuple #[]) ∧ Gr (some mh) w w' ∧ MapAt keyP w' mh ((letGoH ho (r.page, r.cell)).map hoEnt) := by
 have HL := (show Hid (lookP (ho.map hoEnt) (r.page, r.cell) (hoVal (0, 0)) = hoVal (lookH ho (r.page, r.cell))) from lookH_eq ho (r.page, r.cell))
 have HG : Hid (letGoH ho (r.page, r.cell) = if 0 < (lookH ho (r.page, r.cell)).2 - 1 then putH ho (r.page, r.cell) ((lookH ho (r.page, r.cell)).1, (lookH ho (r.page, r.cell)).2 - 1) else dropH ho (r.page, r.cell)) := rfl
 generalize lookH ho (r.page, r.cell) = x at *
 go_enter Tryz.func202, Tryz.ntmps202
 go_wp2_with fail
 have C1 := Blk.new w w.heap.size r.cs 81 rfl
 have hE := (Ext.refl w).alloc (.cells r.cs 81)
 have hmw := hM.lt
 have hRne : w.heap.size ≠ mh := by omega
 generalize w.alloc (.cells r.cs 81) = W at *
 have hB1 := hB.ext hE
 have hM1 := hM.ext hE
 have KL : Hid (∀ w', Ext W w' → (Instr.lookup 132 (.map (some mh)) (keyP (r.page, r.cell)) false).run Tryz.prog w' = .ok (hoVal x) w') := fun w' e => by rw [run_lookP (hM1.ext e) (r.page, r.cell), HL.out]
 have KC : Hid (∀ w', Ext W w' → (∀ o, w'.cell? ⟨w.heap.size, o, none⟩ = r.cs[o]?) ∧ w'.cell? ⟨pb, 13, none⟩ = some (.map (some mh))) := fun w' e => ⟨(C1.ext e).cell, by rw [(hB1.ext e).cell]; exact h13⟩
 go_cut [4] (fun s4 wx => ∃ b4 : Nat, s4 = .pointer (some ⟨b4, 0, none⟩) ∧ Blk wx b4 #[.int .i64 x.1, .int .i64 x.2] 196 ∧ Ext W wx ∧ W.heap.size ≤ b4)
 case first =>
  go_region_held3 (fun w' => Ext W w' ∧ ((∀ o, w'.cell? ⟨w.heap.size, o, none⟩ = r.cs[o]?) ∧ w'.cell? ⟨pb, 13, none⟩ = some (.map (some mh))) ∧ (Instr.lookup 132 (.map (some mh)) (keyP (r.page, r.cell)) false).run Tryz.prog w' = .ok (hoVal x) w')
   ((refine (fun e => ⟨e, KC.out _ e, KL.out _ e⟩ : Ext W _ → _) ?_; first | exact (Ext.refl W).drew | exact ((Ext.refl W).alloc _).drew | exact hy | exact hy.alloc _ | exact (hy.setCell hbx _).setCell hbx _))
   (first
   | (go_at_call 201; refine (placeOf_any r _).mono ?_; rintro e w' ⟨rfl, hw'⟩; have hy : Ext W w' := Ext.trans (And.left (by assumption)) hw'; have hbx : W.heap.size ≤ W.heap.size := Nat.le_refl _; have D := Blk.ext (Blk.drew (Blk.new W W.heap.size #[.int .i64 0, .int .i64 0] 196 rfl)) hw'; have dc := D.cell; have df := D.fr)
   | (go_at_call 201; refine (placeOf_any r _).mono ?_; rintro e w' ⟨rfl, hw'⟩; have hy : Ext W w' := Ext.trans (And.left (by assumption)) hw'; have hbx : W.heap.size ≤ W.heap.size := Nat.le_refl _))
  ·go_wp2_with fail
   go_meet
   case rel => exact ⟨_, rfl, Blk.new _ _ _ _ rfl, hy.alloc _, hy.size⟩
  ·go_wp2_with fail
   go_meet
   case rel => exact ⟨_, rfl, Blk.new _ _ _ _ rfl, hy.alloc _, hy.size⟩
  ·go_wp2_with fail
   go_meet
   case rel => exact ⟨_, rfl, (D.set 0 _).set 1 _, (hy.setCell hbx _).setCell hbx _, hbx⟩
 case rest =>
  obtain ⟨b4, rfl, C2, hx4, hb4⟩ := hcut
  have D1 := C1.ext hx4
  have hB2 := hB1.ext hx4
  have hE2 := hE.trans hx4
  have hM2 := hM1.ext hx4
  have hb4m : b4 ≠ mh := by have := hE.size; omega
  have hpl := hB1.lt
  have hrl := C1.lt
  clear C1 hB1 hE KL KC hx4 HL
  have c2 := C2.cell
  have f2 := C2.fr
  by_cases h0 : 0 < x.2 - 1
  ·have HD : Hid (decide (0 < x.2 - 1) = true) := by unfold Hid; simpa using h0
   have C3 := C2.set 1 (.int .i64 (x.2 - 1))
   have D3 := D1.other ⟨b4, 1, none⟩ (.int .i64 (x.2 - 1)) (by dsimp only; omega)
   have B3 := hB2.other ⟨b4, 1, none⟩ (.int .i64 (x.2 - 1)) (by dsimp only; omega)
   have M3 := hM2.gr ((Gr.refl (some b4) wc).set (p := ⟨b4, 1, none⟩) (Or.inr rfl) (.int .i64 (x.2 - 1))) (by simpa using Ne.symm hb4m)
   have hE3 := hE2.setCell (p := ⟨b4, 1, none⟩) (by have := hE2.size; dsimp only; omega) (.int .i64 (x.2 - 1))
   go_wp2_with fail
   clear c2 f2 C2 D1 hB2 hM2 hE2
   generalize wc.setCell ⟨b4, 1, none⟩ (.int .i64 (x.2 - 1)) = V at *
   have KC : Hid (∀ w', Gr (some mh) V w' → (∀ o, w'.cell? ⟨w.heap.size, o, none⟩ = r.cs[o]?) ∧ w'.cell? ⟨pb, 13, none⟩ = some (.map (some mh)) ∧ (∀ o, w'.cell? ⟨b4, o, none⟩ = #[.int .i64 x.1, .int .i64 (x.2 - 1)][o]?)) := fun w' e => ⟨(D3.gr e (by simpa using hRne)).cell, by rw [(B3.gr e (by simpa using hne)).cell]; exact h13, (C3.gr e (by simpa using hb4m)).cell⟩
   refine wp_region_held_drew (S := fun w' => Gr (some mh) V w' ∧ (∀ o, w'.cell? ⟨w.heap.size, o, none⟩ = r.cs[o]?) ∧ w'.cell? ⟨pb, 13, none⟩ = some (.map (some mh)) ∧ (∀ o, w'.cell? ⟨b4, o, none⟩ = #[.int .i64 x.1, .int .i64 (x.2 - 1)][o]?)) (by kernel_rfl) ⟨(Gr.refl (some mh) V).drew, KC.out _ (Gr.refl (some mh) V).drew⟩ (fun hHeld => ?_)
   refine tkn 0 rfl hHeld ?_
   simp only [Act.put]
   refine tkn 1 rfl hHeld ?_
   simp only [Act.put]
   refine tkn 2 rfl hHeld ?_
   simp only [Act.put]
   refine tkn 3 rfl hHeld ?_
   simp only [Act.put]
   refine tkn 4 rfl hHeld ?_
   simp only [Act.put]
   refine tkn 6 rfl hHeld ?_
   simp only [Act.put]
   refine exn 5 rfl fun K hK => ?_
   go_simp
   refine (placeOf_any r _).mono ?_
   rintro e w2 ⟨rfl, hw2⟩
   have hy : Gr (some mh) V w2 := hHeld.1.ext hw2
   have M4 := (M3.ext (Ext.refl V).drew).ext hw2
   go_wp2_with fail
   clear hHeld
   refine hK.out _ _ ⟨hy, KC.out _ hy⟩ (fun hHeld => ?_)
   clear hK K
   obtain ⟨w3, hr3, hm3, ho3⟩ := run_putP M4 (r.page, r.cell) (hoVal (x.1, x.2 - 1))
   refine exn 7 rfl fun K hK => ?_
   go_simp
   have hz := hy.trans (Gr.of_only ho3)
   refine hK.out _ _ ⟨hz, KC.out _ hz⟩ (fun hHeld => ?_)
   clear hK K
   refine wpAnyH_done (by kernel_rfl) ?_ _
   clear KC hHeld
   go_end0
   refine ⟨rfl, (Gr.of_ext hE3).trans hz, ?_⟩
   rw [HG.out, if_pos h0, ← putH_eq]
   exact hm3
  ·have HD : Hid (decide (0 < x.2 - 1) = false) := by unfold Hid; simpa using h0
   have C3 := C2.set 1 (.int .i64 (x.2 - 1))
   have D3 := D1.other ⟨b4, 1, none⟩ (.int .i64 (x.2 - 1)) (by dsimp only; omega)
   have B3 := hB2.other ⟨b4, 1, none⟩ (.int .i64 (x.2 - 1)) (by dsimp only; omega)
   have M3 := hM2.gr ((Gr.refl (some b4) wc).set (p := ⟨b4, 1, none⟩) (Or.inr rfl) (.int .i64 (x.2 - 1))) (by simpa using Ne.symm hb4m)
   have hE3 := hE2.setCell (p := ⟨b4, 1, none⟩) (by have := hE2.size; dsimp only; omega) (.int .i64 (x.2 - 1))
   go_wp2_with fail
   clear c2 f2 C2 D1 hB2 hM2 hE2
   generalize wc.setCell ⟨b4, 1, none⟩ (.int .i64 (x.2 - 1)) = V at *
   have KC : Hid (∀ w', Gr (some mh) V w' → (∀ o, w'.cell? ⟨w.heap.size, o, none⟩ = r.cs[o]?) ∧ w'.cell? ⟨pb, 13, none⟩ = some (.map (some mh)) ∧ (∀ o, w'.cell? ⟨b4, o, none⟩ = #[.int .i64 x.1, .int .i64 (x.2 - 1)][o]?)) := fun w' e => ⟨(D3.gr e (by simpa using hRne)).cell, by rw [(B3.gr e (by simpa using hne)).cell]; exact h13, (C3.gr e (by simpa using hb4m)).cell⟩
   refine wp_region_held_drew (S := fun w' => Gr (some mh) V w' ∧ (∀ o, w'.cell? ⟨w.heap.size, o, none⟩ = r.cs[o]?) ∧ w'.cell? ⟨pb, 13, none⟩ = some (.map (some mh)) ∧ (∀ o, w'.cell? ⟨b4, o, none⟩ = #[.int .i64 x.1, .int .i64 (x.2 - 1)][o]?)) (by kernel_rfl) ⟨(Gr.refl (some mh) V).drew, KC.out _ (Gr.refl (some mh) V).drew⟩ (fun hHeld => ?_)
   refine tkn 0 rfl hHeld ?_
   simp only [Act.put]
   refine tkn 1 rfl hHeld ?_
   simp only [Act.put]
   refine tkn 2 rfl hHeld ?_
   simp only [Act.put]
   refine tkn 3 rfl hHeld ?_
   simp only [Act.put]
   refine tkn 4 rfl hHeld ?_
   simp only [Act.put]
   refine exn 5 rfl fun K hK => ?_
   go_simp
   refine (placeOf_any r _).mono ?_
   rintro e w2 ⟨rfl, hw2⟩
   have hy : Gr (some mh) V w2 := hHeld.1.ext hw2
   have M4 := (M3.ext (Ext.refl V).drew).ext hw2
   go_wp2_with fail
   clear hHeld
   refine hK.out _ _ ⟨hy, KC.out _ hy⟩ (fun hHeld => ?_)
   clear hK K
   obtain ⟨w3, hr3, hm3, ho3⟩ := run_dropP M4 (r.page, r.cell) 0
   refine exn 6 rfl fun K hK => ?_
   go_simp
   have hz := hy.trans (Gr.of_only ho3)
   refine hK.out _ _ ⟨hz, KC.out _ hz⟩ (fun hHeld => ?_)
   clear hK K
   refine wpAnyH_done (by kernel_rfl) ?_ _
   clear KC hHeld
   go_end0
   refine ⟨rfl, (Gr.of_ext hE3).trans hz, ?_⟩
   rw [HG.out, if_neg (by omega), ← dropH_eq]
   exact hm3
theorem hold_2 (pb : Nat) (r : Rc) (w : World) (hk : r.kind = 2) :
  Calls Tryz.prog 176 #[.pointer (some ⟨pb, 0, none⟩), r.val] w fun e w' => e = .returned (.tuple #[]) ∧ Ext w w' := by
 obtain ⟨kind, txn, prev, page, cell, old, new, next⟩ := r
 dsimp only at hk
 subst hk
 go_enter Tryz.func176, Tryz.ntmps176
 go_wp2_with fail
 go_end0
 exact ⟨rfl, ((Ext.refl w).alloc _)⟩
theorem hold_1 (pc : Array Value) (mh pb : Nat) (ho : List HE) (txn prev page cell old new next : Int) (w : World) (hB : Blk w pb pc 134) (h13 : pc[13]? = some (.map (some mh))) (hM : MapAt keyP w mh (ho.map hoEnt)) (hne : pb ≠ mh)
  (h1 : 0 ≤ (lookH ho (page, cell)).2) (h2 : (lookH ho (page, cell)).2 < 1000) :
  Calls Tryz.prog 176 #[.pointer (some ⟨pb, 0, none⟩), (Rc.mk 1 txn prev page cell old new next).val] w fun e w' => e = .returned (.tuple #[]) ∧ Gr (some mh) w w' ∧ MapAt keyP w' mh ((writeH ho (page, cell) txn).map hoEnt) := by
 have HL := (show Hid (lookP (ho.map hoEnt) (page, cell) (hoVal (0, 0)) = hoVal (lookH ho (page, cell))) from lookH_eq ho (page, cell))
 have HG : Hid (writeH ho (page, cell) txn = putH ho (page, cell) (txn, (lookH ho (page, cell)).2 + 1)) := rfl
 generalize lookH ho (page, cell) = x at *
 go_enter Tryz.func176, Tryz.ntmps176
 go_wp2_with fail
 have C1 := Blk.new w w.heap.size (Rc.mk 1 txn prev page cell old new next).cs 81 rfl
 have hE := (Ext.refl w).alloc (.cells (Rc.mk 1 txn prev page cell old new next).cs 81)
 have hmw := hM.lt
 have hRne : w.heap.size ≠ mh := by omega
 generalize w.alloc (.cells (Rc.mk 1 txn prev page cell old new next).cs 81) = W at *
 have hB1 := hB.ext hE
 have hM1 := hM.ext hE
 have KL : Hid (∀ w', Ext W w' → (Instr.lookup 132 (.map (some mh)) (keyP (page, cell)) false).run Tryz.prog w' = .ok (hoVal x) w') := fun w' e => by rw [run_lookP (hM1.ext e) (page, cell), HL.out]
 have KC : Hid (∀ w', Ext W w' → (∀ o, w'.cell? ⟨w.heap.size, o, none⟩ = (Rc.mk 1 txn prev page cell old new next).cs[o]?) ∧ w'.cell? ⟨pb, 13, none⟩ = some (.map (some mh))) := fun w' e => ⟨(C1.ext e).cell, by rw [(hB1.ext e).cell]; exact h13⟩
 go_cut [4] (fun s4 wx => ∃ b4 : Nat, s4 = .pointer (some ⟨b4, 0, none⟩) ∧ Blk wx b4 #[.int .i64 x.1, .int .i64 x.2] 196 ∧ Ext W wx ∧ W.heap.size ≤ b4)
 case first =>
  go_region_held3 (fun w' => Ext W w' ∧ ((∀ o, w'.cell? ⟨w.heap.size, o, none⟩ = (Rc.mk 1 txn prev page cell old new next).cs[o]?) ∧ w'.cell? ⟨pb, 13, none⟩ = some (.map (some mh))) ∧ (Instr.lookup 132 (.map (some mh)) (keyP (page, cell)) false).run Tryz.prog w' = .ok (hoVal x) w')
   ((refine (fun e => ⟨e, KC.out _ e, KL.out _ e⟩ : Ext W _ → _) ?_; first | exact (Ext.refl W).drew | exact ((Ext.refl W).alloc _).drew | exact hy | exact hy.alloc _ | exact (hy.setCell hbx _).setCell hbx _))
   (first
   | (go_at_call 201; refine (placeOf_any (Rc.mk 1 txn prev page cell old new next) _).mono ?_; rintro e w' ⟨rfl, hw'⟩; have hy : Ext W w' := Ext.trans (And.left (by assumption)) hw'; have hbx : W.heap.size ≤ W.heap.size := Nat.le_refl _; have D := Blk.ext (Blk.drew (Blk.new W W.heap.size #[.int .i64 0, .int .i64 0] 196 rfl)) hw'; have dc := D.cell; have df := D.fr)
   | (go_at_call 201; refine (placeOf_any (Rc.mk 1 txn prev page cell old new next) _).mono ?_; rintro e w' ⟨rfl, hw'⟩; have hy : Ext W w' := Ext.trans (And.left (by assumption)) hw'; have hbx : W.heap.size ≤ W.heap.size := Nat.le_refl _))
  ·go_wp2_with fail
   go_meet
   case rel => exact ⟨_, rfl, Blk.new _ _ _ _ rfl, hy.alloc _, hy.size⟩
  ·go_wp2_with fail
   go_meet
   case rel => exact ⟨_, rfl, Blk.new _ _ _ _ rfl, hy.alloc _, hy.size⟩
  ·go_wp2_with fail
   go_meet
   case rel => exact ⟨_, rfl, (D.set 0 _).set 1 _, (hy.setCell hbx _).setCell hbx _, hbx⟩
 case rest =>
  obtain ⟨b4, rfl, C3, hx4, hb4⟩ := hcut
  have D3 := C1.ext hx4
  have B3 := hB1.ext hx4
  have hE3 := hE.trans hx4
  have M3 := hM1.ext hx4
  have hb4m : b4 ≠ mh := by have := hE.size; omega
  clear C1 hB1 hE KL KC hx4 HL
  go_wp2_with fail
  have hwr : IntKind.i64.wrap (x.2 + 1) = x.2 + 1 := by rw [IntKind.wrap_i64]; omega
  have KC : Hid (∀ w', Gr (some mh) wc w' → (∀ o, w'.cell? ⟨w.heap.size, o, none⟩ = (Rc.mk 1 txn prev page cell old new next).cs[o]?) ∧ w'.cell? ⟨pb, 13, none⟩ = some (.map (some mh)) ∧ (∀ o, w'.cell? ⟨b4, o, none⟩ = #[.int .i64 x.1, .int .i64 x.2][o]?)) := fun w' e => ⟨(D3.gr e (by simpa using hRne)).cell, by rw [(B3.gr e (by simpa using hne)).cell]; exact h13, (C3.gr e (by simpa using hb4m)).cell⟩
  refine wp_region_held_drew (S := fun w' => Gr (some mh) wc w' ∧ (∀ o, w'.cell? ⟨w.heap.size, o, none⟩ = (Rc.mk 1 txn prev page cell old new next).cs[o]?) ∧ w'.cell? ⟨pb, 13, none⟩ = some (.map (some mh)) ∧ (∀ o, w'.cell? ⟨b4, o, none⟩ = #[.int .i64 x.1, .int .i64 x.2][o]?)) (by kernel_rfl) ⟨(Gr.refl (some mh) wc).drew, KC.out _ (Gr.refl (some mh) wc).drew⟩ (fun hHeld => ?_)
  refine tkn 0 rfl hHeld ?_
  simp only [Act.put]
  refine tkn 1 rfl hHeld ?_
  simp only [Act.put]
  refine tkn 2 rfl hHeld ?_
  simp only [Act.put]
  refine tkn 3 rfl hHeld ?_
  simp only [Act.put]
  refine tkn 4 rfl hHeld ?_
  simp only [Act.put]
  refine tkn 6 rfl hHeld ?_
  simp only [Act.put]
  refine tkn 7 rfl hHeld ?_
  simp only [Act.put]
  refine tkn 8 rfl hHeld ?_
  simp only [Act.put]
  refine tkn 9 rfl hHeld ?_
  simp only [Act.put]
  refine tkn 10 rfl hHeld ?_
  simp only [Act.put]
  refine tkn 11 rfl hHeld ?_
  simp only [Act.put]
  refine exn 5 rfl fun K hK => ?_
  go_simp
  refine (placeOf_any (Rc.mk 1 txn prev page cell old new next) _).mono ?_
  rintro e w2 ⟨rfl, hw2⟩
  have hy : Gr (some mh) wc w2 := hHeld.1.ext hw2
  have M4 := (M3.ext (Ext.refl wc).drew).ext hw2
  go_wp2_with fail
  clear hHeld
  refine hK.out _ _ ⟨hy, KC.out _ hy⟩ (fun hHeld => ?_)
  clear hK K
  obtain ⟨w3, hr3, hm3, ho3⟩ := run_putP M4 (page, cell) (hoVal (txn, x.2 + 1))
  refine exn 12 rfl fun K hK => ?_
  go_simp
  have hz := hy.trans (Gr.of_only ho3)
  refine hK.out _ _ ⟨hz, KC.out _ hz⟩ (fun hHeld => ?_)
  clear hK K
  refine wpAnyH_done (by kernel_rfl) ?_ _
  clear KC hHeld
  go_end0
  refine ⟨rfl, (Gr.of_ext hE3).trans hz, ?_⟩
  rw [HG.out, ← putH_eq]
  exact hm3
theorem hold_3 (pc : Array Value) (mh pb : Nat) (ho : List HE) (txn prev page cell old new next : Int) (w : World) (hB : Blk w pb pc 134) (h13 : pc[13]? = some (.map (some mh))) (hM : MapAt keyP w mh (ho.map hoEnt)) (hne : pb ≠ mh)
  (h1 : 0 < (lookH ho (page, cell)).2) (h2 : (lookH ho (page, cell)).2 < 1000) :
  Calls Tryz.prog 176 #[.pointer (some ⟨pb, 0, none⟩), (Rc.mk 3 txn prev page cell old new next).val] w fun e w' => e = .returned (.tuple #[]) ∧ Gr (some mh) w w' ∧ MapAt keyP w' mh ((letGoH ho (page, cell)).map hoEnt) := by
 go_enter Tryz.func176, Tryz.ntmps176
 go_wp2_with fail
 refine (letGo_any pc mh pb ho ⟨3, txn, prev, page, cell, old, new, next⟩ _ (hB.alloc _) h13 (hM.ext ((Ext.refl w).alloc _)) hne h1 h2).mono ?_
 rintro e w2 ⟨rfl, hw2, hm2⟩
 go_wp2_with fail
 go_end0
 exact ⟨rfl, ((Gr.refl (some mh) w).alloc _).trans hw2, hm2⟩
theorem field_stands (s last : Int) (v : Value) : ∀ w, (Instr.field 150 (txVal s last v) 2).run Tryz.prog w = .ok v w := by
 intro w
 simp [Instr.field, go_sem, part, asAgg]
theorem hold_4 (pc : Array Value) (mt mh pb base : Nat) (ho : List HE) (al : List (Int × Value)) (s last : Int) (sv : Value) (st : List Rc) (txn prev page cell old new next : Int) (w : World) (hB : Blk w pb pc 134) (h12 : pc[12]? = some (.map (some mt))) (h13 : pc[13]? = some (.map (some mh))) (hT : MapAt keyI w mt al) (hM : MapAt keyP w mh (ho.map hoEnt)) (hne : pb ≠ mh)
  (hlk : lookI al txn (txVal 0 0 (.slice none 0 0)) = txVal s last sv) (hown : w.ownsRow base 81 8 sv st.length (flat st)) (hsv : sv.ownBlock ≠ some mh) (hn : st.length ≤ 1000)
  (hpos : ∀ k, (h : k < st.length) → 0 < (lookH (letGos ho (st.take k)) (st[k].page, st[k].cell)).2 ∧ (lookH (letGos ho (st.take k)) (st[k].page, st[k].cell)).2 < 1000) :
  Calls Tryz.prog 176 #[.pointer (some ⟨pb, 0, none⟩), (Rc.mk 4 txn prev page cell old new next).val] w fun e w' => e = .returned (.tuple #[]) ∧ Gr (some mh) w w' ∧ MapAt keyP w' mh ((letGos ho st).map hoEnt) := by
 obtain ⟨a, m, cap, rfl⟩ : ∃ a m cap, sv = .slice a m cap := own_slice hown
 have hm := own_len hown
 subst hm
 have HP := (show Hid (∀ k, (h : k < st.length) → 0 < (lookH (letGos ho (st.take k)) (st[k].page, st[k].cell)).2 ∧ (lookH (letGos ho (st.take k)) (st[k].page, st[k].cell)).2 < 1000) from hpos)
 have HO := (show Hid (w.ownsRow base 81 8 (.slice a st.length cap) st.length (flat st)) from hown)
 clear hpos hown
 go_enter Tryz.func176, Tryz.ntmps176
 go_wp2_with fail
 have C1 := Blk.new w w.heap.size (Rc.mk 4 txn prev page cell old new next).cs 81 rfl
 have hE := (Ext.refl w).alloc (.cells (Rc.mk 4 txn prev page cell old new next).cs 81)
 generalize w.alloc (.cells (Rc.mk 4 txn prev page cell old new next).cs 81) = W at *
 have hB1 := hB.ext hE
 have hM1 := hM.ext hE
 have hT1 := hT.ext hE
 have hO1 : Hid (W.ownsRow base 81 8 (.slice a st.length cap) st.length (flat st)) := own_ext HO.out hE
 have KL : Hid (∀ w', Ext W w' → (Instr.lookup 131 (.map (some mt)) (.int .i64 txn) false).run Tryz.prog w' = .ok (txVal s last (.slice a st.length cap)) w') := fun w' e => by rw [run_lookI (hT1.ext e) txn]; exact congrArg (fun v => Result.ok v w') hlk
 have KC : Hid (∀ w', Ext W w' → (∀ o, w'.cell? ⟨w.heap.size, o, none⟩ = (Rc.mk 4 txn prev page cell old new next).cs[o]?) ∧ w'.cell? ⟨pb, 12, none⟩ = some (.map (some mt))) := fun w' e => ⟨(C1.ext e).cell, by rw [(hB1.ext e).cell]; exact h12⟩
 clear HO
 have KF := field_stands s last (.slice a st.length cap)
 go_region_held3 (fun w' => Ext W w' ∧ ((∀ o, w'.cell? ⟨w.heap.size, o, none⟩ = (Rc.mk 4 txn prev page cell old new next).cs[o]?) ∧ w'.cell? ⟨pb, 12, none⟩ = some (.map (some mt))) ∧ (Instr.lookup 131 (.map (some mt)) (.int .i64 txn) false).run Tryz.prog w' = .ok (txVal s last (.slice a st.length cap)) w')
   ((refine (fun e => ⟨e, KC.out _ e, KL.out _ e⟩ : Ext W _ → _) ?_; exact (Ext.refl W).drew))
   (fail)
 clear KC KL
 go_wp2_with fail
 have g0 : Gr (some mh) W W.drew := (Gr.refl _ _).drew
 go_loopw [46] (fun i wr => ∃ k : Nat, k ≤ st.length ∧ i = .int .i64 k ∧ Gr (some mh) W wr ∧ MapAt keyP wr mh ((letGos ho (st.take k)).map hoEnt)) (fun i _ => st.length - (intOf i).toNat)
 case atStart => exact ⟨0, Nat.zero_le _, rfl, g0, hM1.ext (Ext.refl W).drew⟩
 case round =>
  obtain ⟨k, hk, rfl, hg, hm⟩ := hrel
  by_cases hlt : k < st.length
  ·have hrow := own_gr hO1.out hg (fun b hb hc => hsv (by rw [hb]; exact hc))
   obtain ⟨_, ⟨he, hz⟩ | ⟨g, cap', cur, he, hbg, hblk, hc1, hc2, hsz, htk⟩⟩ := hrow
   ·omega
   ·injection he with ea eb ec
    subst ea
    clear eb ec
    obtain ⟨c0, c1, c2, c3, c4, c5, c6, c7⟩ := own_rec hblk htk k hlt
    have hp := HP.out k hlt
    have HS := (show Hid (letGos ho (st.take (k + 1)) = letGoH (letGos ho (st.take k)) (st[k].page, st[k].cell)) from letGos_take ho st k hlt)
    have hBr := hB1.gr hg (by simpa using hne)
    generalize st[k] = rk at *
    generalize letGos ho (st.take k) = hok at *
    clear hblk htk hsz hO1 HP
    go_wp2_with fail
    refine (letGo_any pc mh pb hok rk _ (hBr.alloc _) h13 (hm.ext ((Ext.refl wr).alloc _)) hne hp.1 hp.2).mono ?_
    rintro e w2 ⟨rfl, hw2, hm2⟩
    go_wp2_with fail
    go_roundw
    case rel => exact ⟨k + 1, by omega, by go_num, (hg.alloc _).trans hw2, by rw [HS.out]; exact hm2⟩
    case measure => simp [intOf]; omega
  ·have HF : Hid (st.take k = st) := List.take_of_length_le (by omega)
   go_wp2_with fail
   go_end0
   rw [HF.out] at hm
   exact ⟨rfl, (Gr.of_ext hE).trans hg, hm⟩
end Go.Proofs.YtibfgbmhmdggmaaGreatDoor.B
