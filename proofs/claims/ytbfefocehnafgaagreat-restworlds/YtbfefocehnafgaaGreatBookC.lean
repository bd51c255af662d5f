/- The walks of the book's turn: one theorem a page. The contract of the book's letGo. The contract of the book's hold. -/
import Derived.Test.YtbfefocehnafgaaGreatBookA
import Derived.Test.YtbfefocehnafgaaGreatChainA
namespace Go.Proofs.YtbfefocehnafgaaGreat.B
set_option maxRecDepth 100000
open Go.ChangeShapes Go.WideShapes Go.ChangeAt Go.RowKit

/-- The book's cells, one by one. -/
abbrev bookArr (a0 a1 a2 a3 a4 a5 a6 a7 a8 a9 a10 a11 : Int) (mt mh : Nat) (sz : Int) : Array Value := #[.int .i64 a0, .int .i64 a1, .int .i64 a2, .int .i64 a3, .int .i64 a4, .int .i64 a5, .int .i64 a6, .int .i64 a7, .int .i64 a8, .int .i64 a9, .int .i64 a10, .int .i64 a11, .map (some mt), .map (some mh), .int .i64 sz]
theorem bookArr_eq (a0 a1 a2 a3 a4 a5 a6 a7 a8 a9 a10 a11 : Int) (mt mh : Nat) (sz : Int) : bookCells [a0, a1, a2, a3, a4, a5, a6, a7, a8, a9, a10, a11] mt mh sz = bookArr a0 a1 a2 a3 a4 a5 a6 a7 a8 a9 a10 a11 mt mh sz := rfl
theorem turn_not {r : Rc} (n : Int) (pb : Nat) (w : World) (ht : turns r = false) :
    Calls Tryz.prog 114 #[.pointer (some ⟨pb, 0, none⟩), .int .i64 n, r.val] w fun e w' => e = .returned (.tuple #[]) ∧ Ext w w' := by
  have HT := (show Hid (turns r = false) from ht)
  clear ht
  go_enter Tryz.func114, Tryz.ntmps114
  go_wp2_with fail
  refine (turns_any r _).mono ?_
  rintro e w1 ⟨rfl, hw1⟩
  rw [HT.out]
  go_wp2_with fail
  (try simp only [Exit.inBlock, Exit.then])
  refine bodyPost_ret (results_none rfl _ _ _) rfl ?_
  exact ⟨rfl, ((Ext.refl w).alloc _).trans hw1⟩

set_option maxHeartbeats 1000000 in
set_option maxRecDepth 100000 in
theorem turn_0 (a0 a1 a2 a3 a4 a5 a6 a7 a8 a9 a10 a11 : Int) (mt mh pb : Nat) (sz n kind txn prev cell old new next : Int) (w : World) (hB : Blk w pb (bookArr a0 a1 a2 a3 a4 a5 a6 a7 a8 a9 a10 a11 mt mh sz) 93) (ht : turns (Rc.mk kind txn prev 0 cell old new next) = true) :
    Calls Tryz.prog 114 #[.pointer (some ⟨pb, 0, none⟩), .int .i64 n, (Rc.mk kind txn prev 0 cell old new next).val] w fun e w' => e = .returned (.tuple #[]) ∧ Gr (some pb) w w' ∧ Blk w' pb (bookArr ((setOf ⟨a0, a1, a2, a3⟩ cell new n).1.c0) ((setOf ⟨a0, a1, a2, a3⟩ cell new n).1.c1) ((setOf ⟨a0, a1, a2, a3⟩ cell new n).1.c2) ((setOf ⟨a0, a1, a2, a3⟩ cell new n).1.last) a4 a5 a6 a7 a8 a9 a10 a11 mt mh sz) 93 := by
  have HT := (show Hid (turns (Rc.mk kind txn prev 0 cell old new next) = true) from ht)
  clear ht
  go_enter Tryz.func114, Tryz.ntmps114
  go_wp2_with fail
  refine (turns_any (Rc.mk kind txn prev 0 cell old new next) _).mono ?_
  rintro e w1 ⟨rfl, hw1⟩
  rw [HT.out]
  go_wp2_with fail
  have hR := (Blk.new w w.heap.size (Rc.mk kind txn prev 0 cell old new next).cs 62 rfl).ext hw1
  have hB1 := (hB.alloc (.cells (Rc.mk kind txn prev 0 cell old new next).cs 62)).ext hw1
  have g1 : Gr (some pb) w w1 := ((Gr.refl (some pb) w).alloc _).ext hw1
  have hne : w.heap.size ≠ pb := by have := hB.lt; omega
  have KC : Hid (∀ w', Gr (some pb) w1 w' → (∀ o, w'.cell? ⟨w.heap.size, o, none⟩ = (Rc.mk kind txn prev 0 cell old new next).cs[o]?)) := fun w' e => (hR.gr e (by simpa using hne)).cell
  clear hB hw1 HT
  have c1 := hB1.cell
  have f1 := hB1.fr
  refine wp_region_held_drew (S := fun w' => Gr (some pb) w1 w' ∧ (∀ o, w'.cell? ⟨w.heap.size, o, none⟩ = (Rc.mk kind txn prev 0 cell old new next).cs[o]?)) (by kernel_rfl) ⟨(Gr.refl (some pb) w1).drew, KC.out _ (Gr.refl (some pb) w1).drew⟩ (fun hHeld => ?_)
  refine wpAnyH_take (i := 0) (v := ?v1) rfl (by kernel_rfl) (by kernel_rfl) (by kernel_rfl) (fun _ _ _ h => h) (Or.inl ⟨by rfl, ?hy1⟩) hHeld ?r1
  case hy1 => first | (intro w hSw; (try dsimp only at hSw); go_simp; done) | (intro w hSw; (try dsimp only at hSw); go_simp; with_reducible rfl)
  simp only [Act.put]
  refine wpAnyH_take (i := 1) (v := ?v2) rfl (by kernel_rfl) (by kernel_rfl) (by kernel_rfl) (fun _ _ _ h => h) (Or.inl ⟨by rfl, ?hy2⟩) hHeld ?r2
  case hy2 => first | (intro w hSw; (try dsimp only at hSw); go_simp; done) | (intro w hSw; (try dsimp only at hSw); go_simp; with_reducible rfl)
  simp only [Act.put]
  refine wpAnyH_take (i := 2) (v := ?v3) rfl (by kernel_rfl) (by kernel_rfl) (by kernel_rfl) (fun _ _ _ h => h) (Or.inl ⟨by rfl, ?hy3⟩) hHeld ?r3
  case hy3 => first | (intro w hSw; (try dsimp only at hSw); go_simp; done) | (intro w hSw; (try dsimp only at hSw); go_simp; with_reducible rfl)
  simp only [Act.put]
  refine wpAnyH_take (i := 3) (v := ?v4) rfl (by kernel_rfl) (by kernel_rfl) (by kernel_rfl) (fun _ _ _ h => h) (Or.inl ⟨by rfl, ?hy4⟩) hHeld ?r4
  case hy4 => first | (intro w hSw; (try dsimp only at hSw); go_simp; done) | (intro w hSw; (try dsimp only at hSw); go_simp; with_reducible rfl)
  simp only [Act.put]
  refine wpAnyH_take (i := 4) (v := ?v5) rfl (by kernel_rfl) (by kernel_rfl) (by kernel_rfl) (fun _ _ _ h => h) (Or.inl ⟨by rfl, ?hy5⟩) hHeld ?r5
  case hy5 => first | (intro w hSw; (try dsimp only at hSw); go_simp; done) | (intro w hSw; (try dsimp only at hSw); go_simp; with_reducible rfl)
  simp only [Act.put]
  refine wpAnyH_take (i := 5) (v := ?v6) rfl (by kernel_rfl) (by kernel_rfl) (by kernel_rfl) (fun _ _ _ h => h) (Or.inl ⟨by rfl, ?hy6⟩) hHeld ?r6
  case hy6 => first | (intro w hSw; (try dsimp only at hSw); go_simp; done) | (intro w hSw; (try dsimp only at hSw); go_simp; with_reducible rfl)
  simp only [Act.put]
  refine wpAnyH_take (i := 6) (v := ?v7) rfl (by kernel_rfl) (by kernel_rfl) (by kernel_rfl) (fun _ _ _ h => h) (Or.inl ⟨by rfl, ?hy7⟩) hHeld ?r7
  case hy7 => first | (intro w hSw; (try dsimp only at hSw); go_simp; done) | (intro w hSw; (try dsimp only at hSw); go_simp; with_reducible rfl)
  simp only [Act.put]
  refine wpAnyH_take (i := 7) (v := ?v8) rfl (by kernel_rfl) (by kernel_rfl) (by kernel_rfl) (fun _ _ _ h => h) (Or.inl ⟨by rfl, ?hy8⟩) hHeld ?r8
  case hy8 => first | (intro w hSw; (try dsimp only at hSw); go_simp; done) | (intro w hSw; (try dsimp only at hSw); go_simp; with_reducible rfl)
  simp only [Act.put]
  refine wpAnyH_take (i := 8) (v := ?v9) rfl (by kernel_rfl) (by kernel_rfl) (by kernel_rfl) (fun _ _ _ h => h) (Or.inl ⟨by rfl, ?hy9⟩) hHeld ?r9
  case hy9 => first | (intro w hSw; (try dsimp only at hSw); go_simp; done) | (intro w hSw; (try dsimp only at hSw); go_simp; with_reducible rfl)
  simp only [Act.put]
  refine wpAnyH_take (i := 10) (v := ?v10) rfl (by kernel_rfl) (by kernel_rfl) (by kernel_rfl) (fun _ _ _ h => h) (Or.inl ⟨by rfl, ?hy10⟩) hHeld ?r10
  case hy10 => first | (intro w hSw; (try dsimp only at hSw); go_simp; done) | (intro w hSw; (try dsimp only at hSw); go_simp; with_reducible rfl)
  simp only [Act.put]
  refine wpAnyH_take (i := 11) (v := ?v11) rfl (by kernel_rfl) (by kernel_rfl) (by kernel_rfl) (fun _ _ _ h => h) (Or.inl ⟨by rfl, ?hy11⟩) hHeld ?r11
  case hy11 => first | (intro w hSw; (try dsimp only at hSw); go_simp; done) | (intro w hSw; (try dsimp only at hSw); go_simp; with_reducible rfl)
  simp only [Act.put]
  refine wpAnyH_take (i := 12) (v := ?v12) rfl (by kernel_rfl) (by kernel_rfl) (by kernel_rfl) (fun _ _ _ h => h) (Or.inl ⟨by rfl, ?hy12⟩) hHeld ?r12
  case hy12 => first | (intro w hSw; (try dsimp only at hSw); go_simp; done) | (intro w hSw; (try dsimp only at hSw); go_simp; with_reducible rfl)
  simp only [Act.put]
  refine wpAnyH_take (i := 13) (v := ?v13) rfl (by kernel_rfl) (by kernel_rfl) (by kernel_rfl) (fun _ _ _ h => h) (Or.inl ⟨by rfl, ?hy13⟩) hHeld ?r13
  case hy13 => first | (intro w hSw; (try dsimp only at hSw); go_simp; done) | (intro w hSw; (try dsimp only at hSw); go_simp; with_reducible rfl)
  simp only [Act.put]
  refine wpAnyH_take (i := 14) (v := ?v14) rfl (by kernel_rfl) (by kernel_rfl) (by kernel_rfl) (fun _ _ _ h => h) (Or.inl ⟨by rfl, ?hy14⟩) hHeld ?r14
  case hy14 => first | (intro w hSw; (try dsimp only at hSw); go_simp; done) | (intro w hSw; (try dsimp only at hSw); go_simp; with_reducible rfl)
  simp only [Act.put]
  refine wpAnyH_take (i := 19) (v := ?v15) rfl (by kernel_rfl) (by kernel_rfl) (by kernel_rfl) (fun _ _ _ h => h) (Or.inl ⟨by rfl, ?hy15⟩) hHeld ?r15
  case hy15 => first | (intro w hSw; (try dsimp only at hSw); go_simp; done) | (intro w hSw; (try dsimp only at hSw); go_simp; with_reducible rfl)
  simp only [Act.put]
  refine wpAnyH_take (i := 20) (v := ?v16) rfl (by kernel_rfl) (by kernel_rfl) (by kernel_rfl) (fun _ _ _ h => h) (Or.inl ⟨by rfl, ?hy16⟩) hHeld ?r16
  case hy16 => first | (intro w hSw; (try dsimp only at hSw); go_simp; done) | (intro w hSw; (try dsimp only at hSw); go_simp; with_reducible rfl)
  simp only [Act.put]
  refine wpAnyH_ready (rs := [9]) (by kernel_rfl) (by simp) ?_
  refine AllReadyH.cons rfl (fun K hK => ?_) AllReadyH.nil
  go_simp
  refine hK.out _ _ hHeld (fun hHeld => ?_)
  clear hK K
  refine wpAnyH_ready (rs := [15]) (by kernel_rfl) (by simp) ?_
  refine AllReadyH.cons rfl (fun K hK => ?_) AllReadyH.nil
  go_simp
  refine (set_any ⟨a0, a1, a2, a3⟩ cell new n _).mono ?_
  rintro e w2 ⟨rfl, hw2⟩
  have hy : Gr (some pb) w1 w2 := hHeld.1.ext hw2
  have D := (Blk.drew hB1).ext hw2
  have dc := D.cell
  have df := D.fr
  go_wp2_with fail
  clear hHeld
  refine hK.out _ _ ⟨hy, KC.out _ hy⟩ (fun hHeld => ?_)
  clear hK K
  refine wpAnyH_take (i := 16) (v := ?v17) rfl (by kernel_rfl) (by kernel_rfl) (by kernel_rfl) (fun _ _ _ h => h) (Or.inl ⟨by rfl, ?hy17⟩) hHeld ?r17
  case hy17 => first | (intro w hSw; (try dsimp only at hSw); go_simp; done) | (intro w hSw; (try dsimp only at hSw); go_simp; with_reducible rfl)
  simp only [Act.put]
  refine wpAnyH_take (i := 17) (v := ?v18) rfl (by kernel_rfl) (by kernel_rfl) (by kernel_rfl) (fun _ _ _ h => h) (Or.inl ⟨by rfl, ?hy18⟩) hHeld ?r18
  case hy18 => first | (intro w hSw; (try dsimp only at hSw); go_simp; done) | (intro w hSw; (try dsimp only at hSw); go_simp; with_reducible rfl)
  simp only [Act.put]
  refine wpAnyH_take (i := 18) (v := ?v19) rfl (by kernel_rfl) (by kernel_rfl) (by kernel_rfl) (fun _ _ _ h => h) (Or.inl ⟨by rfl, ?hy19⟩) hHeld ?r19
  case hy19 => first | (intro w hSw; (try dsimp only at hSw); go_simp; done) | (intro w hSw; (try dsimp only at hSw); go_simp; with_reducible rfl)
  simp only [Act.put]
  refine wpAnyH_take (i := 21) (v := ?v20) rfl (by kernel_rfl) (by kernel_rfl) (by kernel_rfl) (fun _ _ _ h => h) (Or.inl ⟨by rfl, ?hy20⟩) hHeld ?r20
  case hy20 => first | (intro w hSw; (try dsimp only at hSw); go_simp; done) | (intro w hSw; (try dsimp only at hSw); go_simp; with_reducible rfl)
  simp only [Act.put]
  refine wpAnyH_ready (rs := [22]) (by kernel_rfl) (by simp) ?_
  refine AllReadyH.cons rfl (fun K hK => ?_) AllReadyH.nil
  go_simp
  have hz := fun (u0 u1 u2 u3 : Value) => (((hy.set (p := ⟨pb, 0, none⟩) (Or.inr rfl) u0).set (p := ⟨pb, 1, none⟩) (Or.inr rfl) u1).set (p := ⟨pb, 2, none⟩) (Or.inr rfl) u2).set (p := ⟨pb, 3, none⟩) (Or.inr rfl) u3
  refine hK.out _ _ ⟨hz _ _ _ _, KC.out _ (hz _ _ _ _)⟩ (fun hHeld => ?_)
  clear hK K
  refine wpAnyH_done (by kernel_rfl) ?_ _
  clear KC hHeld dc df c1 f1
  go_end0
  exact ⟨rfl, g1.trans (hz _ _ _ _), (((D.set 0 _).set 1 _).set 2 _).set 3 _⟩

set_option maxHeartbeats 1000000 in
set_option maxRecDepth 100000 in
theorem turn_1 (a0 a1 a2 a3 a4 a5 a6 a7 a8 a9 a10 a11 : Int) (mt mh pb : Nat) (sz n kind txn prev cell old new next : Int) (w : World) (hB : Blk w pb (bookArr a0 a1 a2 a3 a4 a5 a6 a7 a8 a9 a10 a11 mt mh sz) 93) (ht : turns (Rc.mk kind txn prev 1 cell old new next) = true) :
    Calls Tryz.prog 114 #[.pointer (some ⟨pb, 0, none⟩), .int .i64 n, (Rc.mk kind txn prev 1 cell old new next).val] w fun e w' => e = .returned (.tuple #[]) ∧ Gr (some pb) w w' ∧ Blk w' pb (bookArr a0 a1 a2 a3 ((setOf ⟨a4, a5, a6, a7⟩ cell new n).1.c0) ((setOf ⟨a4, a5, a6, a7⟩ cell new n).1.c1) ((setOf ⟨a4, a5, a6, a7⟩ cell new n).1.c2) ((setOf ⟨a4, a5, a6, a7⟩ cell new n).1.last) a8 a9 a10 a11 mt mh sz) 93 := by
  have HT := (show Hid (turns (Rc.mk kind txn prev 1 cell old new next) = true) from ht)
  clear ht
  go_enter Tryz.func114, Tryz.ntmps114
  go_wp2_with fail
  refine (turns_any (Rc.mk kind txn prev 1 cell old new next) _).mono ?_
  rintro e w1 ⟨rfl, hw1⟩
  rw [HT.out]
  go_wp2_with fail
  have hR := (Blk.new w w.heap.size (Rc.mk kind txn prev 1 cell old new next).cs 62 rfl).ext hw1
  have hB1 := (hB.alloc (.cells (Rc.mk kind txn prev 1 cell old new next).cs 62)).ext hw1
  have g1 : Gr (some pb) w w1 := ((Gr.refl (some pb) w).alloc _).ext hw1
  have hne : w.heap.size ≠ pb := by have := hB.lt; omega
  have KC : Hid (∀ w', Gr (some pb) w1 w' → (∀ o, w'.cell? ⟨w.heap.size, o, none⟩ = (Rc.mk kind txn prev 1 cell old new next).cs[o]?)) := fun w' e => (hR.gr e (by simpa using hne)).cell
  clear hB hw1 HT
  have c1 := hB1.cell
  have f1 := hB1.fr
  refine wp_region_held_drew (S := fun w' => Gr (some pb) w1 w' ∧ (∀ o, w'.cell? ⟨w.heap.size, o, none⟩ = (Rc.mk kind txn prev 1 cell old new next).cs[o]?)) (by kernel_rfl) ⟨(Gr.refl (some pb) w1).drew, KC.out _ (Gr.refl (some pb) w1).drew⟩ (fun hHeld => ?_)
  refine wpAnyH_take (i := 0) (v := ?v21) rfl (by kernel_rfl) (by kernel_rfl) (by kernel_rfl) (fun _ _ _ h => h) (Or.inl ⟨by rfl, ?hy21⟩) hHeld ?r21
  case hy21 => first | (intro w hSw; (try dsimp only at hSw); go_simp; done) | (intro w hSw; (try dsimp only at hSw); go_simp; with_reducible rfl)
  simp only [Act.put]
  refine wpAnyH_take (i := 1) (v := ?v22) rfl (by kernel_rfl) (by kernel_rfl) (by kernel_rfl) (fun _ _ _ h => h) (Or.inl ⟨by rfl, ?hy22⟩) hHeld ?r22
  case hy22 => first | (intro w hSw; (try dsimp only at hSw); go_simp; done) | (intro w hSw; (try dsimp only at hSw); go_simp; with_reducible rfl)
  simp only [Act.put]
  refine wpAnyH_take (i := 2) (v := ?v23) rfl (by kernel_rfl) (by kernel_rfl) (by kernel_rfl) (fun _ _ _ h => h) (Or.inl ⟨by rfl, ?hy23⟩) hHeld ?r23
  case hy23 => first | (intro w hSw; (try dsimp only at hSw); go_simp; done) | (intro w hSw; (try dsimp only at hSw); go_simp; with_reducible rfl)
  simp only [Act.put]
  refine wpAnyH_take (i := 3) (v := ?v24) rfl (by kernel_rfl) (by kernel_rfl) (by kernel_rfl) (fun _ _ _ h => h) (Or.inl ⟨by rfl, ?hy24⟩) hHeld ?r24
  case hy24 => first | (intro w hSw; (try dsimp only at hSw); go_simp; done) | (intro w hSw; (try dsimp only at hSw); go_simp; with_reducible rfl)
  simp only [Act.put]
  refine wpAnyH_take (i := 4) (v := ?v25) rfl (by kernel_rfl) (by kernel_rfl) (by kernel_rfl) (fun _ _ _ h => h) (Or.inl ⟨by rfl, ?hy25⟩) hHeld ?r25
  case hy25 => first | (intro w hSw; (try dsimp only at hSw); go_simp; done) | (intro w hSw; (try dsimp only at hSw); go_simp; with_reducible rfl)
  simp only [Act.put]
  refine wpAnyH_take (i := 5) (v := ?v26) rfl (by kernel_rfl) (by kernel_rfl) (by kernel_rfl) (fun _ _ _ h => h) (Or.inl ⟨by rfl, ?hy26⟩) hHeld ?r26
  case hy26 => first | (intro w hSw; (try dsimp only at hSw); go_simp; done) | (intro w hSw; (try dsimp only at hSw); go_simp; with_reducible rfl)
  simp only [Act.put]
  refine wpAnyH_take (i := 6) (v := ?v27) rfl (by kernel_rfl) (by kernel_rfl) (by kernel_rfl) (fun _ _ _ h => h) (Or.inl ⟨by rfl, ?hy27⟩) hHeld ?r27
  case hy27 => first | (intro w hSw; (try dsimp only at hSw); go_simp; done) | (intro w hSw; (try dsimp only at hSw); go_simp; with_reducible rfl)
  simp only [Act.put]
  refine wpAnyH_take (i := 7) (v := ?v28) rfl (by kernel_rfl) (by kernel_rfl) (by kernel_rfl) (fun _ _ _ h => h) (Or.inl ⟨by rfl, ?hy28⟩) hHeld ?r28
  case hy28 => first | (intro w hSw; (try dsimp only at hSw); go_simp; done) | (intro w hSw; (try dsimp only at hSw); go_simp; with_reducible rfl)
  simp only [Act.put]
  refine wpAnyH_take (i := 8) (v := ?v29) rfl (by kernel_rfl) (by kernel_rfl) (by kernel_rfl) (fun _ _ _ h => h) (Or.inl ⟨by rfl, ?hy29⟩) hHeld ?r29
  case hy29 => first | (intro w hSw; (try dsimp only at hSw); go_simp; done) | (intro w hSw; (try dsimp only at hSw); go_simp; with_reducible rfl)
  simp only [Act.put]
  refine wpAnyH_take (i := 10) (v := ?v30) rfl (by kernel_rfl) (by kernel_rfl) (by kernel_rfl) (fun _ _ _ h => h) (Or.inl ⟨by rfl, ?hy30⟩) hHeld ?r30
  case hy30 => first | (intro w hSw; (try dsimp only at hSw); go_simp; done) | (intro w hSw; (try dsimp only at hSw); go_simp; with_reducible rfl)
  simp only [Act.put]
  refine wpAnyH_take (i := 11) (v := ?v31) rfl (by kernel_rfl) (by kernel_rfl) (by kernel_rfl) (fun _ _ _ h => h) (Or.inl ⟨by rfl, ?hy31⟩) hHeld ?r31
  case hy31 => first | (intro w hSw; (try dsimp only at hSw); go_simp; done) | (intro w hSw; (try dsimp only at hSw); go_simp; with_reducible rfl)
  simp only [Act.put]
  refine wpAnyH_take (i := 12) (v := ?v32) rfl (by kernel_rfl) (by kernel_rfl) (by kernel_rfl) (fun _ _ _ h => h) (Or.inl ⟨by rfl, ?hy32⟩) hHeld ?r32
  case hy32 => first | (intro w hSw; (try dsimp only at hSw); go_simp; done) | (intro w hSw; (try dsimp only at hSw); go_simp; with_reducible rfl)
  simp only [Act.put]
  refine wpAnyH_take (i := 13) (v := ?v33) rfl (by kernel_rfl) (by kernel_rfl) (by kernel_rfl) (fun _ _ _ h => h) (Or.inl ⟨by rfl, ?hy33⟩) hHeld ?r33
  case hy33 => first | (intro w hSw; (try dsimp only at hSw); go_simp; done) | (intro w hSw; (try dsimp only at hSw); go_simp; with_reducible rfl)
  simp only [Act.put]
  refine wpAnyH_take (i := 14) (v := ?v34) rfl (by kernel_rfl) (by kernel_rfl) (by kernel_rfl) (fun _ _ _ h => h) (Or.inl ⟨by rfl, ?hy34⟩) hHeld ?r34
  case hy34 => first | (intro w hSw; (try dsimp only at hSw); go_simp; done) | (intro w hSw; (try dsimp only at hSw); go_simp; with_reducible rfl)
  simp only [Act.put]
  refine wpAnyH_take (i := 19) (v := ?v35) rfl (by kernel_rfl) (by kernel_rfl) (by kernel_rfl) (fun _ _ _ h => h) (Or.inl ⟨by rfl, ?hy35⟩) hHeld ?r35
  case hy35 => first | (intro w hSw; (try dsimp only at hSw); go_simp; done) | (intro w hSw; (try dsimp only at hSw); go_simp; with_reducible rfl)
  simp only [Act.put]
  refine wpAnyH_take (i := 20) (v := ?v36) rfl (by kernel_rfl) (by kernel_rfl) (by kernel_rfl) (fun _ _ _ h => h) (Or.inl ⟨by rfl, ?hy36⟩) hHeld ?r36
  case hy36 => first | (intro w hSw; (try dsimp only at hSw); go_simp; done) | (intro w hSw; (try dsimp only at hSw); go_simp; with_reducible rfl)
  simp only [Act.put]
  refine wpAnyH_ready (rs := [9]) (by kernel_rfl) (by simp) ?_
  refine AllReadyH.cons rfl (fun K hK => ?_) AllReadyH.nil
  go_simp
  refine hK.out _ _ hHeld (fun hHeld => ?_)
  clear hK K
  refine wpAnyH_ready (rs := [15]) (by kernel_rfl) (by simp) ?_
  refine AllReadyH.cons rfl (fun K hK => ?_) AllReadyH.nil
  go_simp
  refine (set_any ⟨a4, a5, a6, a7⟩ cell new n _).mono ?_
  rintro e w2 ⟨rfl, hw2⟩
  have hy : Gr (some pb) w1 w2 := hHeld.1.ext hw2
  have D := (Blk.drew hB1).ext hw2
  have dc := D.cell
  have df := D.fr
  go_wp2_with fail
  clear hHeld
  refine hK.out _ _ ⟨hy, KC.out _ hy⟩ (fun hHeld => ?_)
  clear hK K
  refine wpAnyH_take (i := 16) (v := ?v37) rfl (by kernel_rfl) (by kernel_rfl) (by kernel_rfl) (fun _ _ _ h => h) (Or.inl ⟨by rfl, ?hy37⟩) hHeld ?r37
  case hy37 => first | (intro w hSw; (try dsimp only at hSw); go_simp; done) | (intro w hSw; (try dsimp only at hSw); go_simp; with_reducible rfl)
  simp only [Act.put]
  refine wpAnyH_take (i := 17) (v := ?v38) rfl (by kernel_rfl) (by kernel_rfl) (by kernel_rfl) (fun _ _ _ h => h) (Or.inl ⟨by rfl, ?hy38⟩) hHeld ?r38
  case hy38 => first | (intro w hSw; (try dsimp only at hSw); go_simp; done) | (intro w hSw; (try dsimp only at hSw); go_simp; with_reducible rfl)
  simp only [Act.put]
  refine wpAnyH_take (i := 18) (v := ?v39) rfl (by kernel_rfl) (by kernel_rfl) (by kernel_rfl) (fun _ _ _ h => h) (Or.inl ⟨by rfl, ?hy39⟩) hHeld ?r39
  case hy39 => first | (intro w hSw; (try dsimp only at hSw); go_simp; done) | (intro w hSw; (try dsimp only at hSw); go_simp; with_reducible rfl)
  simp only [Act.put]
  refine wpAnyH_take (i := 21) (v := ?v40) rfl (by kernel_rfl) (by kernel_rfl) (by kernel_rfl) (fun _ _ _ h => h) (Or.inl ⟨by rfl, ?hy40⟩) hHeld ?r40
  case hy40 => first | (intro w hSw; (try dsimp only at hSw); go_simp; done) | (intro w hSw; (try dsimp only at hSw); go_simp; with_reducible rfl)
  simp only [Act.put]
  refine wpAnyH_ready (rs := [22]) (by kernel_rfl) (by simp) ?_
  refine AllReadyH.cons rfl (fun K hK => ?_) AllReadyH.nil
  go_simp
  have hz := fun (u0 u1 u2 u3 : Value) => (((hy.set (p := ⟨pb, 4, none⟩) (Or.inr rfl) u0).set (p := ⟨pb, 5, none⟩) (Or.inr rfl) u1).set (p := ⟨pb, 6, none⟩) (Or.inr rfl) u2).set (p := ⟨pb, 7, none⟩) (Or.inr rfl) u3
  refine hK.out _ _ ⟨hz _ _ _ _, KC.out _ (hz _ _ _ _)⟩ (fun hHeld => ?_)
  clear hK K
  refine wpAnyH_done (by kernel_rfl) ?_ _
  clear KC hHeld dc df c1 f1
  go_end0
  exact ⟨rfl, g1.trans (hz _ _ _ _), (((D.set 4 _).set 5 _).set 6 _).set 7 _⟩

set_option maxHeartbeats 1000000 in
set_option maxRecDepth 100000 in
theorem turn_2 (a0 a1 a2 a3 a4 a5 a6 a7 a8 a9 a10 a11 : Int) (mt mh pb : Nat) (sz n kind txn prev cell old new next : Int) (w : World) (hB : Blk w pb (bookArr a0 a1 a2 a3 a4 a5 a6 a7 a8 a9 a10 a11 mt mh sz) 93) (ht : turns (Rc.mk kind txn prev 2 cell old new next) = true) :
    Calls Tryz.prog 114 #[.pointer (some ⟨pb, 0, none⟩), .int .i64 n, (Rc.mk kind txn prev 2 cell old new next).val] w fun e w' => e = .returned (.tuple #[]) ∧ Gr (some pb) w w' ∧ Blk w' pb (bookArr a0 a1 a2 a3 a4 a5 a6 a7 ((setOf ⟨a8, a9, a10, a11⟩ cell new n).1.c0) ((setOf ⟨a8, a9, a10, a11⟩ cell new n).1.c1) ((setOf ⟨a8, a9, a10, a11⟩ cell new n).1.c2) ((setOf ⟨a8, a9, a10, a11⟩ cell new n).1.last) mt mh sz) 93 := by
  have HT := (show Hid (turns (Rc.mk kind txn prev 2 cell old new next) = true) from ht)
  clear ht
  go_enter Tryz.func114, Tryz.ntmps114
  go_wp2_with fail
  refine (turns_any (Rc.mk kind txn prev 2 cell old new next) _).mono ?_
  rintro e w1 ⟨rfl, hw1⟩
  rw [HT.out]
  go_wp2_with fail
  have hR := (Blk.new w w.heap.size (Rc.mk kind txn prev 2 cell old new next).cs 62 rfl).ext hw1
  have hB1 := (hB.alloc (.cells (Rc.mk kind txn prev 2 cell old new next).cs 62)).ext hw1
  have g1 : Gr (some pb) w w1 := ((Gr.refl (some pb) w).alloc _).ext hw1
  have hne : w.heap.size ≠ pb := by have := hB.lt; omega
  have KC : Hid (∀ w', Gr (some pb) w1 w' → (∀ o, w'.cell? ⟨w.heap.size, o, none⟩ = (Rc.mk kind txn prev 2 cell old new next).cs[o]?)) := fun w' e => (hR.gr e (by simpa using hne)).cell
  clear hB hw1 HT
  have c1 := hB1.cell
  have f1 := hB1.fr
  refine wp_region_held_drew (S := fun w' => Gr (some pb) w1 w' ∧ (∀ o, w'.cell? ⟨w.heap.size, o, none⟩ = (Rc.mk kind txn prev 2 cell old new next).cs[o]?)) (by kernel_rfl) ⟨(Gr.refl (some pb) w1).drew, KC.out _ (Gr.refl (some pb) w1).drew⟩ (fun hHeld => ?_)
  refine wpAnyH_take (i := 0) (v := ?v41) rfl (by kernel_rfl) (by kernel_rfl) (by kernel_rfl) (fun _ _ _ h => h) (Or.inl ⟨by rfl, ?hy41⟩) hHeld ?r41
  case hy41 => first | (intro w hSw; (try dsimp only at hSw); go_simp; done) | (intro w hSw; (try dsimp only at hSw); go_simp; with_reducible rfl)
  simp only [Act.put]
  refine wpAnyH_take (i := 1) (v := ?v42) rfl (by kernel_rfl) (by kernel_rfl) (by kernel_rfl) (fun _ _ _ h => h) (Or.inl ⟨by rfl, ?hy42⟩) hHeld ?r42
  case hy42 => first | (intro w hSw; (try dsimp only at hSw); go_simp; done) | (intro w hSw; (try dsimp only at hSw); go_simp; with_reducible rfl)
  simp only [Act.put]
  refine wpAnyH_take (i := 2) (v := ?v43) rfl (by kernel_rfl) (by kernel_rfl) (by kernel_rfl) (fun _ _ _ h => h) (Or.inl ⟨by rfl, ?hy43⟩) hHeld ?r43
  case hy43 => first | (intro w hSw; (try dsimp only at hSw); go_simp; done) | (intro w hSw; (try dsimp only at hSw); go_simp; with_reducible rfl)
  simp only [Act.put]
  refine wpAnyH_take (i := 3) (v := ?v44) rfl (by kernel_rfl) (by kernel_rfl) (by kernel_rfl) (fun _ _ _ h => h) (Or.inl ⟨by rfl, ?hy44⟩) hHeld ?r44
  case hy44 => first | (intro w hSw; (try dsimp only at hSw); go_simp; done) | (intro w hSw; (try dsimp only at hSw); go_simp; with_reducible rfl)
  simp only [Act.put]
  refine wpAnyH_take (i := 4) (v := ?v45) rfl (by kernel_rfl) (by kernel_rfl) (by kernel_rfl) (fun _ _ _ h => h) (Or.inl ⟨by rfl, ?hy45⟩) hHeld ?r45
  case hy45 => first | (intro w hSw; (try dsimp only at hSw); go_simp; done) | (intro w hSw; (try dsimp only at hSw); go_simp; with_reducible rfl)
  simp only [Act.put]
  refine wpAnyH_take (i := 5) (v := ?v46) rfl (by kernel_rfl) (by kernel_rfl) (by kernel_rfl) (fun _ _ _ h => h) (Or.inl ⟨by rfl, ?hy46⟩) hHeld ?r46
  case hy46 => first | (intro w hSw; (try dsimp only at hSw); go_simp; done) | (intro w hSw; (try dsimp only at hSw); go_simp; with_reducible rfl)
  simp only [Act.put]
  refine wpAnyH_take (i := 6) (v := ?v47) rfl (by kernel_rfl) (by kernel_rfl) (by kernel_rfl) (fun _ _ _ h => h) (Or.inl ⟨by rfl, ?hy47⟩) hHeld ?r47
  case hy47 => first | (intro w hSw; (try dsimp only at hSw); go_simp; done) | (intro w hSw; (try dsimp only at hSw); go_simp; with_reducible rfl)
  simp only [Act.put]
  refine wpAnyH_take (i := 7) (v := ?v48) rfl (by kernel_rfl) (by kernel_rfl) (by kernel_rfl) (fun _ _ _ h => h) (Or.inl ⟨by rfl, ?hy48⟩) hHeld ?r48
  case hy48 => first | (intro w hSw; (try dsimp only at hSw); go_simp; done) | (intro w hSw; (try dsimp only at hSw); go_simp; with_reducible rfl)
  simp only [Act.put]
  refine wpAnyH_take (i := 8) (v := ?v49) rfl (by kernel_rfl) (by kernel_rfl) (by kernel_rfl) (fun _ _ _ h => h) (Or.inl ⟨by rfl, ?hy49⟩) hHeld ?r49
  case hy49 => first | (intro w hSw; (try dsimp only at hSw); go_simp; done) | (intro w hSw; (try dsimp only at hSw); go_simp; with_reducible rfl)
  simp only [Act.put]
  refine wpAnyH_take (i := 10) (v := ?v50) rfl (by kernel_rfl) (by kernel_rfl) (by kernel_rfl) (fun _ _ _ h => h) (Or.inl ⟨by rfl, ?hy50⟩) hHeld ?r50
  case hy50 => first | (intro w hSw; (try dsimp only at hSw); go_simp; done) | (intro w hSw; (try dsimp only at hSw); go_simp; with_reducible rfl)
  simp only [Act.put]
  refine wpAnyH_take (i := 11) (v := ?v51) rfl (by kernel_rfl) (by kernel_rfl) (by kernel_rfl) (fun _ _ _ h => h) (Or.inl ⟨by rfl, ?hy51⟩) hHeld ?r51
  case hy51 => first | (intro w hSw; (try dsimp only at hSw); go_simp; done) | (intro w hSw; (try dsimp only at hSw); go_simp; with_reducible rfl)
  simp only [Act.put]
  refine wpAnyH_take (i := 12) (v := ?v52) rfl (by kernel_rfl) (by kernel_rfl) (by kernel_rfl) (fun _ _ _ h => h) (Or.inl ⟨by rfl, ?hy52⟩) hHeld ?r52
  case hy52 => first | (intro w hSw; (try dsimp only at hSw); go_simp; done) | (intro w hSw; (try dsimp only at hSw); go_simp; with_reducible rfl)
  simp only [Act.put]
  refine wpAnyH_take (i := 13) (v := ?v53) rfl (by kernel_rfl) (by kernel_rfl) (by kernel_rfl) (fun _ _ _ h => h) (Or.inl ⟨by rfl, ?hy53⟩) hHeld ?r53
  case hy53 => first | (intro w hSw; (try dsimp only at hSw); go_simp; done) | (intro w hSw; (try dsimp only at hSw); go_simp; with_reducible rfl)
  simp only [Act.put]
  refine wpAnyH_take (i := 14) (v := ?v54) rfl (by kernel_rfl) (by kernel_rfl) (by kernel_rfl) (fun _ _ _ h => h) (Or.inl ⟨by rfl, ?hy54⟩) hHeld ?r54
  case hy54 => first | (intro w hSw; (try dsimp only at hSw); go_simp; done) | (intro w hSw; (try dsimp only at hSw); go_simp; with_reducible rfl)
  simp only [Act.put]
  refine wpAnyH_take (i := 19) (v := ?v55) rfl (by kernel_rfl) (by kernel_rfl) (by kernel_rfl) (fun _ _ _ h => h) (Or.inl ⟨by rfl, ?hy55⟩) hHeld ?r55
  case hy55 => first | (intro w hSw; (try dsimp only at hSw); go_simp; done) | (intro w hSw; (try dsimp only at hSw); go_simp; with_reducible rfl)
  simp only [Act.put]
  refine wpAnyH_take (i := 20) (v := ?v56) rfl (by kernel_rfl) (by kernel_rfl) (by kernel_rfl) (fun _ _ _ h => h) (Or.inl ⟨by rfl, ?hy56⟩) hHeld ?r56
  case hy56 => first | (intro w hSw; (try dsimp only at hSw); go_simp; done) | (intro w hSw; (try dsimp only at hSw); go_simp; with_reducible rfl)
  simp only [Act.put]
  refine wpAnyH_ready (rs := [9]) (by kernel_rfl) (by simp) ?_
  refine AllReadyH.cons rfl (fun K hK => ?_) AllReadyH.nil
  go_simp
  refine hK.out _ _ hHeld (fun hHeld => ?_)
  clear hK K
  refine wpAnyH_ready (rs := [15]) (by kernel_rfl) (by simp) ?_
  refine AllReadyH.cons rfl (fun K hK => ?_) AllReadyH.nil
  go_simp
  refine (set_any ⟨a8, a9, a10, a11⟩ cell new n _).mono ?_
  rintro e w2 ⟨rfl, hw2⟩
  have hy : Gr (some pb) w1 w2 := hHeld.1.ext hw2
  have D := (Blk.drew hB1).ext hw2
  have dc := D.cell
  have df := D.fr
  go_wp2_with fail
  clear hHeld
  refine hK.out _ _ ⟨hy, KC.out _ hy⟩ (fun hHeld => ?_)
  clear hK K
  refine wpAnyH_take (i := 16) (v := ?v57) rfl (by kernel_rfl) (by kernel_rfl) (by kernel_rfl) (fun _ _ _ h => h) (Or.inl ⟨by rfl, ?hy57⟩) hHeld ?r57
  case hy57 => first | (intro w hSw; (try dsimp only at hSw); go_simp; done) | (intro w hSw; (try dsimp only at hSw); go_simp; with_reducible rfl)
  simp only [Act.put]
  refine wpAnyH_take (i := 17) (v := ?v58) rfl (by kernel_rfl) (by kernel_rfl) (by kernel_rfl) (fun _ _ _ h => h) (Or.inl ⟨by rfl, ?hy58⟩) hHeld ?r58
  case hy58 => first | (intro w hSw; (try dsimp only at hSw); go_simp; done) | (intro w hSw; (try dsimp only at hSw); go_simp; with_reducible rfl)
  simp only [Act.put]
  refine wpAnyH_take (i := 18) (v := ?v59) rfl (by kernel_rfl) (by kernel_rfl) (by kernel_rfl) (fun _ _ _ h => h) (Or.inl ⟨by rfl, ?hy59⟩) hHeld ?r59
  case hy59 => first | (intro w hSw; (try dsimp only at hSw); go_simp; done) | (intro w hSw; (try dsimp only at hSw); go_simp; with_reducible rfl)
  simp only [Act.put]
  refine wpAnyH_take (i := 21) (v := ?v60) rfl (by kernel_rfl) (by kernel_rfl) (by kernel_rfl) (fun _ _ _ h => h) (Or.inl ⟨by rfl, ?hy60⟩) hHeld ?r60
  case hy60 => first | (intro w hSw; (try dsimp only at hSw); go_simp; done) | (intro w hSw; (try dsimp only at hSw); go_simp; with_reducible rfl)
  simp only [Act.put]
  refine wpAnyH_ready (rs := [22]) (by kernel_rfl) (by simp) ?_
  refine AllReadyH.cons rfl (fun K hK => ?_) AllReadyH.nil
  go_simp
  have hz := fun (u0 u1 u2 u3 : Value) => (((hy.set (p := ⟨pb, 8, none⟩) (Or.inr rfl) u0).set (p := ⟨pb, 9, none⟩) (Or.inr rfl) u1).set (p := ⟨pb, 10, none⟩) (Or.inr rfl) u2).set (p := ⟨pb, 11, none⟩) (Or.inr rfl) u3
  refine hK.out _ _ ⟨hz _ _ _ _, KC.out _ (hz _ _ _ _)⟩ (fun hHeld => ?_)
  clear hK K
  refine wpAnyH_done (by kernel_rfl) ?_ _
  clear KC hHeld dc df c1 f1
  go_end0
  exact ⟨rfl, g1.trans (hz _ _ _ _), (((D.set 8 _).set 9 _).set 10 _).set 11 _⟩
end Go.Proofs.YtbfefocehnafgaaGreat.B
namespace Go.Proofs.YtbfefocehnafgaaGreat.B
set_option maxRecDepth 100000
open Go.ChangeShapes Go.WideShapes Go.ChangeAt Go.RowKit

set_option maxHeartbeats 2000000 in
set_option maxRecDepth 100000 in
theorem letGo_any (pc : Array Value) (mh pb : Nat) (ho : List HE) (r : Rc) (w : World) (hB : Blk w pb pc 93) (h13 : pc[13]? = some (.map (some mh))) (hM : MapAt keyP w mh (ho.map hoEnt)) (hne : pb ≠ mh)
    (h1 : 0 < (lookH ho (r.page, r.cell)).2) (h2 : (lookH ho (r.page, r.cell)).2 < 1000) :
    Calls Tryz.prog 133 #[.pointer (some ⟨pb, 0, none⟩), r.val] w fun e w' => e = .returned (.tuple #[]) ∧ Gr (some mh) w w' ∧ MapAt keyP w' mh ((letGoH ho (r.page, r.cell)).map hoEnt) := by
  have HL := (show Hid (lookP (ho.map hoEnt) (r.page, r.cell) (hoVal (0, 0)) = hoVal (lookH ho (r.page, r.cell))) from lookH_eq ho (r.page, r.cell))
  have HG : Hid (letGoH ho (r.page, r.cell) = if 0 < (lookH ho (r.page, r.cell)).2 - 1 then putH ho (r.page, r.cell) ((lookH ho (r.page, r.cell)).1, (lookH ho (r.page, r.cell)).2 - 1) else dropH ho (r.page, r.cell)) := rfl
  generalize lookH ho (r.page, r.cell) = x at *
  go_enter Tryz.func133, Tryz.ntmps133
  go_wp2_with fail
  have C1 := Blk.new w w.heap.size r.cs 62 rfl
  have hE := (Ext.refl w).alloc (.cells r.cs 62)
  have hmw := hM.lt
  have hRne : w.heap.size ≠ mh := by omega
  generalize w.alloc (.cells r.cs 62) = W at *
  have hB1 := hB.ext hE
  have hM1 := hM.ext hE
  have KL : Hid (∀ w', Ext W w' → (Instr.lookup 91 (.map (some mh)) (keyP (r.page, r.cell)) false).run Tryz.prog w' = .ok (hoVal x) w') := fun w' e => by rw [run_lookP (hM1.ext e) (r.page, r.cell), HL.out]
  have KC : Hid (∀ w', Ext W w' → (∀ o, w'.cell? ⟨w.heap.size, o, none⟩ = r.cs[o]?) ∧ w'.cell? ⟨pb, 13, none⟩ = some (.map (some mh))) := fun w' e => ⟨(C1.ext e).cell, by rw [(hB1.ext e).cell]; exact h13⟩
  go_cut [4] (fun s4 wx => ∃ b4 : Nat, s4 = .pointer (some ⟨b4, 0, none⟩) ∧ Blk wx b4 #[.int .i64 x.1, .int .i64 x.2] 152 ∧ Ext W wx ∧ W.heap.size ≤ b4)
  case first =>
    go_region_held3 (fun w' => Ext W w' ∧ ((∀ o, w'.cell? ⟨w.heap.size, o, none⟩ = r.cs[o]?) ∧ w'.cell? ⟨pb, 13, none⟩ = some (.map (some mh))) ∧ (Instr.lookup 91 (.map (some mh)) (keyP (r.page, r.cell)) false).run Tryz.prog w' = .ok (hoVal x) w')
      ((refine (fun e => ⟨e, KC.out _ e, KL.out _ e⟩ : Ext W _ → _) ?_; first | exact (Ext.refl W).drew | exact ((Ext.refl W).alloc _).drew | exact hy | exact hy.alloc _ | exact (hy.setCell hbx _).setCell hbx _))
      (first
      | (go_at_call 132; refine (placeOf_any r _).mono ?_; rintro e w' ⟨rfl, hw'⟩; have hy : Ext W w' := Ext.trans (And.left (by assumption)) hw'; have hbx : W.heap.size ≤ W.heap.size := Nat.le_refl _; have D := Blk.ext (Blk.drew (Blk.new W W.heap.size #[.int .i64 0, .int .i64 0] 152 rfl)) hw'; have dc := D.cell; have df := D.fr)
      | (go_at_call 132; refine (placeOf_any r _).mono ?_; rintro e w' ⟨rfl, hw'⟩; have hy : Ext W w' := Ext.trans (And.left (by assumption)) hw'; have hbx : W.heap.size ≤ W.heap.size := Nat.le_refl _))
    · go_wp2_with fail
      go_meet
      case rel => exact ⟨_, rfl, Blk.new _ _ _ _ rfl, hy.alloc _, hy.size⟩
    · go_wp2_with fail
      go_meet
      case rel => exact ⟨_, rfl, Blk.new _ _ _ _ rfl, hy.alloc _, hy.size⟩
    · go_wp2_with fail
      go_meet
      case rel => exact ⟨_, rfl, (D.set 0 _).set 1 _, (hy.setCell hbx _).setCell hbx _, hbx⟩
  case rest =>
    obtain ⟨b4, rfl, C2, hx4, hb4⟩ := hcut
    have D1 := C1.ext hx4
    have hB2 := hB1.ext hx4
    have hE2 := hE.trans hx4
    have hM2 := hM1.ext hx4
    have hb4m : b4 ≠ mh := by have := hE.size; omega
    have hpl := hB1.lt
    have hrl := C1.lt
    clear C1 hB1 hE KL KC hx4 HL
    have c2 := C2.cell
    have f2 := C2.fr
    by_cases h0 : 0 < x.2 - 1
    · have HD : Hid (decide (0 < x.2 - 1) = true) := by unfold Hid; simpa using h0
      have C3 := C2.set 1 (.int .i64 (x.2 - 1))
      have D3 := D1.other ⟨b4, 1, none⟩ (.int .i64 (x.2 - 1)) (by dsimp only; omega)
      have B3 := hB2.other ⟨b4, 1, none⟩ (.int .i64 (x.2 - 1)) (by dsimp only; omega)
      have M3 := hM2.gr ((Gr.refl (some b4) wc).set (p := ⟨b4, 1, none⟩) (Or.inr rfl) (.int .i64 (x.2 - 1))) (by simpa using Ne.symm hb4m)
      have hE3 := hE2.setCell (p := ⟨b4, 1, none⟩) (by have := hE2.size; dsimp only; omega) (.int .i64 (x.2 - 1))
      go_wp2_with fail
      clear c2 f2 C2 D1 hB2 hM2 hE2
      generalize wc.setCell ⟨b4, 1, none⟩ (.int .i64 (x.2 - 1)) = V at *
      have KC : Hid (∀ w', Gr (some mh) V w' → (∀ o, w'.cell? ⟨w.heap.size, o, none⟩ = r.cs[o]?) ∧ w'.cell? ⟨pb, 13, none⟩ = some (.map (some mh)) ∧ (∀ o, w'.cell? ⟨b4, o, none⟩ = #[.int .i64 x.1, .int .i64 (x.2 - 1)][o]?)) := fun w' e => ⟨(D3.gr e (by simpa using hRne)).cell, by rw [(B3.gr e (by simpa using hne)).cell]; exact h13, (C3.gr e (by simpa using hb4m)).cell⟩
      refine wp_region_held_drew (S := fun w' => Gr (some mh) V w' ∧ (∀ o, w'.cell? ⟨w.heap.size, o, none⟩ = r.cs[o]?) ∧ w'.cell? ⟨pb, 13, none⟩ = some (.map (some mh)) ∧ (∀ o, w'.cell? ⟨b4, o, none⟩ = #[.int .i64 x.1, .int .i64 (x.2 - 1)][o]?)) (by kernel_rfl) ⟨(Gr.refl (some mh) V).drew, KC.out _ (Gr.refl (some mh) V).drew⟩ (fun hHeld => ?_)
      refine wpAnyH_take (i := 0) (v := ?v61) rfl (by kernel_rfl) (by kernel_rfl) (by kernel_rfl) (fun _ _ _ h => h) (Or.inl ⟨by rfl, ?hy61⟩) hHeld ?r61
      case hy61 => first | (intro w hSw; (try dsimp only at hSw); go_simp; done) | (intro w hSw; (try dsimp only at hSw); go_simp; with_reducible rfl)
      simp only [Act.put]
      refine wpAnyH_take (i := 1) (v := ?v62) rfl (by kernel_rfl) (by kernel_rfl) (by kernel_rfl) (fun _ _ _ h => h) (Or.inl ⟨by rfl, ?hy62⟩) hHeld ?r62
      case hy62 => first | (intro w hSw; (try dsimp only at hSw); go_simp; done) | (intro w hSw; (try dsimp only at hSw); go_simp; with_reducible rfl)
      simp only [Act.put]
      refine wpAnyH_take (i := 2) (v := ?v63) rfl (by kernel_rfl) (by kernel_rfl) (by kernel_rfl) (fun _ _ _ h => h) (Or.inl ⟨by rfl, ?hy63⟩) hHeld ?r63
      case hy63 => first | (intro w hSw; (try dsimp only at hSw); go_simp; done) | (intro w hSw; (try dsimp only at hSw); go_simp; with_reducible rfl)
      simp only [Act.put]
      refine wpAnyH_take (i := 3) (v := ?v64) rfl (by kernel_rfl) (by kernel_rfl) (by kernel_rfl) (fun _ _ _ h => h) (Or.inl ⟨by rfl, ?hy64⟩) hHeld ?r64
      case hy64 => first | (intro w hSw; (try dsimp only at hSw); go_simp; done) | (intro w hSw; (try dsimp only at hSw); go_simp; with_reducible rfl)
      simp only [Act.put]
      refine wpAnyH_take (i := 4) (v := ?v65) rfl (by kernel_rfl) (by kernel_rfl) (by kernel_rfl) (fun _ _ _ h => h) (Or.inl ⟨by rfl, ?hy65⟩) hHeld ?r65
      case hy65 => first | (intro w hSw; (try dsimp only at hSw); go_simp; done) | (intro w hSw; (try dsimp only at hSw); go_simp; with_reducible rfl)
      simp only [Act.put]
      refine wpAnyH_take (i := 6) (v := ?v66) rfl (by kernel_rfl) (by kernel_rfl) (by kernel_rfl) (fun _ _ _ h => h) (Or.inl ⟨by rfl, ?hy66⟩) hHeld ?r66
      case hy66 => first | (intro w hSw; (try dsimp only at hSw); go_simp; done) | (intro w hSw; (try dsimp only at hSw); go_simp; with_reducible rfl)
      simp only [Act.put]
      refine wpAnyH_ready (rs := [5]) (by kernel_rfl) (by simp) ?_
      refine AllReadyH.cons rfl (fun K hK => ?_) AllReadyH.nil
      go_simp
      refine (placeOf_any r _).mono ?_
      rintro e w2 ⟨rfl, hw2⟩
      have hy : Gr (some mh) V w2 := hHeld.1.ext hw2
      have M4 := (M3.ext (Ext.refl V).drew).ext hw2
      go_wp2_with fail
      clear hHeld
      refine hK.out _ _ ⟨hy, KC.out _ hy⟩ (fun hHeld => ?_)
      clear hK K
      obtain ⟨w3, hr3, hm3, ho3⟩ := run_putP M4 (r.page, r.cell) (hoVal (x.1, x.2 - 1))
      refine wpAnyH_ready (rs := [7]) (by kernel_rfl) (by simp) ?_
      refine AllReadyH.cons rfl (fun K hK => ?_) AllReadyH.nil
      go_simp
      have hz := hy.trans (Gr.of_only ho3)
      refine hK.out _ _ ⟨hz, KC.out _ hz⟩ (fun hHeld => ?_)
      clear hK K
      refine wpAnyH_done (by kernel_rfl) ?_ _
      clear KC hHeld
      go_end0
      refine ⟨rfl, (Gr.of_ext hE3).trans hz, ?_⟩
      rw [HG.out, if_pos h0, ← putH_eq]
      exact hm3
    · have HD : Hid (decide (0 < x.2 - 1) = false) := by unfold Hid; simpa using h0
      have C3 := C2.set 1 (.int .i64 (x.2 - 1))
      have D3 := D1.other ⟨b4, 1, none⟩ (.int .i64 (x.2 - 1)) (by dsimp only; omega)
      have B3 := hB2.other ⟨b4, 1, none⟩ (.int .i64 (x.2 - 1)) (by dsimp only; omega)
      have M3 := hM2.gr ((Gr.refl (some b4) wc).set (p := ⟨b4, 1, none⟩) (Or.inr rfl) (.int .i64 (x.2 - 1))) (by simpa using Ne.symm hb4m)
      have hE3 := hE2.setCell (p := ⟨b4, 1, none⟩) (by have := hE2.size; dsimp only; omega) (.int .i64 (x.2 - 1))
      go_wp2_with fail
      clear c2 f2 C2 D1 hB2 hM2 hE2
      generalize wc.setCell ⟨b4, 1, none⟩ (.int .i64 (x.2 - 1)) = V at *
      have KC : Hid (∀ w', Gr (some mh) V w' → (∀ o, w'.cell? ⟨w.heap.size, o, none⟩ = r.cs[o]?) ∧ w'.cell? ⟨pb, 13, none⟩ = some (.map (some mh)) ∧ (∀ o, w'.cell? ⟨b4, o, none⟩ = #[.int .i64 x.1, .int .i64 (x.2 - 1)][o]?)) := fun w' e => ⟨(D3.gr e (by simpa using hRne)).cell, by rw [(B3.gr e (by simpa using hne)).cell]; exact h13, (C3.gr e (by simpa using hb4m)).cell⟩
      refine wp_region_held_drew (S := fun w' => Gr (some mh) V w' ∧ (∀ o, w'.cell? ⟨w.heap.size, o, none⟩ = r.cs[o]?) ∧ w'.cell? ⟨pb, 13, none⟩ = some (.map (some mh)) ∧ (∀ o, w'.cell? ⟨b4, o, none⟩ = #[.int .i64 x.1, .int .i64 (x.2 - 1)][o]?)) (by kernel_rfl) ⟨(Gr.refl (some mh) V).drew, KC.out _ (Gr.refl (some mh) V).drew⟩ (fun hHeld => ?_)
      refine wpAnyH_take (i := 0) (v := ?v67) rfl (by kernel_rfl) (by kernel_rfl) (by kernel_rfl) (fun _ _ _ h => h) (Or.inl ⟨by rfl, ?hy67⟩) hHeld ?r67
      case hy67 => first | (intro w hSw; (try dsimp only at hSw); go_simp; done) | (intro w hSw; (try dsimp only at hSw); go_simp; with_reducible rfl)
      simp only [Act.put]
      refine wpAnyH_take (i := 1) (v := ?v68) rfl (by kernel_rfl) (by kernel_rfl) (by kernel_rfl) (fun _ _ _ h => h) (Or.inl ⟨by rfl, ?hy68⟩) hHeld ?r68
      case hy68 => first | (intro w hSw; (try dsimp only at hSw); go_simp; done) | (intro w hSw; (try dsimp only at hSw); go_simp; with_reducible rfl)
      simp only [Act.put]
      refine wpAnyH_take (i := 2) (v := ?v69) rfl (by kernel_rfl) (by kernel_rfl) (by kernel_rfl) (fun _ _ _ h => h) (Or.inl ⟨by rfl, ?hy69⟩) hHeld ?r69
      case hy69 => first | (intro w hSw; (try dsimp only at hSw); go_simp; done) | (intro w hSw; (try dsimp only at hSw); go_simp; with_reducible rfl)
      simp only [Act.put]
      refine wpAnyH_take (i := 3) (v := ?v70) rfl (by kernel_rfl) (by kernel_rfl) (by kernel_rfl) (fun _ _ _ h => h) (Or.inl ⟨by rfl, ?hy70⟩) hHeld ?r70
      case hy70 => first | (intro w hSw; (try dsimp only at hSw); go_simp; done) | (intro w hSw; (try dsimp only at hSw); go_simp; with_reducible rfl)
      simp only [Act.put]
      refine wpAnyH_take (i := 4) (v := ?v71) rfl (by kernel_rfl) (by kernel_rfl) (by kernel_rfl) (fun _ _ _ h => h) (Or.inl ⟨by rfl, ?hy71⟩) hHeld ?r71
      case hy71 => first | (intro w hSw; (try dsimp only at hSw); go_simp; done) | (intro w hSw; (try dsimp only at hSw); go_simp; with_reducible rfl)
      simp only [Act.put]
      refine wpAnyH_ready (rs := [5]) (by kernel_rfl) (by simp) ?_
      refine AllReadyH.cons rfl (fun K hK => ?_) AllReadyH.nil
      go_simp
      refine (placeOf_any r _).mono ?_
      rintro e w2 ⟨rfl, hw2⟩
      have hy : Gr (some mh) V w2 := hHeld.1.ext hw2
      have M4 := (M3.ext (Ext.refl V).drew).ext hw2
      go_wp2_with fail
      clear hHeld
      refine hK.out _ _ ⟨hy, KC.out _ hy⟩ (fun hHeld => ?_)
      clear hK K
      obtain ⟨w3, hr3, hm3, ho3⟩ := run_dropP M4 (r.page, r.cell) 0
      refine wpAnyH_ready (rs := [6]) (by kernel_rfl) (by simp) ?_
      refine AllReadyH.cons rfl (fun K hK => ?_) AllReadyH.nil
      go_simp
      have hz := hy.trans (Gr.of_only ho3)
      refine hK.out _ _ ⟨hz, KC.out _ hz⟩ (fun hHeld => ?_)
      clear hK K
      refine wpAnyH_done (by kernel_rfl) ?_ _
      clear KC hHeld
      go_end0
      refine ⟨rfl, (Gr.of_ext hE3).trans hz, ?_⟩
      rw [HG.out, if_neg (by omega), ← dropH_eq]
      exact hm3
end Go.Proofs.YtbfefocehnafgaaGreat.B
namespace Go.Proofs.YtbfefocehnafgaaGreat.B
set_option maxRecDepth 100000
open Go.ChangeShapes Go.WideShapes Go.ChangeAt Go.RowKit

set_option maxHeartbeats 2000000 in
set_option maxRecDepth 100000 in
theorem hold_2 (pb : Nat) (r : Rc) (w : World) (hk : r.kind = 2) :
    Calls Tryz.prog 115 #[.pointer (some ⟨pb, 0, none⟩), r.val] w fun e w' => e = .returned (.tuple #[]) ∧ Ext w w' := by
  obtain ⟨kind, txn, prev, page, cell, old, new, next⟩ := r
  dsimp only at hk
  subst hk
  go_enter Tryz.func115, Tryz.ntmps115
  go_wp2_with fail
  go_end0
  exact ⟨rfl, ((Ext.refl w).alloc _)⟩
set_option maxHeartbeats 2000000 in
set_option maxRecDepth 100000 in
theorem hold_1 (pc : Array Value) (mh pb : Nat) (ho : List HE) (txn prev page cell old new next : Int) (w : World) (hB : Blk w pb pc 93) (h13 : pc[13]? = some (.map (some mh))) (hM : MapAt keyP w mh (ho.map hoEnt)) (hne : pb ≠ mh)
    (h1 : 0 ≤ (lookH ho (page, cell)).2) (h2 : (lookH ho (page, cell)).2 < 1000) :
    Calls Tryz.prog 115 #[.pointer (some ⟨pb, 0, none⟩), (Rc.mk 1 txn prev page cell old new next).val] w fun e w' => e = .returned (.tuple #[]) ∧ Gr (some mh) w w' ∧ MapAt keyP w' mh ((writeH ho (page, cell) txn).map hoEnt) := by
  have HL := (show Hid (lookP (ho.map hoEnt) (page, cell) (hoVal (0, 0)) = hoVal (lookH ho (page, cell))) from lookH_eq ho (page, cell))
  have HG : Hid (writeH ho (page, cell) txn = putH ho (page, cell) (txn, (lookH ho (page, cell)).2 + 1)) := rfl
  generalize lookH ho (page, cell) = x at *
  go_enter Tryz.func115, Tryz.ntmps115
  go_wp2_with fail
  have C1 := Blk.new w w.heap.size (Rc.mk 1 txn prev page cell old new next).cs 62 rfl
  have hE := (Ext.refl w).alloc (.cells (Rc.mk 1 txn prev page cell old new next).cs 62)
  have hmw := hM.lt
  have hRne : w.heap.size ≠ mh := by omega
  generalize w.alloc (.cells (Rc.mk 1 txn prev page cell old new next).cs 62) = W at *
  have hB1 := hB.ext hE
  have hM1 := hM.ext hE
  have KL : Hid (∀ w', Ext W w' → (Instr.lookup 91 (.map (some mh)) (keyP (page, cell)) false).run Tryz.prog w' = .ok (hoVal x) w') := fun w' e => by rw [run_lookP (hM1.ext e) (page, cell), HL.out]
  have KC : Hid (∀ w', Ext W w' → (∀ o, w'.cell? ⟨w.heap.size, o, none⟩ = (Rc.mk 1 txn prev page cell old new next).cs[o]?) ∧ w'.cell? ⟨pb, 13, none⟩ = some (.map (some mh))) := fun w' e => ⟨(C1.ext e).cell, by rw [(hB1.ext e).cell]; exact h13⟩
  go_cut [4] (fun s4 wx => ∃ b4 : Nat, s4 = .pointer (some ⟨b4, 0, none⟩) ∧ Blk wx b4 #[.int .i64 x.1, .int .i64 x.2] 152 ∧ Ext W wx ∧ W.heap.size ≤ b4)
  case first =>
    go_region_held3 (fun w' => Ext W w' ∧ ((∀ o, w'.cell? ⟨w.heap.size, o, none⟩ = (Rc.mk 1 txn prev page cell old new next).cs[o]?) ∧ w'.cell? ⟨pb, 13, none⟩ = some (.map (some mh))) ∧ (Instr.lookup 91 (.map (some mh)) (keyP (page, cell)) false).run Tryz.prog w' = .ok (hoVal x) w')
      ((refine (fun e => ⟨e, KC.out _ e, KL.out _ e⟩ : Ext W _ → _) ?_; first | exact (Ext.refl W).drew | exact ((Ext.refl W).alloc _).drew | exact hy | exact hy.alloc _ | exact (hy.setCell hbx _).setCell hbx _))
      (first
      | (go_at_call 132; refine (placeOf_any (Rc.mk 1 txn prev page cell old new next) _).mono ?_; rintro e w' ⟨rfl, hw'⟩; have hy : Ext W w' := Ext.trans (And.left (by assumption)) hw'; have hbx : W.heap.size ≤ W.heap.size := Nat.le_refl _; have D := Blk.ext (Blk.drew (Blk.new W W.heap.size #[.int .i64 0, .int .i64 0] 152 rfl)) hw'; have dc := D.cell; have df := D.fr)
      | (go_at_call 132; refine (placeOf_any (Rc.mk 1 txn prev page cell old new next) _).mono ?_; rintro e w' ⟨rfl, hw'⟩; have hy : Ext W w' := Ext.trans (And.left (by assumption)) hw'; have hbx : W.heap.size ≤ W.heap.size := Nat.le_refl _))
    · go_wp2_with fail
      go_meet
      case rel => exact ⟨_, rfl, Blk.new _ _ _ _ rfl, hy.alloc _, hy.size⟩
    · go_wp2_with fail
      go_meet
      case rel => exact ⟨_, rfl, Blk.new _ _ _ _ rfl, hy.alloc _, hy.size⟩
    · go_wp2_with fail
      go_meet
      case rel => exact ⟨_, rfl, (D.set 0 _).set 1 _, (hy.setCell hbx _).setCell hbx _, hbx⟩
  case rest =>
    obtain ⟨b4, rfl, C3, hx4, hb4⟩ := hcut
    have D3 := C1.ext hx4
    have B3 := hB1.ext hx4
    have hE3 := hE.trans hx4
    have M3 := hM1.ext hx4
    have hb4m : b4 ≠ mh := by have := hE.size; omega
    clear C1 hB1 hE KL KC hx4 HL
    go_wp2_with fail
    have hwr : IntKind.i64.wrap (x.2 + 1) = x.2 + 1 := by rw [IntKind.wrap_i64]; omega
    have KC : Hid (∀ w', Gr (some mh) wc w' → (∀ o, w'.cell? ⟨w.heap.size, o, none⟩ = (Rc.mk 1 txn prev page cell old new next).cs[o]?) ∧ w'.cell? ⟨pb, 13, none⟩ = some (.map (some mh)) ∧ (∀ o, w'.cell? ⟨b4, o, none⟩ = #[.int .i64 x.1, .int .i64 x.2][o]?)) := fun w' e => ⟨(D3.gr e (by simpa using hRne)).cell, by rw [(B3.gr e (by simpa using hne)).cell]; exact h13, (C3.gr e (by simpa using hb4m)).cell⟩
    refine wp_region_held_drew (S := fun w' => Gr (some mh) wc w' ∧ (∀ o, w'.cell? ⟨w.heap.size, o, none⟩ = (Rc.mk 1 txn prev page cell old new next).cs[o]?) ∧ w'.cell? ⟨pb, 13, none⟩ = some (.map (some mh)) ∧ (∀ o, w'.cell? ⟨b4, o, none⟩ = #[.int .i64 x.1, .int .i64 x.2][o]?)) (by kernel_rfl) ⟨(Gr.refl (some mh) wc).drew, KC.out _ (Gr.refl (some mh) wc).drew⟩ (fun hHeld => ?_)
    refine wpAnyH_take (i := 0) (v := ?v72) rfl (by kernel_rfl) (by kernel_rfl) (by kernel_rfl) (fun _ _ _ h => h) (Or.inl ⟨by rfl, ?hy72⟩) hHeld ?r72
    case hy72 => first | (intro w hSw; (try dsimp only at hSw); go_simp; done) | (intro w hSw; (try dsimp only at hSw); go_simp; with_reducible rfl)
    simp only [Act.put]
    refine wpAnyH_take (i := 1) (v := ?v73) rfl (by kernel_rfl) (by kernel_rfl) (by kernel_rfl) (fun _ _ _ h => h) (Or.inl ⟨by rfl, ?hy73⟩) hHeld ?r73
    case hy73 => first | (intro w hSw; (try dsimp only at hSw); go_simp; done) | (intro w hSw; (try dsimp only at hSw); go_simp; with_reducible rfl)
    simp only [Act.put]
    refine wpAnyH_take (i := 2) (v := ?v74) rfl (by kernel_rfl) (by kernel_rfl) (by kernel_rfl) (fun _ _ _ h => h) (Or.inl ⟨by rfl, ?hy74⟩) hHeld ?r74
    case hy74 => first | (intro w hSw; (try dsimp only at hSw); go_simp; done) | (intro w hSw; (try dsimp only at hSw); go_simp; with_reducible rfl)
    simp only [Act.put]
    refine wpAnyH_take (i := 3) (v := ?v75) rfl (by kernel_rfl) (by kernel_rfl) (by kernel_rfl) (fun _ _ _ h => h) (Or.inl ⟨by rfl, ?hy75⟩) hHeld ?r75
    case hy75 => first | (intro w hSw; (try dsimp only at hSw); go_simp; done) | (intro w hSw; (try dsimp only at hSw); go_simp; with_reducible rfl)
    simp only [Act.put]
    refine wpAnyH_take (i := 4) (v := ?v76) rfl (by kernel_rfl) (by kernel_rfl) (by kernel_rfl) (fun _ _ _ h => h) (Or.inl ⟨by rfl, ?hy76⟩) hHeld ?r76
    case hy76 => first | (intro w hSw; (try dsimp only at hSw); go_simp; done) | (intro w hSw; (try dsimp only at hSw); go_simp; with_reducible rfl)
    simp only [Act.put]
    refine wpAnyH_take (i := 6) (v := ?v77) rfl (by kernel_rfl) (by kernel_rfl) (by kernel_rfl) (fun _ _ _ h => h) (Or.inl ⟨by rfl, ?hy77⟩) hHeld ?r77
    case hy77 => first | (intro w hSw; (try dsimp only at hSw); go_simp; done) | (intro w hSw; (try dsimp only at hSw); go_simp; with_reducible rfl)
    simp only [Act.put]
    refine wpAnyH_take (i := 7) (v := ?v78) rfl (by kernel_rfl) (by kernel_rfl) (by kernel_rfl) (fun _ _ _ h => h) (Or.inl ⟨by rfl, ?hy78⟩) hHeld ?r78
    case hy78 => first | (intro w hSw; (try dsimp only at hSw); go_simp; done) | (intro w hSw; (try dsimp only at hSw); go_simp; with_reducible rfl)
    simp only [Act.put]
    refine wpAnyH_take (i := 8) (v := ?v79) rfl (by kernel_rfl) (by kernel_rfl) (by kernel_rfl) (fun _ _ _ h => h) (Or.inl ⟨by rfl, ?hy79⟩) hHeld ?r79
    case hy79 => first | (intro w hSw; (try dsimp only at hSw); go_simp; done) | (intro w hSw; (try dsimp only at hSw); go_simp; with_reducible rfl)
    simp only [Act.put]
    refine wpAnyH_take (i := 9) (v := ?v80) rfl (by kernel_rfl) (by kernel_rfl) (by kernel_rfl) (fun _ _ _ h => h) (Or.inl ⟨by rfl, ?hy80⟩) hHeld ?r80
    case hy80 => first | (intro w hSw; (try dsimp only at hSw); go_simp; done) | (intro w hSw; (try dsimp only at hSw); go_simp; with_reducible rfl)
    simp only [Act.put]
    refine wpAnyH_take (i := 10) (v := ?v81) rfl (by kernel_rfl) (by kernel_rfl) (by kernel_rfl) (fun _ _ _ h => h) (Or.inl ⟨by rfl, ?hy81⟩) hHeld ?r81
    case hy81 => first | (intro w hSw; (try dsimp only at hSw); go_simp; done) | (intro w hSw; (try dsimp only at hSw); go_simp; with_reducible rfl)
    simp only [Act.put]
    refine wpAnyH_take (i := 11) (v := ?v82) rfl (by kernel_rfl) (by kernel_rfl) (by kernel_rfl) (fun _ _ _ h => h) (Or.inl ⟨by rfl, ?hy82⟩) hHeld ?r82
    case hy82 => first | (intro w hSw; (try dsimp only at hSw); go_simp; done) | (intro w hSw; (try dsimp only at hSw); go_simp; with_reducible rfl)
    simp only [Act.put]
    refine wpAnyH_ready (rs := [5]) (by kernel_rfl) (by simp) ?_
    refine AllReadyH.cons rfl (fun K hK => ?_) AllReadyH.nil
    go_simp
    refine (placeOf_any (Rc.mk 1 txn prev page cell old new next) _).mono ?_
    rintro e w2 ⟨rfl, hw2⟩
    have hy : Gr (some mh) wc w2 := hHeld.1.ext hw2
    have M4 := (M3.ext (Ext.refl wc).drew).ext hw2
    go_wp2_with fail
    clear hHeld
    refine hK.out _ _ ⟨hy, KC.out _ hy⟩ (fun hHeld => ?_)
    clear hK K
    obtain ⟨w3, hr3, hm3, ho3⟩ := run_putP M4 (page, cell) (hoVal (txn, x.2 + 1))
    refine wpAnyH_ready (rs := [12]) (by kernel_rfl) (by simp) ?_
    refine AllReadyH.cons rfl (fun K hK => ?_) AllReadyH.nil
    go_simp
    have hz := hy.trans (Gr.of_only ho3)
    refine hK.out _ _ ⟨hz, KC.out _ hz⟩ (fun hHeld => ?_)
    clear hK K
    refine wpAnyH_done (by kernel_rfl) ?_ _
    clear KC hHeld
    go_end0
    refine ⟨rfl, (Gr.of_ext hE3).trans hz, ?_⟩
    rw [HG.out, ← putH_eq]
    exact hm3
set_option maxHeartbeats 2000000 in
set_option maxRecDepth 100000 in
theorem hold_3 (pc : Array Value) (mh pb : Nat) (ho : List HE) (txn prev page cell old new next : Int) (w : World) (hB : Blk w pb pc 93) (h13 : pc[13]? = some (.map (some mh))) (hM : MapAt keyP w mh (ho.map hoEnt)) (hne : pb ≠ mh)
    (h1 : 0 < (lookH ho (page, cell)).2) (h2 : (lookH ho (page, cell)).2 < 1000) :
    Calls Tryz.prog 115 #[.pointer (some ⟨pb, 0, none⟩), (Rc.mk 3 txn prev page cell old new next).val] w fun e w' => e = .returned (.tuple #[]) ∧ Gr (some mh) w w' ∧ MapAt keyP w' mh ((letGoH ho (page, cell)).map hoEnt) := by
  go_enter Tryz.func115, Tryz.ntmps115
  go_wp2_with fail
  refine (letGo_any pc mh pb ho ⟨3, txn, prev, page, cell, old, new, next⟩ _ (hB.alloc _) h13 (hM.ext ((Ext.refl w).alloc _)) hne h1 h2).mono ?_
  rintro e w2 ⟨rfl, hw2, hm2⟩
  go_wp2_with fail
  go_end0
  exact ⟨rfl, ((Gr.refl (some mh) w).alloc _).trans hw2, hm2⟩
theorem field_stands (s last : Int) (v : Value) : ∀ w, (Instr.field 98 (txVal s last v) 2).run Tryz.prog w = .ok v w := by
  intro w
  simp [Instr.field, go_sem, part, asAgg]
set_option maxHeartbeats 2000000 in
set_option maxRecDepth 100000 in
theorem hold_4 (pc : Array Value) (mt mh pb base : Nat) (ho : List HE) (al : List (Int × Value)) (s last : Int) (sv : Value) (st : List Rc) (txn prev page cell old new next : Int) (w : World) (hB : Blk w pb pc 93) (h12 : pc[12]? = some (.map (some mt))) (h13 : pc[13]? = some (.map (some mh))) (hT : MapAt keyI w mt al) (hM : MapAt keyP w mh (ho.map hoEnt)) (hne : pb ≠ mh)
    (hlk : lookI al txn (txVal 0 0 (.slice none 0 0)) = txVal s last sv) (hown : w.ownsRow base 62 8 sv st.length (flat st)) (hsv : sv.ownBlock ≠ some mh) (hn : st.length ≤ 1000)
    (hpos : ∀ k, (h : k < st.length) → 0 < (lookH (letGos ho (st.take k)) (st[k].page, st[k].cell)).2 ∧ (lookH (letGos ho (st.take k)) (st[k].page, st[k].cell)).2 < 1000) :
    Calls Tryz.prog 115 #[.pointer (some ⟨pb, 0, none⟩), (Rc.mk 4 txn prev page cell old new next).val] w fun e w' => e = .returned (.tuple #[]) ∧ Gr (some mh) w w' ∧ MapAt keyP w' mh ((letGos ho st).map hoEnt) := by
  obtain ⟨a, m, cap, rfl⟩ : ∃ a m cap, sv = .slice a m cap := own_slice hown
  have hm := own_len hown
  subst hm
  have HP := (show Hid (∀ k, (h : k < st.length) → 0 < (lookH (letGos ho (st.take k)) (st[k].page, st[k].cell)).2 ∧ (lookH (letGos ho (st.take k)) (st[k].page, st[k].cell)).2 < 1000) from hpos)
  have HO := (show Hid (w.ownsRow base 62 8 (.slice a st.length cap) st.length (flat st)) from hown)
  clear hpos hown
  go_enter Tryz.func115, Tryz.ntmps115
  go_wp2_with fail
  have C1 := Blk.new w w.heap.size (Rc.mk 4 txn prev page cell old new next).cs 62 rfl
  have hE := (Ext.refl w).alloc (.cells (Rc.mk 4 txn prev page cell old new next).cs 62)
  generalize w.alloc (.cells (Rc.mk 4 txn prev page cell old new next).cs 62) = W at *
  have hB1 := hB.ext hE
  have hM1 := hM.ext hE
  have hT1 := hT.ext hE
  have hO1 : Hid (W.ownsRow base 62 8 (.slice a st.length cap) st.length (flat st)) := own_ext HO.out hE
  have KL : Hid (∀ w', Ext W w' → (Instr.lookup 90 (.map (some mt)) (.int .i64 txn) false).run Tryz.prog w' = .ok (txVal s last (.slice a st.length cap)) w') := fun w' e => by rw [run_lookI (hT1.ext e) txn]; exact congrArg (fun v => Result.ok v w') hlk
  have KC : Hid (∀ w', Ext W w' → (∀ o, w'.cell? ⟨w.heap.size, o, none⟩ = (Rc.mk 4 txn prev page cell old new next).cs[o]?) ∧ w'.cell? ⟨pb, 12, none⟩ = some (.map (some mt))) := fun w' e => ⟨(C1.ext e).cell, by rw [(hB1.ext e).cell]; exact h12⟩
  clear HO
  have KF := field_stands s last (.slice a st.length cap)
  go_region_held3 (fun w' => Ext W w' ∧ ((∀ o, w'.cell? ⟨w.heap.size, o, none⟩ = (Rc.mk 4 txn prev page cell old new next).cs[o]?) ∧ w'.cell? ⟨pb, 12, none⟩ = some (.map (some mt))) ∧ (Instr.lookup 90 (.map (some mt)) (.int .i64 txn) false).run Tryz.prog w' = .ok (txVal s last (.slice a st.length cap)) w')
      ((refine (fun e => ⟨e, KC.out _ e, KL.out _ e⟩ : Ext W _ → _) ?_; exact (Ext.refl W).drew))
      (fail)
  clear KC KL
  go_wp2_with fail
  have g0 : Gr (some mh) W W.drew := (Gr.refl _ _).drew
  go_loopw [46] (fun i wr => ∃ k : Nat, k ≤ st.length ∧ i = .int .i64 k ∧ Gr (some mh) W wr ∧ MapAt keyP wr mh ((letGos ho (st.take k)).map hoEnt)) (fun i _ => st.length - (intOf i).toNat)
  case atStart => exact ⟨0, Nat.zero_le _, rfl, g0, hM1.ext (Ext.refl W).drew⟩
  case round =>
    obtain ⟨k, hk, rfl, hg, hm⟩ := hrel
    by_cases hlt : k < st.length
    · have hrow := own_gr hO1.out hg (fun b hb hc => hsv (by rw [hb]; exact hc))
      obtain ⟨_, ⟨he, hz⟩ | ⟨g, cap', cur, he, hbg, hblk, hc1, hc2, hsz, htk⟩⟩ := hrow
      · omega
      · injection he with ea eb ec
        subst ea
        clear eb ec
        obtain ⟨c0, c1, c2, c3, c4, c5, c6, c7⟩ := own_rec hblk htk k hlt
        have hp := HP.out k hlt
        have HS := (show Hid (letGos ho (st.take (k + 1)) = letGoH (letGos ho (st.take k)) (st[k].page, st[k].cell)) from letGos_take ho st k hlt)
        have hBr := hB1.gr hg (by simpa using hne)
        generalize st[k] = rk at *
        generalize letGos ho (st.take k) = hok at *
        clear hblk htk hsz hO1 HP
        go_wp2_with fail
        refine (letGo_any pc mh pb hok rk _ (hBr.alloc _) h13 (hm.ext ((Ext.refl wr).alloc _)) hne hp.1 hp.2).mono ?_
        rintro e w2 ⟨rfl, hw2, hm2⟩
        go_wp2_with fail
        go_roundw
        case rel => exact ⟨k + 1, by omega, by go_num, (hg.alloc _).trans hw2, by rw [HS.out]; exact hm2⟩
        case measure => simp [intOf]; omega
    · have HF : Hid (st.take k = st) := List.take_of_length_le (by omega)
      go_wp2_with fail
      go_end0
      rw [HF.out] at hm
      exact ⟨rfl, (Gr.of_ext hE).trans hg, hm⟩
end Go.Proofs.YtbfefocehnafgaaGreat.B
