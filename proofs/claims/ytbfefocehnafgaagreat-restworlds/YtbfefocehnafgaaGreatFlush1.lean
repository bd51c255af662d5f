/- To the disk, as plain functions; the contracts of the desk's Secure and Lay, and of the flush's Sync and Page. -/
import Derived.Test.YtbfefocehnafgaaGreatPlainA
namespace Go.Proofs.YtbfefocehnafgaaGreat.B
set_option maxRecDepth 100000
open Go.ChangeShapes Go.WideShapes Go.ChangeAt Go.RowKit

def syncErr (l : List Rc) (n : Int) : Int := if out 0 (l.length : Nat) [n] then 3 else 0
def pageErr (x : Int) : Int := if out 0 2 [x] then 3 else 0
def layPg (l : List Rc) (x : Int) (i : Nat) (d : Pg) : Pg := if x = (i : Nat) then pgAt (pagesR l) i else d
def maxI (a b : Int) : Int := if a < b then b else a
def laySafe (l : List Rc) (safe x : Int) : Int := maxI safe ((pagesR l).getD (x.toNat * 4 + 3) 0)
theorem maxI_lt {a b : Int} (h : a < b) : maxI a b = b := by unfold maxI; rw [if_pos h]
theorem maxI_ge {a b : Int} (h : ¬ a < b) : maxI a b = a := by unfold maxI; rw [if_neg h]
set_option maxHeartbeats 1000000 in
theorem secure_any {base db pb mt mh : Nat} {l : List Rc} {tx : List TxE} {ho : List HE} {p q s : Pg} {lv : Value} {safe : Int} (n : Int) (w : World) (h : DeskOk w base db pb mt mh l tx ho p q s lv safe) :
    Calls Tryz.prog 85 #[.pointer (some ⟨db, 0, none⟩), .int .i64 n] w fun e w' => e = .returned (.tuple #[]) ∧ Below base w w' ∧ DeskOk w' base db pb mt mh l tx ho p q s lv (maxI safe n) := by
  have hbase : base ≤ w.heap.size := Nat.le_trans h.ge (Nat.le_of_lt h.blk.lt)
  have c14 : w.cell? ⟨db, 14, none⟩ = some (.int .i64 safe) := by rw [h.blk.cell]; rfl
  have f14 := h.blk.fr 14
  by_cases hn : safe < n
  · have HM : Hid (maxI safe n = n) := maxI_lt hn
    have hD := h.setSafe n
    have hB : Below base w (w.setCell ⟨db, 14, none⟩ (.int .i64 n)) := Below.setCell (Below.mono (Ext.refl w) hbase) h.ge _
    go_enter Tryz.func85, Tryz.ntmps85
    go_wp2_with fail
    refine bodyPost_end (results_none rfl _ _ _) rfl ?_
    exact ⟨rfl, hB, by rw [HM.out]; exact hD⟩
  · have HM : Hid (maxI safe n = safe) := maxI_ge hn
    have hB : Below base w w := Below.mono (Ext.refl w) hbase
    go_enter Tryz.func85, Tryz.ntmps85
    go_wp2_with fail
    refine bodyPost_end (results_none rfl _ _ _) rfl ?_
    exact ⟨rfl, hB, by rw [HM.out]; exact h⟩
theorem DeskOk.lay0 {w : World} {base db pb mt mh : Nat} {l : List Rc} {tx : List TxE} {ho : List HE} {p q s : Pg} {lv : Value} {safe : Int} (h : DeskOk w base db pb mt mh l tx ho p q s lv safe) (x : Pg) :
    DeskOk ((((w.setCell ⟨db, 1, none⟩ (.int .i64 x.c0)).setCell ⟨db, 2, none⟩ (.int .i64 x.c1)).setCell ⟨db, 3, none⟩ (.int .i64 x.c2)).setCell ⟨db, 4, none⟩ (.int .i64 x.last)) base db pb mt mh l tx ho x q s lv safe := by
  obtain ⟨n1, n2, n3, n4, n5, _⟩ := h.apart
  have G : Gr (some db) w ((((w.setCell ⟨db, 1, none⟩ (.int .i64 x.c0)).setCell ⟨db, 2, none⟩ (.int .i64 x.c1)).setCell ⟨db, 3, none⟩ (.int .i64 x.c2)).setCell ⟨db, 4, none⟩ (.int .i64 x.last)) := ((((Gr.refl (some db) w).set (p := ⟨db, 1, none⟩) (Or.inr rfl) _).set (p := ⟨db, 2, none⟩) (Or.inr rfl) _).set (p := ⟨db, 3, none⟩) (Or.inr rfl) _).set (p := ⟨db, 4, none⟩) (Or.inr rfl) _
  refine ⟨(((h.blk.set 1 _).set 2 _).set 3 _).set 4 _, ?_, ?_, h.ge, h.free⟩
  · refine h.book.gr G (fun e => n1 (by injection e with e; exact e.symm)) (fun e => n2 (by injection e with e; exact e.symm)) (fun e => n3 (by injection e with e; exact e.symm)) (fun t ht k hk e => ?_)
    injection e with e
    subst e
    exact n4 t ht hk
  · exact own_gr h.own G (fun k hk e => by injection e with e; rw [e] at hk; exact n5 hk)
set_option maxHeartbeats 4000000 in
theorem lay0_any {base db pb mt mh : Nat} {l : List Rc} {tx : List TxE} {ho : List HE} {p q s : Pg} {lv : Value} {safe : Int} (bp : Nat) (w : World) (h : DeskOk w base db pb mt mh l tx ho p q s lv safe) (BP : Blk w bp #[.int .i64 0] 3) :
    Calls Tryz.prog 86 #[.pointer (some ⟨db, 0, none⟩), .slice (some ⟨bp, 0, none⟩) 1 1] w fun e w' => e = .returned (.int .i64 0) ∧ Below base w w' ∧ DeskOk w' base db pb mt mh l tx ho (pgAt (pagesR l) 0) q s lv (maxI safe (pgAt (pagesR l) 0).last) := by
  have hbase : base ≤ w.heap.size := Nat.le_trans h.ge (Nat.le_of_lt h.blk.lt)
  have KP : Hid (∀ w', BookOk w' base pb mt mh l tx ho → w'.cell? ⟨pb, 0, none⟩ = some (.int .i64 (pgAt (pagesR l) 0).c0) ∧ w'.cell? ⟨pb, 1, none⟩ = some (.int .i64 (pgAt (pagesR l) 0).c1) ∧ w'.cell? ⟨pb, 2, none⟩ = some (.int .i64 (pgAt (pagesR l) 0).c2) ∧ w'.cell? ⟨pb, 3, none⟩ = some (.int .i64 (pgAt (pagesR l) 0).last)) := fun w' hb => by
    refine ⟨?_, ?_, ?_, ?_⟩ <;> rw [hb.blk.cell, bookCells_page _ mt mh _ (pagesR_len l) _ (by decide)] <;> rfl
  generalize pgAt (pagesR l) 0 = x at *
  have HD := (show Hid (DeskOk w base db pb mt mh l tx ho p q s lv safe) from h)
  have bp0 := BP.cell
  go_enter Tryz.func86, Tryz.ntmps86
  go_wp2_with fail
  refine (outside_n 1 0 2 _ 0 1 [0] _ rfl (by decide) (cells1 (by simp [bp0]))).mono ?_
  rintro e w1 ⟨rfl, rfl⟩
  rw [show out 0 2 [0] = false from rfl]
  go_wp2_with fail
  go_loopw [11] (fun i wr => (i = .int .i64 0 ∧ wr = w1) ∨ (i = .int .i64 1 ∧ Below base w1 wr ∧ DeskOk wr base db pb mt mh l tx ho x q s lv (maxI safe x.last))) (fun i _ => 1 - (intOf i).toNat)
  case atStart => exact Or.inl ⟨rfl, rfl⟩
  case round =>
    rcases hrel with ⟨rfl, rfl⟩ | ⟨rfl, hB, hD⟩
    · have c0 : wr.cell? ⟨db, 0, none⟩ = some (.pointer (some ⟨pb, 0, none⟩)) := by rw [h.blk.cell]; rfl
      obtain ⟨k0, k1, k2, k3⟩ := KP.out _ h.book
      go_wp2_with fail
      refine (secure_any x.last _ HD.out).mono ?_
      rintro e w2 ⟨rfl, hB2, hD2⟩
      clear c0 k0 k1 k2 k3
      go_wp2_with fail
      have D2d := hD2.ext (Ext.refl w2).drew
      have KC : Hid (∀ w' p' q' s' sf, DeskOk w' base db pb mt mh l tx ho p' q' s' lv sf → w'.cell? ⟨db, 0, none⟩ = some (.pointer (some ⟨pb, 0, none⟩)) ∧ w'.cell? ⟨pb, 0, none⟩ = some (.int .i64 x.c0) ∧ w'.cell? ⟨pb, 1, none⟩ = some (.int .i64 x.c1) ∧ w'.cell? ⟨pb, 2, none⟩ = some (.int .i64 x.c2) ∧ w'.cell? ⟨pb, 3, none⟩ = some (.int .i64 x.last)) := fun w' p' q' s' sf hd => ⟨by rw [hd.blk.cell]; rfl, KP.out w' hd.book⟩
      refine wp_region_held_drew (S := fun w' => w'.cell? ⟨db, 0, none⟩ = some (.pointer (some ⟨pb, 0, none⟩)) ∧ w'.cell? ⟨pb, 0, none⟩ = some (.int .i64 x.c0) ∧ w'.cell? ⟨pb, 1, none⟩ = some (.int .i64 x.c1) ∧ w'.cell? ⟨pb, 2, none⟩ = some (.int .i64 x.c2) ∧ w'.cell? ⟨pb, 3, none⟩ = some (.int .i64 x.last)) (by kernel_rfl) (KC.out _ _ _ _ _ D2d) (fun hHeld => ?_)
      refine wpAnyH_take (i := 0) (v := ?v1) rfl (by kernel_rfl) (by kernel_rfl) (by kernel_rfl) (fun _ _ _ h => h) (Or.inl ⟨by rfl, ?hy1⟩) hHeld ?r1
      case hy1 => first | (intro w hSw; (try dsimp only at hSw); go_simp; done) | (intro w hSw; (try dsimp only at hSw); go_simp; with_reducible rfl)
      simp only [Act.put]
      refine wpAnyH_take (i := 1) (v := ?v2) rfl (by kernel_rfl) (by kernel_rfl) (by kernel_rfl) (fun _ _ _ h => h) (Or.inl ⟨by rfl, ?hy2⟩) hHeld ?r2
      case hy2 => first | (intro w hSw; (try dsimp only at hSw); go_simp; done) | (intro w hSw; (try dsimp only at hSw); go_simp; with_reducible rfl)
      simp only [Act.put]
      refine wpAnyH_take (i := 2) (v := ?v3) rfl (by kernel_rfl) (by kernel_rfl) (by kernel_rfl) (fun _ _ _ h => h) (Or.inl ⟨by rfl, ?hy3⟩) hHeld ?r3
      case hy3 => first | (intro w hSw; (try dsimp only at hSw); go_simp; done) | (intro w hSw; (try dsimp only at hSw); go_simp; with_reducible rfl)
      simp only [Act.put]
      refine wpAnyH_take (i := 3) (v := ?v4) rfl (by kernel_rfl) (by kernel_rfl) (by kernel_rfl) (fun _ _ _ h => h) (Or.inl ⟨by rfl, ?hy4⟩) hHeld ?r4
      case hy4 => first | (intro w hSw; (try dsimp only at hSw); go_simp; done) | (intro w hSw; (try dsimp only at hSw); go_simp; with_reducible rfl)
      simp only [Act.put]
      refine wpAnyH_take (i := 4) (v := ?v5) rfl (by kernel_rfl) (by kernel_rfl) (by kernel_rfl) (fun _ _ _ h => h) (Or.inl ⟨by rfl, ?hy5⟩) hHeld ?r5
      case hy5 => first | (intro w hSw; (try dsimp only at hSw); go_simp; done) | (intro w hSw; (try dsimp only at hSw); go_simp; with_reducible rfl)
      simp only [Act.put]
      refine wpAnyH_take (i := 5) (v := ?v6) rfl (by kernel_rfl) (by kernel_rfl) (by kernel_rfl) (fun _ _ _ h => h) (Or.inl ⟨by rfl, ?hy6⟩) hHeld ?r6
      case hy6 => first | (intro w hSw; (try dsimp only at hSw); go_simp; done) | (intro w hSw; (try dsimp only at hSw); go_simp; with_reducible rfl)
      simp only [Act.put]
      refine wpAnyH_take (i := 6) (v := ?v7) rfl (by kernel_rfl) (by kernel_rfl) (by kernel_rfl) (fun _ _ _ h => h) (Or.inl ⟨by rfl, ?hy7⟩) hHeld ?r7
      case hy7 => first | (intro w hSw; (try dsimp only at hSw); go_simp; done) | (intro w hSw; (try dsimp only at hSw); go_simp; with_reducible rfl)
      simp only [Act.put]
      refine wpAnyH_take (i := 7) (v := ?v8) rfl (by kernel_rfl) (by kernel_rfl) (by kernel_rfl) (fun _ _ _ h => h) (Or.inl ⟨by rfl, ?hy8⟩) hHeld ?r8
      case hy8 => first | (intro w hSw; (try dsimp only at hSw); go_simp; done) | (intro w hSw; (try dsimp only at hSw); go_simp; with_reducible rfl)
      simp only [Act.put]
      refine wpAnyH_take (i := 8) (v := ?v9) rfl (by kernel_rfl) (by kernel_rfl) (by kernel_rfl) (fun _ _ _ h => h) (Or.inl ⟨by rfl, ?hy9⟩) hHeld ?r9
      case hy9 => first | (intro w hSw; (try dsimp only at hSw); go_simp; done) | (intro w hSw; (try dsimp only at hSw); go_simp; with_reducible rfl)
      simp only [Act.put]
      refine wpAnyH_take (i := 9) (v := ?v10) rfl (by kernel_rfl) (by kernel_rfl) (by kernel_rfl) (fun _ _ _ h => h) (Or.inl ⟨by rfl, ?hy10⟩) hHeld ?r10
      case hy10 => first | (intro w hSw; (try dsimp only at hSw); go_simp; done) | (intro w hSw; (try dsimp only at hSw); go_simp; with_reducible rfl)
      simp only [Act.put]
      refine wpAnyH_take (i := 10) (v := ?v11) rfl (by kernel_rfl) (by kernel_rfl) (by kernel_rfl) (fun _ _ _ h => h) (Or.inl ⟨by rfl, ?hy11⟩) hHeld ?r11
      case hy11 => first | (intro w hSw; (try dsimp only at hSw); go_simp; done) | (intro w hSw; (try dsimp only at hSw); go_simp; with_reducible rfl)
      simp only [Act.put]
      refine wpAnyH_take (i := 11) (v := ?v12) rfl (by kernel_rfl) (by kernel_rfl) (by kernel_rfl) (fun _ _ _ h => h) (Or.inl ⟨by rfl, ?hy12⟩) hHeld ?r12
      case hy12 => first | (intro w hSw; (try dsimp only at hSw); go_simp; done) | (intro w hSw; (try dsimp only at hSw); go_simp; with_reducible rfl)
      simp only [Act.put]
      refine wpAnyH_take (i := 12) (v := ?v13) rfl (by kernel_rfl) (by kernel_rfl) (by kernel_rfl) (fun _ _ _ h => h) (Or.inl ⟨by rfl, ?hy13⟩) hHeld ?r13
      case hy13 => first | (intro w hSw; (try dsimp only at hSw); go_simp; done) | (intro w hSw; (try dsimp only at hSw); go_simp; with_reducible rfl)
      simp only [Act.put]
      refine wpAnyH_take (i := 13) (v := ?v14) rfl (by kernel_rfl) (by kernel_rfl) (by kernel_rfl) (fun _ _ _ h => h) (Or.inl ⟨by rfl, ?hy14⟩) hHeld ?r14
      case hy14 => first | (intro w hSw; (try dsimp only at hSw); go_simp; done) | (intro w hSw; (try dsimp only at hSw); go_simp; with_reducible rfl)
      simp only [Act.put]
      have dc := hD2.blk.cell
      have df := hD2.blk.fr
      refine wpAnyH_ready (rs := [14]) (by kernel_rfl) (by simp) ?_
      refine AllReadyH.cons rfl (fun K hK => ?_) AllReadyH.nil
      go_simp
      have D3 := hD2.lay0 x
      have B3 : Below base wr ((((w2.setCell ⟨db, 1, none⟩ (.int .i64 x.c0)).setCell ⟨db, 2, none⟩ (.int .i64 x.c1)).setCell ⟨db, 3, none⟩ (.int .i64 x.c2)).setCell ⟨db, 4, none⟩ (.int .i64 x.last)) := Below.setCell (p := ⟨db, 4, none⟩) (Below.setCell (p := ⟨db, 3, none⟩) (Below.setCell (p := ⟨db, 2, none⟩) (Below.setCell (p := ⟨db, 1, none⟩) hB2 hD2.ge _) hD2.ge _) hD2.ge _) hD2.ge _
      clear hHeld dc df
      refine hK.out _ _ (KC.out _ _ _ _ _ (D3.ext (Ext.refl _).drew)) (fun hHeld => ?_)
      clear hK K
      refine wpAnyH_done (by kernel_rfl) ?_ _
      clear hHeld
      go_wp2_with fail
      go_roundw
      case rel => exact Or.inr ⟨rfl, Below.drew B3, D3.ext (Ext.refl _).drew⟩
      case measure => simp [intOf]
    · go_wp2_with fail
      go_ret
      exact ⟨rfl, hB, hD⟩
theorem DeskOk.lay1 {w : World} {base db pb mt mh : Nat} {l : List Rc} {tx : List TxE} {ho : List HE} {p q s : Pg} {lv : Value} {safe : Int} (h : DeskOk w base db pb mt mh l tx ho p q s lv safe) (x : Pg) :
    DeskOk ((((w.setCell ⟨db, 5, none⟩ (.int .i64 x.c0)).setCell ⟨db, 6, none⟩ (.int .i64 x.c1)).setCell ⟨db, 7, none⟩ (.int .i64 x.c2)).setCell ⟨db, 8, none⟩ (.int .i64 x.last)) base db pb mt mh l tx ho p x s lv safe := by
  obtain ⟨n1, n2, n3, n4, n5, _⟩ := h.apart
  have G : Gr (some db) w ((((w.setCell ⟨db, 5, none⟩ (.int .i64 x.c0)).setCell ⟨db, 6, none⟩ (.int .i64 x.c1)).setCell ⟨db, 7, none⟩ (.int .i64 x.c2)).setCell ⟨db, 8, none⟩ (.int .i64 x.last)) := ((((Gr.refl (some db) w).set (p := ⟨db, 5, none⟩) (Or.inr rfl) _).set (p := ⟨db, 6, none⟩) (Or.inr rfl) _).set (p := ⟨db, 7, none⟩) (Or.inr rfl) _).set (p := ⟨db, 8, none⟩) (Or.inr rfl) _
  refine ⟨(((h.blk.set 5 _).set 6 _).set 7 _).set 8 _, ?_, ?_, h.ge, h.free⟩
  · refine h.book.gr G (fun e => n1 (by injection e with e; exact e.symm)) (fun e => n2 (by injection e with e; exact e.symm)) (fun e => n3 (by injection e with e; exact e.symm)) (fun t ht k hk e => ?_)
    injection e with e
    subst e
    exact n4 t ht hk
  · exact own_gr h.own G (fun k hk e => by injection e with e; rw [e] at hk; exact n5 hk)
set_option maxHeartbeats 4000000 in
theorem lay1_any {base db pb mt mh : Nat} {l : List Rc} {tx : List TxE} {ho : List HE} {p q s : Pg} {lv : Value} {safe : Int} (bp : Nat) (w : World) (h : DeskOk w base db pb mt mh l tx ho p q s lv safe) (BP : Blk w bp #[.int .i64 1] 3) :
    Calls Tryz.prog 86 #[.pointer (some ⟨db, 0, none⟩), .slice (some ⟨bp, 0, none⟩) 1 1] w fun e w' => e = .returned (.int .i64 0) ∧ Below base w w' ∧ DeskOk w' base db pb mt mh l tx ho p (pgAt (pagesR l) 1) s lv (maxI safe (pgAt (pagesR l) 1).last) := by
  have hbase : base ≤ w.heap.size := Nat.le_trans h.ge (Nat.le_of_lt h.blk.lt)
  have KP : Hid (∀ w', BookOk w' base pb mt mh l tx ho → w'.cell? ⟨pb, 4, none⟩ = some (.int .i64 (pgAt (pagesR l) 1).c0) ∧ w'.cell? ⟨pb, 5, none⟩ = some (.int .i64 (pgAt (pagesR l) 1).c1) ∧ w'.cell? ⟨pb, 6, none⟩ = some (.int .i64 (pgAt (pagesR l) 1).c2) ∧ w'.cell? ⟨pb, 7, none⟩ = some (.int .i64 (pgAt (pagesR l) 1).last)) := fun w' hb => by
    refine ⟨?_, ?_, ?_, ?_⟩ <;> rw [hb.blk.cell, bookCells_page _ mt mh _ (pagesR_len l) _ (by decide)] <;> rfl
  generalize pgAt (pagesR l) 1 = x at *
  have HD := (show Hid (DeskOk w base db pb mt mh l tx ho p q s lv safe) from h)
  have bp0 := BP.cell
  go_enter Tryz.func86, Tryz.ntmps86
  go_wp2_with fail
  refine (outside_n 1 0 2 _ 0 1 [1] _ rfl (by decide) (cells1 (by simp [bp0]))).mono ?_
  rintro e w1 ⟨rfl, rfl⟩
  rw [show out 0 2 [1] = false from rfl]
  go_wp2_with fail
  go_loopw [11] (fun i wr => (i = .int .i64 0 ∧ wr = w1) ∨ (i = .int .i64 1 ∧ Below base w1 wr ∧ DeskOk wr base db pb mt mh l tx ho p x s lv (maxI safe x.last))) (fun i _ => 1 - (intOf i).toNat)
  case atStart => exact Or.inl ⟨rfl, rfl⟩
  case round =>
    rcases hrel with ⟨rfl, rfl⟩ | ⟨rfl, hB, hD⟩
    · have c0 : wr.cell? ⟨db, 0, none⟩ = some (.pointer (some ⟨pb, 0, none⟩)) := by rw [h.blk.cell]; rfl
      obtain ⟨k0, k1, k2, k3⟩ := KP.out _ h.book
      go_wp2_with fail
      refine (secure_any x.last _ HD.out).mono ?_
      rintro e w2 ⟨rfl, hB2, hD2⟩
      clear c0 k0 k1 k2 k3
      go_wp2_with fail
      have D2d := hD2.ext (Ext.refl w2).drew
      have KC : Hid (∀ w' p' q' s' sf, DeskOk w' base db pb mt mh l tx ho p' q' s' lv sf → w'.cell? ⟨db, 0, none⟩ = some (.pointer (some ⟨pb, 0, none⟩)) ∧ w'.cell? ⟨pb, 4, none⟩ = some (.int .i64 x.c0) ∧ w'.cell? ⟨pb, 5, none⟩ = some (.int .i64 x.c1) ∧ w'.cell? ⟨pb, 6, none⟩ = some (.int .i64 x.c2) ∧ w'.cell? ⟨pb, 7, none⟩ = some (.int .i64 x.last)) := fun w' p' q' s' sf hd => ⟨by rw [hd.blk.cell]; rfl, KP.out w' hd.book⟩
      refine wp_region_held_drew (S := fun w' => w'.cell? ⟨db, 0, none⟩ = some (.pointer (some ⟨pb, 0, none⟩)) ∧ w'.cell? ⟨pb, 4, none⟩ = some (.int .i64 x.c0) ∧ w'.cell? ⟨pb, 5, none⟩ = some (.int .i64 x.c1) ∧ w'.cell? ⟨pb, 6, none⟩ = some (.int .i64 x.c2) ∧ w'.cell? ⟨pb, 7, none⟩ = some (.int .i64 x.last)) (by kernel_rfl) (KC.out _ _ _ _ _ D2d) (fun hHeld => ?_)
      refine wpAnyH_take (i := 0) (v := ?v15) rfl (by kernel_rfl) (by kernel_rfl) (by kernel_rfl) (fun _ _ _ h => h) (Or.inl ⟨by rfl, ?hy15⟩) hHeld ?r15
      case hy15 => first | (intro w hSw; (try dsimp only at hSw); go_simp; done) | (intro w hSw; (try dsimp only at hSw); go_simp; with_reducible rfl)
      simp only [Act.put]
      refine wpAnyH_take (i := 1) (v := ?v16) rfl (by kernel_rfl) (by kernel_rfl) (by kernel_rfl) (fun _ _ _ h => h) (Or.inl ⟨by rfl, ?hy16⟩) hHeld ?r16
      case hy16 => first | (intro w hSw; (try dsimp only at hSw); go_simp; done) | (intro w hSw; (try dsimp only at hSw); go_simp; with_reducible rfl)
      simp only [Act.put]
      refine wpAnyH_take (i := 2) (v := ?v17) rfl (by kernel_rfl) (by kernel_rfl) (by kernel_rfl) (fun _ _ _ h => h) (Or.inl ⟨by rfl, ?hy17⟩) hHeld ?r17
      case hy17 => first | (intro w hSw; (try dsimp only at hSw); go_simp; done) | (intro w hSw; (try dsimp only at hSw); go_simp; with_reducible rfl)
      simp only [Act.put]
      refine wpAnyH_take (i := 3) (v := ?v18) rfl (by kernel_rfl) (by kernel_rfl) (by kernel_rfl) (fun _ _ _ h => h) (Or.inl ⟨by rfl, ?hy18⟩) hHeld ?r18
      case hy18 => first | (intro w hSw; (try dsimp only at hSw); go_simp; done) | (intro w hSw; (try dsimp only at hSw); go_simp; with_reducible rfl)
      simp only [Act.put]
      refine wpAnyH_take (i := 4) (v := ?v19) rfl (by kernel_rfl) (by kernel_rfl) (by kernel_rfl) (fun _ _ _ h => h) (Or.inl ⟨by rfl, ?hy19⟩) hHeld ?r19
      case hy19 => first | (intro w hSw; (try dsimp only at hSw); go_simp; done) | (intro w hSw; (try dsimp only at hSw); go_simp; with_reducible rfl)
      simp only [Act.put]
      refine wpAnyH_take (i := 5) (v := ?v20) rfl (by kernel_rfl) (by kernel_rfl) (by kernel_rfl) (fun _ _ _ h => h) (Or.inl ⟨by rfl, ?hy20⟩) hHeld ?r20
      case hy20 => first | (intro w hSw; (try dsimp only at hSw); go_simp; done) | (intro w hSw; (try dsimp only at hSw); go_simp; with_reducible rfl)
      simp only [Act.put]
      refine wpAnyH_take (i := 6) (v := ?v21) rfl (by kernel_rfl) (by kernel_rfl) (by kernel_rfl) (fun _ _ _ h => h) (Or.inl ⟨by rfl, ?hy21⟩) hHeld ?r21
      case hy21 => first | (intro w hSw; (try dsimp only at hSw); go_simp; done) | (intro w hSw; (try dsimp only at hSw); go_simp; with_reducible rfl)
      simp only [Act.put]
      refine wpAnyH_take (i := 7) (v := ?v22) rfl (by kernel_rfl) (by kernel_rfl) (by kernel_rfl) (fun _ _ _ h => h) (Or.inl ⟨by rfl, ?hy22⟩) hHeld ?r22
      case hy22 => first | (intro w hSw; (try dsimp only at hSw); go_simp; done) | (intro w hSw; (try dsimp only at hSw); go_simp; with_reducible rfl)
      simp only [Act.put]
      refine wpAnyH_take (i := 8) (v := ?v23) rfl (by kernel_rfl) (by kernel_rfl) (by kernel_rfl) (fun _ _ _ h => h) (Or.inl ⟨by rfl, ?hy23⟩) hHeld ?r23
      case hy23 => first | (intro w hSw; (try dsimp only at hSw); go_simp; done) | (intro w hSw; (try dsimp only at hSw); go_simp; with_reducible rfl)
      simp only [Act.put]
      refine wpAnyH_take (i := 9) (v := ?v24) rfl (by kernel_rfl) (by kernel_rfl) (by kernel_rfl) (fun _ _ _ h => h) (Or.inl ⟨by rfl, ?hy24⟩) hHeld ?r24
      case hy24 => first | (intro w hSw; (try dsimp only at hSw); go_simp; done) | (intro w hSw; (try dsimp only at hSw); go_simp; with_reducible rfl)
      simp only [Act.put]
      refine wpAnyH_take (i := 10) (v := ?v25) rfl (by kernel_rfl) (by kernel_rfl) (by kernel_rfl) (fun _ _ _ h => h) (Or.inl ⟨by rfl, ?hy25⟩) hHeld ?r25
      case hy25 => first | (intro w hSw; (try dsimp only at hSw); go_simp; done) | (intro w hSw; (try dsimp only at hSw); go_simp; with_reducible rfl)
      simp only [Act.put]
      refine wpAnyH_take (i := 11) (v := ?v26) rfl (by kernel_rfl) (by kernel_rfl) (by kernel_rfl) (fun _ _ _ h => h) (Or.inl ⟨by rfl, ?hy26⟩) hHeld ?r26
      case hy26 => first | (intro w hSw; (try dsimp only at hSw); go_simp; done) | (intro w hSw; (try dsimp only at hSw); go_simp; with_reducible rfl)
      simp only [Act.put]
      refine wpAnyH_take (i := 12) (v := ?v27) rfl (by kernel_rfl) (by kernel_rfl) (by kernel_rfl) (fun _ _ _ h => h) (Or.inl ⟨by rfl, ?hy27⟩) hHeld ?r27
      case hy27 => first | (intro w hSw; (try dsimp only at hSw); go_simp; done) | (intro w hSw; (try dsimp only at hSw); go_simp; with_reducible rfl)
      simp only [Act.put]
      refine wpAnyH_take (i := 13) (v := ?v28) rfl (by kernel_rfl) (by kernel_rfl) (by kernel_rfl) (fun _ _ _ h => h) (Or.inl ⟨by rfl, ?hy28⟩) hHeld ?r28
      case hy28 => first | (intro w hSw; (try dsimp only at hSw); go_simp; done) | (intro w hSw; (try dsimp only at hSw); go_simp; with_reducible rfl)
      simp only [Act.put]
      have dc := hD2.blk.cell
      have df := hD2.blk.fr
      refine wpAnyH_ready (rs := [14]) (by kernel_rfl) (by simp) ?_
      refine AllReadyH.cons rfl (fun K hK => ?_) AllReadyH.nil
      go_simp
      have D3 := hD2.lay1 x
      have B3 : Below base wr ((((w2.setCell ⟨db, 5, none⟩ (.int .i64 x.c0)).setCell ⟨db, 6, none⟩ (.int .i64 x.c1)).setCell ⟨db, 7, none⟩ (.int .i64 x.c2)).setCell ⟨db, 8, none⟩ (.int .i64 x.last)) := Below.setCell (p := ⟨db, 8, none⟩) (Below.setCell (p := ⟨db, 7, none⟩) (Below.setCell (p := ⟨db, 6, none⟩) (Below.setCell (p := ⟨db, 5, none⟩) hB2 hD2.ge _) hD2.ge _) hD2.ge _) hD2.ge _
      clear hHeld dc df
      refine hK.out _ _ (KC.out _ _ _ _ _ (D3.ext (Ext.refl _).drew)) (fun hHeld => ?_)
      clear hK K
      refine wpAnyH_done (by kernel_rfl) ?_ _
      clear hHeld
      go_wp2_with fail
      go_roundw
      case rel => exact Or.inr ⟨rfl, Below.drew B3, D3.ext (Ext.refl _).drew⟩
      case measure => simp [intOf]
    · go_wp2_with fail
      go_ret
      exact ⟨rfl, hB, hD⟩
theorem DeskOk.lay2 {w : World} {base db pb mt mh : Nat} {l : List Rc} {tx : List TxE} {ho : List HE} {p q s : Pg} {lv : Value} {safe : Int} (h : DeskOk w base db pb mt mh l tx ho p q s lv safe) (x : Pg) :
    DeskOk ((((w.setCell ⟨db, 9, none⟩ (.int .i64 x.c0)).setCell ⟨db, 10, none⟩ (.int .i64 x.c1)).setCell ⟨db, 11, none⟩ (.int .i64 x.c2)).setCell ⟨db, 12, none⟩ (.int .i64 x.last)) base db pb mt mh l tx ho p q x lv safe := by
  obtain ⟨n1, n2, n3, n4, n5, _⟩ := h.apart
  have G : Gr (some db) w ((((w.setCell ⟨db, 9, none⟩ (.int .i64 x.c0)).setCell ⟨db, 10, none⟩ (.int .i64 x.c1)).setCell ⟨db, 11, none⟩ (.int .i64 x.c2)).setCell ⟨db, 12, none⟩ (.int .i64 x.last)) := ((((Gr.refl (some db) w).set (p := ⟨db, 9, none⟩) (Or.inr rfl) _).set (p := ⟨db, 10, none⟩) (Or.inr rfl) _).set (p := ⟨db, 11, none⟩) (Or.inr rfl) _).set (p := ⟨db, 12, none⟩) (Or.inr rfl) _
  refine ⟨(((h.blk.set 9 _).set 10 _).set 11 _).set 12 _, ?_, ?_, h.ge, h.free⟩
  · refine h.book.gr G (fun e => n1 (by injection e with e; exact e.symm)) (fun e => n2 (by injection e with e; exact e.symm)) (fun e => n3 (by injection e with e; exact e.symm)) (fun t ht k hk e => ?_)
    injection e with e
    subst e
    exact n4 t ht hk
  · exact own_gr h.own G (fun k hk e => by injection e with e; rw [e] at hk; exact n5 hk)
set_option maxHeartbeats 4000000 in
theorem lay2_any {base db pb mt mh : Nat} {l : List Rc} {tx : List TxE} {ho : List HE} {p q s : Pg} {lv : Value} {safe : Int} (bp : Nat) (w : World) (h : DeskOk w base db pb mt mh l tx ho p q s lv safe) (BP : Blk w bp #[.int .i64 2] 3) :
    Calls Tryz.prog 86 #[.pointer (some ⟨db, 0, none⟩), .slice (some ⟨bp, 0, none⟩) 1 1] w fun e w' => e = .returned (.int .i64 0) ∧ Below base w w' ∧ DeskOk w' base db pb mt mh l tx ho p q (pgAt (pagesR l) 2) lv (maxI safe (pgAt (pagesR l) 2).last) := by
  have hbase : base ≤ w.heap.size := Nat.le_trans h.ge (Nat.le_of_lt h.blk.lt)
  have KP : Hid (∀ w', BookOk w' base pb mt mh l tx ho → w'.cell? ⟨pb, 8, none⟩ = some (.int .i64 (pgAt (pagesR l) 2).c0) ∧ w'.cell? ⟨pb, 9, none⟩ = some (.int .i64 (pgAt (pagesR l) 2).c1) ∧ w'.cell? ⟨pb, 10, none⟩ = some (.int .i64 (pgAt (pagesR l) 2).c2) ∧ w'.cell? ⟨pb, 11, none⟩ = some (.int .i64 (pgAt (pagesR l) 2).last)) := fun w' hb => by
    refine ⟨?_, ?_, ?_, ?_⟩ <;> rw [hb.blk.cell, bookCells_page _ mt mh _ (pagesR_len l) _ (by decide)] <;> rfl
  generalize pgAt (pagesR l) 2 = x at *
  have HD := (show Hid (DeskOk w base db pb mt mh l tx ho p q s lv safe) from h)
  have bp0 := BP.cell
  go_enter Tryz.func86, Tryz.ntmps86
  go_wp2_with fail
  refine (outside_n 1 0 2 _ 0 1 [2] _ rfl (by decide) (cells1 (by simp [bp0]))).mono ?_
  rintro e w1 ⟨rfl, rfl⟩
  rw [show out 0 2 [2] = false from rfl]
  go_wp2_with fail
  go_loopw [11] (fun i wr => (i = .int .i64 0 ∧ wr = w1) ∨ (i = .int .i64 1 ∧ Below base w1 wr ∧ DeskOk wr base db pb mt mh l tx ho p q x lv (maxI safe x.last))) (fun i _ => 1 - (intOf i).toNat)
  case atStart => exact Or.inl ⟨rfl, rfl⟩
  case round =>
    rcases hrel with ⟨rfl, rfl⟩ | ⟨rfl, hB, hD⟩
    · have c0 : wr.cell? ⟨db, 0, none⟩ = some (.pointer (some ⟨pb, 0, none⟩)) := by rw [h.blk.cell]; rfl
      obtain ⟨k0, k1, k2, k3⟩ := KP.out _ h.book
      go_wp2_with fail
      refine (secure_any x.last _ HD.out).mono ?_
      rintro e w2 ⟨rfl, hB2, hD2⟩
      clear c0 k0 k1 k2 k3
      go_wp2_with fail
      have D2d := hD2.ext (Ext.refl w2).drew
      have KC : Hid (∀ w' p' q' s' sf, DeskOk w' base db pb mt mh l tx ho p' q' s' lv sf → w'.cell? ⟨db, 0, none⟩ = some (.pointer (some ⟨pb, 0, none⟩)) ∧ w'.cell? ⟨pb, 8, none⟩ = some (.int .i64 x.c0) ∧ w'.cell? ⟨pb, 9, none⟩ = some (.int .i64 x.c1) ∧ w'.cell? ⟨pb, 10, none⟩ = some (.int .i64 x.c2) ∧ w'.cell? ⟨pb, 11, none⟩ = some (.int .i64 x.last)) := fun w' p' q' s' sf hd => ⟨by rw [hd.blk.cell]; rfl, KP.out w' hd.book⟩
      refine wp_region_held_drew (S := fun w' => w'.cell? ⟨db, 0, none⟩ = some (.pointer (some ⟨pb, 0, none⟩)) ∧ w'.cell? ⟨pb, 8, none⟩ = some (.int .i64 x.c0) ∧ w'.cell? ⟨pb, 9, none⟩ = some (.int .i64 x.c1) ∧ w'.cell? ⟨pb, 10, none⟩ = some (.int .i64 x.c2) ∧ w'.cell? ⟨pb, 11, none⟩ = some (.int .i64 x.last)) (by kernel_rfl) (KC.out _ _ _ _ _ D2d) (fun hHeld => ?_)
      refine wpAnyH_take (i := 0) (v := ?v29) rfl (by kernel_rfl) (by kernel_rfl) (by kernel_rfl) (fun _ _ _ h => h) (Or.inl ⟨by rfl, ?hy29⟩) hHeld ?r29
      case hy29 => first | (intro w hSw; (try dsimp only at hSw); go_simp; done) | (intro w hSw; (try dsimp only at hSw); go_simp; with_reducible rfl)
      simp only [Act.put]
      refine wpAnyH_take (i := 1) (v := ?v30) rfl (by kernel_rfl) (by kernel_rfl) (by kernel_rfl) (fun _ _ _ h => h) (Or.inl ⟨by rfl, ?hy30⟩) hHeld ?r30
      case hy30 => first | (intro w hSw; (try dsimp only at hSw); go_simp; done) | (intro w hSw; (try dsimp only at hSw); go_simp; with_reducible rfl)
      simp only [Act.put]
      refine wpAnyH_take (i := 2) (v := ?v31) rfl (by kernel_rfl) (by kernel_rfl) (by kernel_rfl) (fun _ _ _ h => h) (Or.inl ⟨by rfl, ?hy31⟩) hHeld ?r31
      case hy31 => first | (intro w hSw; (try dsimp only at hSw); go_simp; done) | (intro w hSw; (try dsimp only at hSw); go_simp; with_reducible rfl)
      simp only [Act.put]
      refine wpAnyH_take (i := 3) (v := ?v32) rfl (by kernel_rfl) (by kernel_rfl) (by kernel_rfl) (fun _ _ _ h => h) (Or.inl ⟨by rfl, ?hy32⟩) hHeld ?r32
      case hy32 => first | (intro w hSw; (try dsimp only at hSw); go_simp; done) | (intro w hSw; (try dsimp only at hSw); go_simp; with_reducible rfl)
      simp only [Act.put]
      refine wpAnyH_take (i := 4) (v := ?v33) rfl (by kernel_rfl) (by kernel_rfl) (by kernel_rfl) (fun _ _ _ h => h) (Or.inl ⟨by rfl, ?hy33⟩) hHeld ?r33
      case hy33 => first | (intro w hSw; (try dsimp only at hSw); go_simp; done) | (intro w hSw; (try dsimp only at hSw); go_simp; with_reducible rfl)
      simp only [Act.put]
      refine wpAnyH_take (i := 5) (v := ?v34) rfl (by kernel_rfl) (by kernel_rfl) (by kernel_rfl) (fun _ _ _ h => h) (Or.inl ⟨by rfl, ?hy34⟩) hHeld ?r34
      case hy34 => first | (intro w hSw; (try dsimp only at hSw); go_simp; done) | (intro w hSw; (try dsimp only at hSw); go_simp; with_reducible rfl)
      simp only [Act.put]
      refine wpAnyH_take (i := 6) (v := ?v35) rfl (by kernel_rfl) (by kernel_rfl) (by kernel_rfl) (fun _ _ _ h => h) (Or.inl ⟨by rfl, ?hy35⟩) hHeld ?r35
      case hy35 => first | (intro w hSw; (try dsimp only at hSw); go_simp; done) | (intro w hSw; (try dsimp only at hSw); go_simp; with_reducible rfl)
      simp only [Act.put]
      refine wpAnyH_take (i := 7) (v := ?v36) rfl (by kernel_rfl) (by kernel_rfl) (by kernel_rfl) (fun _ _ _ h => h) (Or.inl ⟨by rfl, ?hy36⟩) hHeld ?r36
      case hy36 => first | (intro w hSw; (try dsimp only at hSw); go_simp; done) | (intro w hSw; (try dsimp only at hSw); go_simp; with_reducible rfl)
      simp only [Act.put]
      refine wpAnyH_take (i := 8) (v := ?v37) rfl (by kernel_rfl) (by kernel_rfl) (by kernel_rfl) (fun _ _ _ h => h) (Or.inl ⟨by rfl, ?hy37⟩) hHeld ?r37
      case hy37 => first | (intro w hSw; (try dsimp only at hSw); go_simp; done) | (intro w hSw; (try dsimp only at hSw); go_simp; with_reducible rfl)
      simp only [Act.put]
      refine wpAnyH_take (i := 9) (v := ?v38) rfl (by kernel_rfl) (by kernel_rfl) (by kernel_rfl) (fun _ _ _ h => h) (Or.inl ⟨by rfl, ?hy38⟩) hHeld ?r38
      case hy38 => first | (intro w hSw; (try dsimp only at hSw); go_simp; done) | (intro w hSw; (try dsimp only at hSw); go_simp; with_reducible rfl)
      simp only [Act.put]
      refine wpAnyH_take (i := 10) (v := ?v39) rfl (by kernel_rfl) (by kernel_rfl) (by kernel_rfl) (fun _ _ _ h => h) (Or.inl ⟨by rfl, ?hy39⟩) hHeld ?r39
      case hy39 => first | (intro w hSw; (try dsimp only at hSw); go_simp; done) | (intro w hSw; (try dsimp only at hSw); go_simp; with_reducible rfl)
      simp only [Act.put]
      refine wpAnyH_take (i := 11) (v := ?v40) rfl (by kernel_rfl) (by kernel_rfl) (by kernel_rfl) (fun _ _ _ h => h) (Or.inl ⟨by rfl, ?hy40⟩) hHeld ?r40
      case hy40 => first | (intro w hSw; (try dsimp only at hSw); go_simp; done) | (intro w hSw; (try dsimp only at hSw); go_simp; with_reducible rfl)
      simp only [Act.put]
      refine wpAnyH_take (i := 12) (v := ?v41) rfl (by kernel_rfl) (by kernel_rfl) (by kernel_rfl) (fun _ _ _ h => h) (Or.inl ⟨by rfl, ?hy41⟩) hHeld ?r41
      case hy41 => first | (intro w hSw; (try dsimp only at hSw); go_simp; done) | (intro w hSw; (try dsimp only at hSw); go_simp; with_reducible rfl)
      simp only [Act.put]
      refine wpAnyH_take (i := 13) (v := ?v42) rfl (by kernel_rfl) (by kernel_rfl) (by kernel_rfl) (fun _ _ _ h => h) (Or.inl ⟨by rfl, ?hy42⟩) hHeld ?r42
      case hy42 => first | (intro w hSw; (try dsimp only at hSw); go_simp; done) | (intro w hSw; (try dsimp only at hSw); go_simp; with_reducible rfl)
      simp only [Act.put]
      have dc := hD2.blk.cell
      have df := hD2.blk.fr
      refine wpAnyH_ready (rs := [14]) (by kernel_rfl) (by simp) ?_
      refine AllReadyH.cons rfl (fun K hK => ?_) AllReadyH.nil
      go_simp
      have D3 := hD2.lay2 x
      have B3 : Below base wr ((((w2.setCell ⟨db, 9, none⟩ (.int .i64 x.c0)).setCell ⟨db, 10, none⟩ (.int .i64 x.c1)).setCell ⟨db, 11, none⟩ (.int .i64 x.c2)).setCell ⟨db, 12, none⟩ (.int .i64 x.last)) := Below.setCell (p := ⟨db, 12, none⟩) (Below.setCell (p := ⟨db, 11, none⟩) (Below.setCell (p := ⟨db, 10, none⟩) (Below.setCell (p := ⟨db, 9, none⟩) hB2 hD2.ge _) hD2.ge _) hD2.ge _) hD2.ge _
      clear hHeld dc df
      refine hK.out _ _ (KC.out _ _ _ _ _ (D3.ext (Ext.refl _).drew)) (fun hHeld => ?_)
      clear hK K
      refine wpAnyH_done (by kernel_rfl) ?_ _
      clear hHeld
      go_wp2_with fail
      go_roundw
      case rel => exact Or.inr ⟨rfl, Below.drew B3, D3.ext (Ext.refl _).drew⟩
      case measure => simp [intOf]
    · go_wp2_with fail
      go_ret
      exact ⟨rfl, hB, hD⟩
end Go.Proofs.YtbfefocehnafgaaGreat.B
