/- The contracts of the reference's OwnWorld and put. -/
import Derived.Test.YtbfefocehnafgaaGreatWorkA
import Derived.Laws.AppendOwnNone
namespace Go.Proofs.YtbfefocehnafgaaGreat.B
set_option maxRecDepth 100000
open Go.ChangeShapes Go.WideShapes Go.ChangeAt Go.RowKit

/-- A record with the number of the one ahead. -/
def linkR (l : List Rc) (r : Rc) : Rc := ⟨r.kind, r.txn, (lastR l r.txn : Nat), r.page, r.cell, r.old, r.new, r.next⟩
theorem own_fresh (w : World) (o1 o2 : Obj) : (((w.alloc o1).alloc o2).alloc (.cells #[] 62)).ownsRow w.heap.size 62 8 (.slice (some ⟨w.heap.size + 1 + 1, 0, none⟩) 0 0) 0 [] := by
  have := World.ownsRow_lit (base := w.heap.size) (e := 62) (size := 8) ((w.alloc o1).alloc o2) #[] 0 (by simp; omega) (by decide) rfl
  simpa using this
set_option maxHeartbeats 4000000 in
theorem ownWorld_any (p q r : Pg) (a : Option Addr) (len cap : Nat) (l : List Rc) (safe : Int) (w : World) (h : LogIn w a len cap l) (hl : len ≤ 60) :
    Calls Tryz.prog 26 #[wdVal p q r (.slice a len cap) safe] w fun e w' => ∃ a' cap', e = .returned (wdVal p q r (.slice a' l.length cap') safe) ∧ Ext w w' ∧ w'.ownsRow w.heap.size 62 8 (.slice a' l.length cap') l.length (flat l) := by
  obtain ⟨i0, hi, hz0, hz1, hz2⟩ := info_parts infoRec
  have HI := (show Hid _ from hi)
  have Z0 := (show Hid _ from hz0)
  have Z1 := (show Hid _ from hz1)
  have Z2 := (show Hid _ from hz2)
  clear hi hz0 hz1 hz2
  have hll := h.recs.len
  have E0 := (((Ext.refl w).alloc (.cells (wdCells p q r (.slice a len cap) safe) 28)).alloc (.cells (wdCells noPg noPg noPg (.slice none 0 0) 0) 28)).alloc (.cells #[] 62)
  have B0 := ((Blk.new w w.heap.size (wdCells p q r (.slice a len cap) safe) 28 rfl).alloc (.cells (wdCells noPg noPg noPg (.slice none 0 0) 0) 28)).alloc (.cells #[] 62)
  have N0 := (Blk.new (w.alloc (.cells (wdCells p q r (.slice a len cap) safe) 28)) (w.heap.size + 1) (wdCells noPg noPg noPg (.slice none 0 0) 0) 28 (by simp)).alloc (.cells #[] 62)
  have hN := own_fresh w (.cells (wdCells p q r (.slice a len cap) safe) 28) (.cells (wdCells noPg noPg noPg (.slice none 0 0) 0) 28)
  have b0 := B0.cell
  cases a with
  | none =>
    obtain rfl := h.nil rfl
    have hl0 : len = 0 := by
      rcases h.recs.2 with ⟨_, h0⟩ | ⟨b, off, e, _⟩
      · exact h0
      · cases e
    subst hl0
    have hl1 : l = [] := List.length_eq_zero_iff.1 hll
    subst hl1
    go_enter Tryz.func26, Tryz.ntmps26
    go_wp2_with (at_builtin; refine wpList_append_own_none _ rfl _ _ 26 rfl w.heap.size 62 i0 8 Tryz.underlying26 HI.out (.slice (some ⟨w.heap.size + 1 + 1, 0, none⟩) 0 0) 0 [] rfl hN rfl ?_)
    refine bodyPost_ret (v := .agg (wdCells p q r (.slice (some ⟨w.heap.size + 1 + 1, 0, none⟩) 0 0) safe)) (by simp [results, Tryz.results26, go_sem]) rfl ⟨_, _, rfl, ?_, ?_⟩
    · exact (((Ext.refl w).alloc _).alloc _).alloc _
    · exact own_fresh w _ _
  | some ad =>
    obtain ⟨b, off, rfl⟩ : ∃ b off, ad = ⟨b, off, none⟩ := by
      rcases h.recs.2 with ⟨e, _⟩ | ⟨b, off, e, _⟩
      · cases e
      · injection e with e; exact ⟨b, off, e⟩
    have hcl := recs_cells (h.recs.ext E0)
    have HLen : Hid ((flat l).length = len * 8) := by rw [Hid, flat_len, hll]
    go_enter Tryz.func26, Tryz.ntmps26
    go_wp2_with (at_builtin; refine wpList_append_own _ rfl _ _ 26 rfl w.heap.size 62 i0 (.agg #[.int .i64 0, .int .i64 0, .int .i64 0, .int .i64 0, .int .i64 0, .int .i64 0, .int .i64 0, .int .i64 0]) 8 64 Tryz.underlying26 HI.out Z0.out Z1.out Z2.out rfl (by decide) (.slice (some ⟨w.heap.size + 1 + 1, 0, none⟩) 0 0) 0 [] rfl hN ⟨b, off, none⟩ len cap (flat l) rfl HLen.out hcl (flat_one l) (by unfold maxLen; omega) (by omega) (by simp; omega) ?_; intro v' w3 hown' hgrow hnil3; obtain ⟨sa, sm, sc, hvv⟩ := own_slice hown'; subst hvv; clear hnil3; have B3 := B0.gr hgrow (by simp [Value.ownBlock] <;> omega); have N3 := N0.gr hgrow (by simp [Value.ownBlock] <;> omega); have b3 := B3.cell; have f3 := B3.fr; have B4 := B3.set 12 (.slice sa sm sc); have b4 := B4.cell; have N4 := N3.other ⟨w.heap.size, 12, none⟩ (.slice sa sm sc) (by simp); have n4 := N4.cell; have g4 := N4.fr)
    have E3 : Ext w w3 := E0.grown hN hgrow
    rw [Nat.zero_add, List.nil_append, ← hll] at hown'
    have G4 : Gr (some w.heap.size) w3 (w3.setCell ⟨w.heap.size, 12, none⟩ (.slice sa sm sc)) := (Gr.refl (some w.heap.size) w3).set (p := ⟨w.heap.size, 12, none⟩) (Or.inr rfl) _
    have own4 := own_gr hown' G4 (fun k hk e => by injection e with e; exact own_notblk hown' B3 (by decide) k hk e)
    have E4 := E3.setCell (p := ⟨w.heap.size, 12, none⟩) (Nat.le_refl _) (.slice sa sm sc)
    have G5 := put14_gr (w3.setCell ⟨w.heap.size, 12, none⟩ (.slice sa sm sc)) (w.heap.size + 1) (.int .i64 p.c0) (.int .i64 p.c1) (.int .i64 p.c2) (.int .i64 p.last) (.int .i64 q.c0) (.int .i64 q.c1) (.int .i64 q.c2) (.int .i64 q.last) (.int .i64 r.c0) (.int .i64 r.c1) (.int .i64 r.c2) (.int .i64 r.last) (.slice sa sm sc) (.int .i64 safe)
    have own5 := own_gr own4 G5 (fun k hk e => by injection e with e; exact own_notblk own4 N4 (by decide) k hk e)
    have E5 := put14_ext E4 (w.heap.size + 1) (by omega) (.int .i64 p.c0) (.int .i64 p.c1) (.int .i64 p.c2) (.int .i64 p.last) (.int .i64 q.c0) (.int .i64 q.c1) (.int .i64 q.c2) (.int .i64 q.last) (.int .i64 r.c0) (.int .i64 r.c1) (.int .i64 r.c2) (.int .i64 r.last) (.slice sa sm sc) (.int .i64 safe)
    obtain rfl := own_len hown'
    refine bodyPost_ret (v := .agg (wdCells p q r (.slice sa l.length sc) safe)) (by simp [results, Tryz.results26, go_sem, n4]) rfl ⟨_, _, rfl, ?_, ?_⟩
    · exact E5
    · exact own5
set_option maxHeartbeats 8000000 in
theorem refPut_full (b : Nat) (p q s : Pg) (a : Option Addr) (cap : Nat) (l : List Rc) (safe : Int) (r : Rc) (w : World) (B : Blk w b (wdCells p q s (.slice a l.length cap) safe) 28) (hl : l.length = 60) :
    Calls Tryz.prog 72 #[.pointer (some ⟨b, 0, none⟩), r.val] w fun e w' => e = .returned (.bool false) ∧ Ext w w' := by
  have E0 := (Ext.refl w).alloc (.cells r.cs 62)
  have c := (B.ext E0).cell
  rw [hl] at c
  go_enter Tryz.func72, Tryz.ntmps72
  go_wp2_with fail
  go_ret
  exact ⟨rfl, E0⟩
set_option maxHeartbeats 8000000 in
theorem refPut_any (base b : Nat) (p q s : Pg) (a : Option Addr) (cap : Nat) (l : List Rc) (safe : Int) (r : Rc) (w : World) (B : Blk w b (wdCells p q s (.slice a l.length cap) safe) 28) (hown : w.ownsRow base 62 8 (.slice a l.length cap) l.length (flat l)) (hl : l.length < 60) (hb : base ≤ b) :
    Calls Tryz.prog 72 #[.pointer (some ⟨b, 0, none⟩), r.val] w fun e w' => e = .returned (.bool true) ∧ Below base w w' ∧ ∃ a' cap', Blk w' b (wdCells p q s (.slice a' (l.length + 1) cap') safe) 28 ∧ w'.ownsRow base 62 8 (.slice a' (l.length + 1) cap') (l ++ [linkR l r]).length (flat (l ++ [linkR l r])) := by
  obtain ⟨i0, hi, hz0, hz1, hz2⟩ := info_parts infoRec
  have HI := (show Hid _ from hi)
  have Z0 := (show Hid _ from hz0)
  have Z1 := (show Hid _ from hz1)
  have Z2 := (show Hid _ from hz2)
  clear hi hz0 hz1 hz2
  have hbl := B.lt
  have hbase : base ≤ w.heap.size := by omega
  have hrl : Recs w a l.length l := by
    obtain ⟨a2, c2, h1, h2, _⟩ := recs_own' hown
    injection h1 with h3 h4 h5
    subst h3
    exact h2
  have nlog : (Value.slice a l.length cap).ownBlock ≠ some b := fun e => own_notblk hown B (by decide) b e rfl
  have nrow : (Value.slice a l.length cap).ownBlock ≠ some w.heap.size := fun e => by have := own_lt hown _ e; omega
  have hrb : b ≠ w.heap.size := by omega
  have HRR : Hid (linkR l r = ⟨r.kind, r.txn, (lastR l r.txn : Nat), r.page, r.cell, r.old, r.new, r.next⟩) := rfl
  have hne : ((l.length : Int) == 60) = false := by simp; omega
  have E0 := (Ext.refl w).alloc (.cells r.cs 62)
  have B0 := B.ext E0
  have R0 := Blk.new w w.heap.size r.cs 62 rfl
  have hr0 := hrl.ext E0
  have own0 := own_ext hown E0
  have c := B0.cell
  go_enter Tryz.func72, Tryz.ntmps72
  go_wp2_with fail
  clear c
  generalize hW : w.alloc (.cells r.cs 62) = W at *
  have hWs : W.heap.size = w.heap.size + 1 := by rw [← hW]; simp
  clear hW
  have Ed := (Ext.refl W).drew
  have KC : Hid (∀ w', Blk w' b (wdCells p q s (.slice a l.length cap) safe) 28 → w'.cell? ⟨w.heap.size, 1, none⟩ = some (.int .i64 r.txn) → w'.cell? ⟨b, 12, none⟩ = some (.slice a l.length cap) ∧ w'.cell? ⟨w.heap.size, 1, none⟩ = some (.int .i64 r.txn)) := fun w' x y => ⟨by rw [x.cell]; rfl, y⟩
  refine wp_region_held_drew (S := fun w' => w'.cell? ⟨b, 12, none⟩ = some (.slice a l.length cap) ∧ w'.cell? ⟨w.heap.size, 1, none⟩ = some (.int .i64 r.txn)) (by kernel_rfl) (KC.out _ (B0.ext Ed) (by rw [(R0.ext Ed).cell]; rfl)) (fun hHeld => ?_)
  refine wpAnyH_take (i := 0) (v := ?v1) rfl (by kernel_rfl) (by kernel_rfl) (by kernel_rfl) (fun _ _ _ h => h) (Or.inl ⟨by rfl, ?hy1⟩) hHeld ?r1
  case hy1 => first | (intro w hSw; (try dsimp only at hSw); go_simp; done) | (intro w hSw; (try dsimp only at hSw); go_simp; with_reducible rfl)
  simp only [Act.put]
  refine wpAnyH_take (i := 1) (v := ?v2) rfl (by kernel_rfl) (by kernel_rfl) (by kernel_rfl) (fun _ _ _ h => h) (Or.inl ⟨by rfl, ?hy2⟩) hHeld ?r2
  case hy2 => first | (intro w hSw; (try dsimp only at hSw); go_simp; done) | (intro w hSw; (try dsimp only at hSw); go_simp; with_reducible rfl)
  simp only [Act.put]
  refine wpAnyH_take (i := 2) (v := ?v3) rfl (by kernel_rfl) (by kernel_rfl) (by kernel_rfl) (fun _ _ _ h => h) (Or.inl ⟨by rfl, ?hy3⟩) hHeld ?r3
  case hy3 => first | (intro w hSw; (try dsimp only at hSw); go_simp; done) | (intro w hSw; (try dsimp only at hSw); go_simp; with_reducible rfl)
  simp only [Act.put]
  refine wpAnyH_take (i := 3) (v := ?v4) rfl (by kernel_rfl) (by kernel_rfl) (by kernel_rfl) (fun _ _ _ h => h) (Or.inl ⟨by rfl, ?hy4⟩) hHeld ?r4
  case hy4 => first | (intro w hSw; (try dsimp only at hSw); go_simp; done) | (intro w hSw; (try dsimp only at hSw); go_simp; with_reducible rfl)
  simp only [Act.put]
  refine wpAnyH_take (i := 4) (v := ?v5) rfl (by kernel_rfl) (by kernel_rfl) (by kernel_rfl) (fun _ _ _ h => h) (Or.inl ⟨by rfl, ?hy5⟩) hHeld ?r5
  case hy5 => first | (intro w hSw; (try dsimp only at hSw); go_simp; done) | (intro w hSw; (try dsimp only at hSw); go_simp; with_reducible rfl)
  simp only [Act.put]
  refine wpAnyH_take (i := 5) (v := ?v6) rfl (by kernel_rfl) (by kernel_rfl) (by kernel_rfl) (fun _ _ _ h => h) (Or.inl ⟨by rfl, ?hy6⟩) hHeld ?r6
  case hy6 => first | (intro w hSw; (try dsimp only at hSw); go_simp; done) | (intro w hSw; (try dsimp only at hSw); go_simp; with_reducible rfl)
  simp only [Act.put]
  refine wpAnyH_ready (rs := [6]) (by kernel_rfl) (by simp) ?_
  refine AllReadyH.cons rfl (fun K hK => ?_) AllReadyH.nil
  go_simp
  refine (last_any a l.length cap l r.txn _ (hr0.ext Ed) (by omega)).mono ?_
  rintro e w1 ⟨rfl, rfl⟩
  go_wp2_with fail
  refine hK.out _ _ hHeld (fun hHeld => ?_)
  clear hK K
  refine wpAnyH_take (i := 7) (v := ?v7) rfl (by kernel_rfl) (by kernel_rfl) (by kernel_rfl) (fun _ _ _ h => h) (Or.inl ⟨by rfl, ?hy7⟩) hHeld ?r7
  case hy7 => first | (intro w hSw; (try dsimp only at hSw); go_simp; done) | (intro w hSw; (try dsimp only at hSw); go_simp; with_reducible rfl)
  simp only [Act.put]
  have c2 : W.cell? ⟨w.heap.size, 2, none⟩ = some (.int .i64 r.prev) := by rw [R0.cell]; rfl
  have f2 := R0.fr 2
  refine wpAnyH_ready (rs := [8]) (by kernel_rfl) (by simp) ?_
  refine AllReadyH.cons rfl (fun K hK => ?_) AllReadyH.nil
  go_simp
  have R1 := (R0.set 2 (.int .i64 (lastR l r.txn : Nat))).drew
  have B1 := (B0.other ⟨w.heap.size, 2, none⟩ (.int .i64 (lastR l r.txn : Nat)) hrb).drew
  have G1 : Gr (some w.heap.size) W (W.setCell ⟨w.heap.size, 2, none⟩ (.int .i64 (lastR l r.txn : Nat))).drew := ((Gr.refl (some w.heap.size) W).set (p := ⟨w.heap.size, 2, none⟩) (Or.inr rfl) _).drew
  have own1 := own_gr own0 G1 (fun k hk e => by injection e with e; rw [e] at hk; exact nrow hk)
  have bel1 : Below base w (W.setCell ⟨w.heap.size, 2, none⟩ (.int .i64 (lastR l r.txn : Nat))).drew := Below.drew (Below.setCell (Below.mono E0 hbase) hbase _)
  refine hK.out _ _ (KC.out _ B1 (by rw [R1.cell]; rfl)) (fun hHeld => ?_)
  clear hK K hHeld c2 f2
  refine wpAnyH_done (by kernel_rfl) ?_ _
  clear KC
  have R2 : Blk (W.setCell ⟨w.heap.size, 2, none⟩ (.int .i64 (lastR l r.txn : Nat))).drew w.heap.size (Rc.mk r.kind r.txn (lastR l r.txn : Nat) r.page r.cell r.old r.new r.next).cs 62 := R1
  have hsz2 : (W.setCell ⟨w.heap.size, 2, none⟩ (.int .i64 (lastR l r.txn : Nat))).drew.heap.size ≥ w.heap.size + 1 := by
    show (W.setCell ⟨w.heap.size, 2, none⟩ (.int .i64 (lastR l r.txn : Nat))).heap.size ≥ _
    rw [World.size_setCell]; omega
  generalize (W.setCell ⟨w.heap.size, 2, none⟩ (.int .i64 (lastR l r.txn : Nat))).drew = w2 at *
  obtain ⟨r', hr'⟩ : ∃ r' : Rc, r' = ⟨r.kind, r.txn, (lastR l r.txn : Nat), r.page, r.cell, r.old, r.new, r.next⟩ := ⟨_, rfl⟩
  rw [← hr'] at HRR R2
  clear hr'
  have D2 := B1
  have own2 := own1
  have bel2 := bel1
  clear R1 R0 B1 B0 own1 own0 bel1 G1 hr0 Ed E0 hWs
  go_wp2_with fail
  have E2d := (Ext.refl w2).drew
  have c13 : ∀ w', Ext w2 w' → w'.cell? ⟨b, 12, none⟩ = some (.slice a l.length cap) := fun w' e => by rw [(D2.ext e).cell]; rfl
  have C13 := (show Hid _ from c13)
  clear c13
  refine wp_region_held_drew (S := fun w' => ∀ o, w'.cell? ⟨w.heap.size, o, none⟩ = r'.cs[o]?) (by kernel_rfl) (R2.ext E2d).cell (fun hHeld => ?_)
  refine wpAnyH_take (i := 0) (v := ?v8) rfl (by kernel_rfl) (by kernel_rfl) (by kernel_rfl) (fun _ _ _ h => h) (Or.inl ⟨by rfl, ?hy8⟩) hHeld ?r8
  case hy8 => first | (intro w hSw; (try dsimp only at hSw); go_simp; done) | (intro w hSw; (try dsimp only at hSw); go_simp; with_reducible rfl)
  simp only [Act.put]
  refine wpAnyH_take (i := 1) (v := ?v9) rfl (by kernel_rfl) (by kernel_rfl) (by kernel_rfl) (fun _ _ _ h => h) (Or.inl ⟨by rfl, ?hy9⟩) hHeld ?r9
  case hy9 => first | (intro w hSw; (try dsimp only at hSw); go_simp; done) | (intro w hSw; (try dsimp only at hSw); go_simp; with_reducible rfl)
  simp only [Act.put]
  refine wpAnyH_take (i := 2) (v := ?v10) rfl (by kernel_rfl) (by kernel_rfl) (by kernel_rfl) (fun _ _ _ h => h) (Or.inl ⟨by rfl, ?hy10⟩) hHeld ?r10
  case hy10 => first | (intro w hSw; (try dsimp only at hSw); go_simp; done) | (intro w hSw; (try dsimp only at hSw); go_simp; with_reducible rfl)
  simp only [Act.put]
  refine wpAnyH_take (i := 3) (v := ?v11) rfl (by kernel_rfl) (by kernel_rfl) (by kernel_rfl) (fun _ _ _ h => h) (Or.inl ⟨by rfl, ?hy11⟩) hHeld ?r11
  case hy11 => first | (intro w hSw; (try dsimp only at hSw); go_simp; done) | (intro w hSw; (try dsimp only at hSw); go_simp; with_reducible rfl)
  simp only [Act.put]
  refine wpAnyH_take (i := 5) (v := ?v12) rfl (by kernel_rfl) (by kernel_rfl) (by kernel_rfl) (fun _ _ _ h => h) (Or.inl ⟨by rfl, ?hy12⟩) hHeld ?r12
  case hy12 => first | (intro w hSw; (try dsimp only at hSw); go_simp; done) | (intro w hSw; (try dsimp only at hSw); go_simp; with_reducible rfl)
  simp only [Act.put]
  have V0 := (Ext.refl w2).drew.alloc (.cells r'.cs 62)
  refine wpAnyH_ready (rs := [4, 6]) (by kernel_rfl) (by simp) ?_
  refine AllReadyH.cons rfl (fun K hK => ?_) (AllReadyH.cons rfl (fun K hK => ?_) AllReadyH.nil)
  · have c := C13.out w2.drew E2d
    go_simp
    refine hK.out _ _ (R2.ext E2d).cell (fun hHeld => ?_)
    clear hK K
    refine wpAnyH_ready (rs := [6]) (by kernel_rfl) (by simp) ?_
    refine AllReadyH.cons rfl (fun K hK => ?_) AllReadyH.nil
    go_simp
    refine hK.out _ _ (R2.ext V0).cell (fun hHeld => ?_)
    clear hK K c
    refine wpAnyH_ready (rs := [7]) (by kernel_rfl) (by simp) ?_
    refine AllReadyH.cons rfl (fun K hK => ?_) AllReadyH.nil
    refine step_append_lies _ rfl _ _ 26 rfl base 62 i0 (.agg #[.int .i64 0, .int .i64 0, .int .i64 0, .int .i64 0, .int .i64 0, .int .i64 0, .int .i64 0, .int .i64 0]) 8 64 Tryz.underlying26 HI.out Z0.out Z1.out Z2.out rfl (by decide) (.slice a l.length cap) l.length (flat l) rfl (own_ext own2 V0) ⟨w2.heap.size, 0, none⟩ 1 1 r'.cs.toList rfl rfl (cells_new _ r'.cs.toList _ _ rfl) (cs_oneCell r') (by decide) (by unfold maxLen; omega) (by omega) (by simp; omega) _ rfl ?_
    intro g cap' w3 hown' hgrow hg hgl
    have G3 : Gr (Value.slice a l.length cap).ownBlock w2 w3 := (Gr.of_ext V0).trans hgrow
    have R3 := R2.gr G3 (fun e => nrow e.symm)
    have D3 := D2.gr G3 (fun e => nlog e.symm)
    refine hK.out _ _ R3.cell (fun hHeld => ?_)
    clear hK K
    refine wpAnyH_take (i := 8) (v := ?v13) rfl (by kernel_rfl) (by kernel_rfl) (by kernel_rfl) (fun _ _ _ h => h) (Or.inl ⟨by rfl, ?hy13⟩) hHeld ?r13
    case hy13 => first | (intro w hSw; (try dsimp only at hSw); go_simp; done) | (intro w hSw; (try dsimp only at hSw); go_simp; with_reducible rfl)
    simp only [Act.put]
    refine wpAnyH_take (i := 9) (v := ?v14) rfl (by kernel_rfl) (by kernel_rfl) (by kernel_rfl) (fun _ _ _ h => h) (Or.inl ⟨by rfl, ?hy14⟩) hHeld ?r14
    case hy14 => first | (intro w hSw; (try dsimp only at hSw); go_simp; done) | (intro w hSw; (try dsimp only at hSw); go_simp; with_reducible rfl)
    simp only [Act.put]
    have c13 : w3.cell? ⟨b, 12, none⟩ = some (.slice a l.length cap) := by rw [D3.cell]; rfl
    have f13 := D3.fr 12
    refine wpAnyH_ready (rs := [10]) (by kernel_rfl) (by simp) ?_
    refine AllReadyH.cons rfl (fun K hK => ?_) AllReadyH.nil
    go_simp
    have R4 := R3.other ⟨b, 12, none⟩ (.slice (some ⟨g, 0, none⟩) (l.length + 1) cap') (fun e => hrb e.symm)
    have D4 := D3.set 12 (.slice (some ⟨g, 0, none⟩) (l.length + 1) cap')
    have G4 : Gr (some b) w3 (w3.setCell ⟨b, 12, none⟩ (.slice (some ⟨g, 0, none⟩) (l.length + 1) cap')) := (Gr.refl (some b) w3).set (p := ⟨b, 12, none⟩) (Or.inr rfl) _
    have own4 := own_gr hown' G4 (fun k hk e => by injection e with e; exact own_notblk hown' D3 (by decide) k hk e)
    have bel3 := below_gr bel2 (by omega) G3 (fun k hk => own_from own2 k hk)
    have bel4 : Below base w (w3.setCell ⟨b, 12, none⟩ (.slice (some ⟨g, 0, none⟩) (l.length + 1) cap')) := Below.setCell bel3 hb _
    refine hK.out _ _ R4.cell (fun hHeld => ?_)
    clear hK K
    refine wpAnyH_done (by kernel_rfl) ?_ _
    clear hHeld c13 f13
    go_wp2_with fail
    go_ret
    exact ⟨rfl, bel4, _, _, D4, by rw [HRR.out, flat_snoc]; exact own4⟩
  · go_simp
    refine hK.out _ _ (R2.ext V0).cell (fun hHeld => ?_)
    clear hK K
    have c : (w2.alloc (.cells #[.int .i64 r'.kind, .int .i64 r'.txn, .int .i64 r'.prev, .int .i64 r'.page, .int .i64 r'.cell, .int .i64 r'.old, .int .i64 r'.new, .int .i64 r'.next] 62)).cell? ⟨b, 12, none⟩ = some (.slice a l.length cap) := C13.out _ ((Ext.refl w2).alloc _)
    refine wpAnyH_ready (rs := [4]) (by kernel_rfl) (by simp) ?_
    refine AllReadyH.cons rfl (fun K hK => ?_) AllReadyH.nil
    go_simp
    refine hK.out _ _ (R2.ext V0).cell (fun hHeld => ?_)
    clear hK K c
    refine wpAnyH_ready (rs := [7]) (by kernel_rfl) (by simp) ?_
    refine AllReadyH.cons rfl (fun K hK => ?_) AllReadyH.nil
    refine step_append_lies _ rfl _ _ 26 rfl base 62 i0 (.agg #[.int .i64 0, .int .i64 0, .int .i64 0, .int .i64 0, .int .i64 0, .int .i64 0, .int .i64 0, .int .i64 0]) 8 64 Tryz.underlying26 HI.out Z0.out Z1.out Z2.out rfl (by decide) (.slice a l.length cap) l.length (flat l) rfl (own_ext own2 V0) ⟨w2.heap.size, 0, none⟩ 1 1 r'.cs.toList rfl rfl (cells_new _ r'.cs.toList _ _ rfl) (cs_oneCell r') (by decide) (by unfold maxLen; omega) (by omega) (by simp; omega) _ rfl ?_
    intro g cap' w3 hown' hgrow hg hgl
    have G3 : Gr (Value.slice a l.length cap).ownBlock w2 w3 := (Gr.of_ext V0).trans hgrow
    have R3 := R2.gr G3 (fun e => nrow e.symm)
    have D3 := D2.gr G3 (fun e => nlog e.symm)
    refine hK.out _ _ R3.cell (fun hHeld => ?_)
    clear hK K
    refine wpAnyH_take (i := 8) (v := ?v15) rfl (by kernel_rfl) (by kernel_rfl) (by kernel_rfl) (fun _ _ _ h => h) (Or.inl ⟨by rfl, ?hy15⟩) hHeld ?r15
    case hy15 => first | (intro w hSw; (try dsimp only at hSw); go_simp; done) | (intro w hSw; (try dsimp only at hSw); go_simp; with_reducible rfl)
    simp only [Act.put]
    refine wpAnyH_take (i := 9) (v := ?v16) rfl (by kernel_rfl) (by kernel_rfl) (by kernel_rfl) (fun _ _ _ h => h) (Or.inl ⟨by rfl, ?hy16⟩) hHeld ?r16
    case hy16 => first | (intro w hSw; (try dsimp only at hSw); go_simp; done) | (intro w hSw; (try dsimp only at hSw); go_simp; with_reducible rfl)
    simp only [Act.put]
    have c13 : w3.cell? ⟨b, 12, none⟩ = some (.slice a l.length cap) := by rw [D3.cell]; rfl
    have f13 := D3.fr 12
    refine wpAnyH_ready (rs := [10]) (by kernel_rfl) (by simp) ?_
    refine AllReadyH.cons rfl (fun K hK => ?_) AllReadyH.nil
    go_simp
    have R4 := R3.other ⟨b, 12, none⟩ (.slice (some ⟨g, 0, none⟩) (l.length + 1) cap') (fun e => hrb e.symm)
    have D4 := D3.set 12 (.slice (some ⟨g, 0, none⟩) (l.length + 1) cap')
    have G4 : Gr (some b) w3 (w3.setCell ⟨b, 12, none⟩ (.slice (some ⟨g, 0, none⟩) (l.length + 1) cap')) := (Gr.refl (some b) w3).set (p := ⟨b, 12, none⟩) (Or.inr rfl) _
    have own4 := own_gr hown' G4 (fun k hk e => by injection e with e; exact own_notblk hown' D3 (by decide) k hk e)
    have bel3 := below_gr bel2 (by omega) G3 (fun k hk => own_from own2 k hk)
    have bel4 : Below base w (w3.setCell ⟨b, 12, none⟩ (.slice (some ⟨g, 0, none⟩) (l.length + 1) cap')) := Below.setCell bel3 hb _
    refine hK.out _ _ R4.cell (fun hHeld => ?_)
    clear hK K
    refine wpAnyH_done (by kernel_rfl) ?_ _
    clear hHeld c13 f13
    go_wp2_with fail
    go_ret
    exact ⟨rfl, bel4, _, _, D4, by rw [HRR.out, flat_snoc]; exact own4⟩
end Go.Proofs.YtbfefocehnafgaaGreat.B
