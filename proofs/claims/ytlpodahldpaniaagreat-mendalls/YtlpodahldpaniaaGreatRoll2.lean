/- The contracts of the reference's rolled, RollOf and AbortOf. -/
import Derived.Test.YtlpodahldpaniaaGreatRoll1
import Derived.Test.YtlpodahldpaniaaGreatWork6
import Derived.Test.YtlpodahldpaniaaGreatLogSt
namespace Go.Proofs.YtlpodahldpaniaaGreat.B
set_option maxRecDepth 100000
open Go.ChangeShapes Go.WideShapes Go.ChangeAt Go.RowKit

theorem linkR_roll (l : List Rc) (t : Int) : linkR l (rollRec l t) = rollRec l t := by
  unfold linkR rollRec
  cases (standB l t).getLast? <;> rfl
theorem nums_at {w : World} {a : Option Addr} {ms : List Nat} {n : Nat} (h : Nums w a (ms ++ [n])) : ∃ b, a = some ⟨b, 0, none⟩ ∧ w.cell? ⟨b, ms.length, none⟩ = some (.int .i64 (n : Nat)) := by
  rcases h with h | ⟨b, rfl, hc⟩
  · simp at h
  · refine ⟨b, rfl, ?_⟩
    have := hc ms.length (by simp)
    simpa using this
set_option maxHeartbeats 4000000 in
theorem rolled_end (a : Option Addr) (len cap : Nat) (l : List Rc) (t : Int) (w : World) (h : Recs w a len l) (hl : len ≤ 60) (hR : Right l) (h0 : standsR l t = []) (hr : rollRec l t = ⟨4, t, (lastR l t : Nat), 0, 0, 0, 0, 0⟩) :
    Calls Tryz.prog 65 #[.slice a len cap, .int .i64 t] w fun e w' => e = .returned (rollRec l t).val ∧ Ext w w' := by
  have E0 := (Ext.refl w).alloc (.cells #[.int .i64 0, .int .i64 0, .int .i64 0, .int .i64 0, .int .i64 0, .int .i64 0, .int .i64 0, .int .i64 0] 65)
  have Z0 := Blk.new w w.heap.size #[.int .i64 0, .int .i64 0, .int .i64 0, .int .i64 0, .int .i64 0, .int .i64 0, .int .i64 0, .int .i64 0] 65 rfl
  have H := stands_any a len cap l t (w.alloc (.cells #[.int .i64 0, .int .i64 0, .int .i64 0, .int .i64 0, .int .i64 0, .int .i64 0, .int .i64 0, .int .i64 0] 65)) (h.ext E0) (by omega) (right_backs l hR t)
  rw [h0] at H
  rw [hr]
  go_enter Tryz.func65, Tryz.ntmps65
  go_wp2_with fail
  refine H.mono ?_
  rintro e w1 ⟨⟨a', cap', rfl, _⟩, hE⟩
  clear H
  have E1 := E0.trans hE
  have Z1 := Z0.ext hE
  rw [List.length_nil]
  go_wp2_with fail
  refine (last_any a len cap l t _ (h.ext E1) (by omega)).mono ?_
  rintro e w2 ⟨rfl, rfl⟩
  have z := Z1.cell
  have f := Z1.fr
  go_wp2_with fail
  refine bodyPost_ret (v := .agg #[.int .i64 4, .int .i64 t, .int .i64 (lastR l t : Nat), .int .i64 0, .int .i64 0, .int .i64 0, .int .i64 0, .int .i64 0]) (by simp [results, Tryz.results65, go_sem, z]) rfl ⟨rfl, ?_⟩
  exact ((((((((E1.setCell (by simp) _).setCell (by simp) _).setCell (by simp) _).setCell (by simp) _).setCell (by simp) _).setCell (by simp) _).setCell (by simp) _).setCell (by simp) _)
set_option maxHeartbeats 8000000 in
theorem rolled_back (a : Option Addr) (len cap : Nat) (l : List Rc) (t : Int) (w : World) (h : Recs w a len l) (hl : len ≤ 60) (hR : Right l) (ms : List Nat) (m : Nat) (h0 : standsR l t = ms ++ [m + 1]) (hm : m < len) (x : Rc) (hx : l[m]? = some x) (hr : rollRec l t = ⟨3, t, (lastR l t : Nat), x.page, x.cell, x.new, x.old, x.prev⟩) :
    Calls Tryz.prog 65 #[.slice a len cap, .int .i64 t] w fun e w' => e = .returned (rollRec l t).val ∧ Ext w w' := by
  have E0 := (Ext.refl w).alloc (.cells #[.int .i64 0, .int .i64 0, .int .i64 0, .int .i64 0, .int .i64 0, .int .i64 0, .int .i64 0, .int .i64 0] 65)
  have Z0 := Blk.new w w.heap.size #[.int .i64 0, .int .i64 0, .int .i64 0, .int .i64 0, .int .i64 0, .int .i64 0, .int .i64 0, .int .i64 0] 65 rfl
  have H := stands_any a len cap l t (w.alloc (.cells #[.int .i64 0, .int .i64 0, .int .i64 0, .int .i64 0, .int .i64 0, .int .i64 0, .int .i64 0, .int .i64 0] 65)) (h.ext E0) (by omega) (right_backs l hR t)
  have hml : ms.length ≤ 1000 := by have := standsR_le l t; rw [h0] at this; simp at this; have := h.len; omega
  rw [h0, List.length_append, List.length_singleton] at H
  rw [hr]
  clear hr h0
  go_enter Tryz.func65, Tryz.ntmps65
  go_wp2_with fail
  refine H.mono ?_
  rintro e w1 ⟨⟨a', cap', rfl, hn⟩, hE⟩
  clear H
  have E1 := E0.trans hE
  have Z1 := Z0.ext hE
  obtain ⟨b, rfl, hc⟩ := nums_at hn
  have hcm : w1.cell? ⟨b, ms.length, none⟩ = some (.int .i64 ((m : Int) + 1)) := by simpa using hc
  obtain ⟨b2, off, rfl, hql, hrec⟩ := (h.ext E1).at hm
  have hlx : l[m] = x := by rw [List.getElem?_eq_getElem hql] at hx; injection hx
  rw [hlx] at hrec
  obtain ⟨h0, h1, h2, h3, h4, h5, h6, h7⟩ := hrec
  have hne : (((ms.length : Int) + 1) == 0) = false := by rw [beq_eq_false_iff_ne]; omega
  clear hn hc hlx hx hE
  have HR1 := h.ext E1
  obtain ⟨x0, x1, x2, x3, x4, x5, x6, x7⟩ := x
  dsimp only at h0 h1 h2 h3 h4 h5 h6 h7 ⊢
  go_wp2_with fail
  have E2 := E1.alloc (.cells #[.int .i64 x0, .int .i64 x1, .int .i64 x2, .int .i64 x3, .int .i64 x4, .int .i64 x5, .int .i64 x6, .int .i64 x7] 65)
  have Z2 := Z1.alloc (.cells #[.int .i64 x0, .int .i64 x1, .int .i64 x2, .int .i64 x3, .int .i64 x4, .int .i64 x5, .int .i64 x6, .int .i64 x7] 65)
  have X2 := Blk.new w1 w1.heap.size #[.int .i64 x0, .int .i64 x1, .int .i64 x2, .int .i64 x3, .int .i64 x4, .int .i64 x5, .int .i64 x6, .int .i64 x7] 65 rfl
  have hzx : w.heap.size ≠ w1.heap.size := by have := Z1.lt; omega
  have R2 := h.ext E2
  clear h0 h1 h2 h3 h4 h5 h6 h7 HR1 hcm
  generalize hW : w1.alloc (.cells #[.int .i64 x0, .int .i64 x1, .int .i64 x2, .int .i64 x3, .int .i64 x4, .int .i64 x5, .int .i64 x6, .int .i64 x7] 65) = W at *
  clear hW
  have Ed := (Ext.refl W).drew
  refine wp_region_held_drew (S := fun w' => ∀ o, w'.cell? ⟨w1.heap.size, o, none⟩ = #[.int .i64 x0, .int .i64 x1, .int .i64 x2, .int .i64 x3, .int .i64 x4, .int .i64 x5, .int .i64 x6, .int .i64 x7][o]?) (by kernel_rfl) (X2.ext Ed).cell (fun hHeld => ?_)
  refine wpAnyH_take (i := 0) (v := ?v1) rfl (by kernel_rfl) (by kernel_rfl) (by kernel_rfl) (fun _ _ _ h => h) (Or.inl ⟨by rfl, ?hy1⟩) hHeld ?r1
  case hy1 => first | (intro w hSw; (try dsimp only at hSw); go_simp; done) | (intro w hSw; (try dsimp only at hSw); go_simp; with_reducible rfl)
  simp only [Act.put]
  refine wpAnyH_take (i := 1) (v := ?v2) rfl (by kernel_rfl) (by kernel_rfl) (by kernel_rfl) (fun _ _ _ h => h) (Or.inl ⟨by rfl, ?hy2⟩) hHeld ?r2
  case hy2 => first | (intro w hSw; (try dsimp only at hSw); go_simp; done) | (intro w hSw; (try dsimp only at hSw); go_simp; with_reducible rfl)
  simp only [Act.put]
  refine wpAnyH_take (i := 2) (v := ?v3) rfl (by kernel_rfl) (by kernel_rfl) (by kernel_rfl) (fun _ _ _ h => h) (Or.inl ⟨by rfl, ?hy3⟩) hHeld ?r3
  case hy3 => first | (intro w hSw; (try dsimp only at hSw); go_simp; done) | (intro w hSw; (try dsimp only at hSw); go_simp; with_reducible rfl)
  simp only [Act.put]
  refine wpAnyH_take (i := 4) (v := ?v4) rfl (by kernel_rfl) (by kernel_rfl) (by kernel_rfl) (fun _ _ _ h => h) (Or.inl ⟨by rfl, ?hy4⟩) hHeld ?r4
  case hy4 => first | (intro w hSw; (try dsimp only at hSw); go_simp; done) | (intro w hSw; (try dsimp only at hSw); go_simp; with_reducible rfl)
  simp only [Act.put]
  refine wpAnyH_take (i := 5) (v := ?v5) rfl (by kernel_rfl) (by kernel_rfl) (by kernel_rfl) (fun _ _ _ h => h) (Or.inl ⟨by rfl, ?hy5⟩) hHeld ?r5
  case hy5 => first | (intro w hSw; (try dsimp only at hSw); go_simp; done) | (intro w hSw; (try dsimp only at hSw); go_simp; with_reducible rfl)
  simp only [Act.put]
  refine wpAnyH_take (i := 6) (v := ?v6) rfl (by kernel_rfl) (by kernel_rfl) (by kernel_rfl) (fun _ _ _ h => h) (Or.inl ⟨by rfl, ?hy6⟩) hHeld ?r6
  case hy6 => first | (intro w hSw; (try dsimp only at hSw); go_simp; done) | (intro w hSw; (try dsimp only at hSw); go_simp; with_reducible rfl)
  simp only [Act.put]
  refine wpAnyH_take (i := 7) (v := ?v7) rfl (by kernel_rfl) (by kernel_rfl) (by kernel_rfl) (fun _ _ _ h => h) (Or.inl ⟨by rfl, ?hy7⟩) hHeld ?r7
  case hy7 => first | (intro w hSw; (try dsimp only at hSw); go_simp; done) | (intro w hSw; (try dsimp only at hSw); go_simp; with_reducible rfl)
  simp only [Act.put]
  refine wpAnyH_take (i := 8) (v := ?v8) rfl (by kernel_rfl) (by kernel_rfl) (by kernel_rfl) (fun _ _ _ h => h) (Or.inl ⟨by rfl, ?hy8⟩) hHeld ?r8
  case hy8 => first | (intro w hSw; (try dsimp only at hSw); go_simp; done) | (intro w hSw; (try dsimp only at hSw); go_simp; with_reducible rfl)
  simp only [Act.put]
  refine wpAnyH_take (i := 9) (v := ?v9) rfl (by kernel_rfl) (by kernel_rfl) (by kernel_rfl) (fun _ _ _ h => h) (Or.inl ⟨by rfl, ?hy9⟩) hHeld ?r9
  case hy9 => first | (intro w hSw; (try dsimp only at hSw); go_simp; done) | (intro w hSw; (try dsimp only at hSw); go_simp; with_reducible rfl)
  simp only [Act.put]
  refine wpAnyH_take (i := 10) (v := ?v10) rfl (by kernel_rfl) (by kernel_rfl) (by kernel_rfl) (fun _ _ _ h => h) (Or.inl ⟨by rfl, ?hy10⟩) hHeld ?r10
  case hy10 => first | (intro w hSw; (try dsimp only at hSw); go_simp; done) | (intro w hSw; (try dsimp only at hSw); go_simp; with_reducible rfl)
  simp only [Act.put]
  refine wpAnyH_take (i := 11) (v := ?v11) rfl (by kernel_rfl) (by kernel_rfl) (by kernel_rfl) (fun _ _ _ h => h) (Or.inl ⟨by rfl, ?hy11⟩) hHeld ?r11
  case hy11 => first | (intro w hSw; (try dsimp only at hSw); go_simp; done) | (intro w hSw; (try dsimp only at hSw); go_simp; with_reducible rfl)
  simp only [Act.put]
  refine wpAnyH_take (i := 12) (v := ?v12) rfl (by kernel_rfl) (by kernel_rfl) (by kernel_rfl) (fun _ _ _ h => h) (Or.inl ⟨by rfl, ?hy12⟩) hHeld ?r12
  case hy12 => first | (intro w hSw; (try dsimp only at hSw); go_simp; done) | (intro w hSw; (try dsimp only at hSw); go_simp; with_reducible rfl)
  simp only [Act.put]
  refine wpAnyH_take (i := 13) (v := ?v13) rfl (by kernel_rfl) (by kernel_rfl) (by kernel_rfl) (fun _ _ _ h => h) (Or.inl ⟨by rfl, ?hy13⟩) hHeld ?r13
  case hy13 => first | (intro w hSw; (try dsimp only at hSw); go_simp; done) | (intro w hSw; (try dsimp only at hSw); go_simp; with_reducible rfl)
  simp only [Act.put]
  refine wpAnyH_ready (rs := [3]) (by kernel_rfl) (by simp) ?_
  refine AllReadyH.cons rfl (fun K hK => ?_) AllReadyH.nil
  go_simp
  refine (last_any (some ⟨b2, off, none⟩) len cap l t _ (R2.ext Ed) (by omega)).mono ?_
  rintro e w2 ⟨rfl, rfl⟩
  go_wp2_with fail
  refine hK.out _ _ hHeld (fun hHeld => ?_)
  clear hK K
  refine wpAnyH_take (i := 14) (v := ?v14) rfl (by kernel_rfl) (by kernel_rfl) (by kernel_rfl) (fun _ _ _ h => h) (Or.inl ⟨by rfl, ?hy14⟩) hHeld ?r14
  case hy14 => first | (intro w hSw; (try dsimp only at hSw); go_simp; done) | (intro w hSw; (try dsimp only at hSw); go_simp; with_reducible rfl)
  simp only [Act.put]
  have z := Z2.cell
  have f := Z2.fr
  refine wpAnyH_ready (rs := [15]) (by kernel_rfl) (by simp) ?_
  refine AllReadyH.cons rfl (fun K hK => ?_) AllReadyH.nil
  go_simp
  have hbz : w1.heap.size ≠ w.heap.size := fun e => hzx e.symm
  refine hK.out _ _ (((((((((X2.other _ _ hbz).other _ _ hbz).other _ _ hbz).other _ _ hbz).other _ _ hbz).other _ _ hbz).other _ _ hbz).other _ _ hbz)).drew.cell (fun hHeld => ?_)
  clear hK K hHeld
  refine wpAnyH_done (by kernel_rfl) ?_ _
  go_wp2_with fail
  refine bodyPost_ret (v := .agg #[.int .i64 3, .int .i64 t, .int .i64 (lastR l t : Nat), .int .i64 x3, .int .i64 x4, .int .i64 x6, .int .i64 x5, .int .i64 x2]) (by simp [results, Tryz.results65, go_sem, z]) rfl ⟨rfl, ?_⟩
  exact (((((((((E2.setCell (by simp) _).setCell (by simp) _).setCell (by simp) _).setCell (by simp) _).setCell (by simp) _).setCell (by simp) _).setCell (by simp) _).setCell (by simp) _)).drew
theorem rolled_any (a : Option Addr) (len cap : Nat) (l : List Rc) (t : Int) (w : World) (h : Recs w a len l) (hl : len ≤ 60) (hR : Right l) (hs4 : stateR l t ≠ 4) :
    Calls Tryz.prog 65 #[.slice a len cap, .int .i64 t] w fun e w' => e = .returned (rollRec l t).val ∧ Ext w w' := by
  rcases List.eq_nil_or_concat (standsR l t) with h0 | ⟨ms, n, h0⟩
  · refine rolled_end a len cap l t w h hl hR h0 (rollRec_end ?_)
    rw [stand_of_n4 hs4]
    exact List.length_eq_zero_iff.1 (by rw [standRecs_length, h0]; rfl)
  · rw [List.concat_eq_append] at h0
    have hn : n ∈ standsR l t := by rw [h0]; simp
    obtain ⟨n1, n2⟩ := standsR_mem hn
    obtain ⟨m, rfl⟩ : ∃ m, n = m + 1 := ⟨n - 1, by omega⟩
    have hm : m < l.length := by omega
    refine rolled_back a len cap l t w h hl hR ms m h0 (by have := h.len; omega) l[m] (List.getElem?_eq_getElem hm) ?_
    have hg : (standB l t).getLast? = some l[m] := by
      rw [stand_of_n4 hs4, standRecs_last, h0, List.getLast?_concat]
      show l[m + 1 - 1]? = _
      rw [Nat.add_sub_cancel]
      exact List.getElem?_eq_getElem hm
    unfold rollRec
    rw [hg]
end Go.Proofs.YtlpodahldpaniaaGreat.B
