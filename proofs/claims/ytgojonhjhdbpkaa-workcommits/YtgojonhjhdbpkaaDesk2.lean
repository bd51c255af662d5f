/- The contracts of the desk's untold, and of the office's Open. -/
import Derived.Test.YtgojonhjhdbpkaaDesk1
namespace Go.Proofs.Ytgojonhjhdbpkaa.B
set_option maxRecDepth 100000
open Go.ChangeShapes Go.WideShapes Go.ChangeAt Go.RowKit

set_option maxHeartbeats 1000000 in
theorem untold_0 (db pb : Nat) (p q r : Pg) (a : Option Addr) (len cap : Nat) (l : List Rc) (safe : Int) (w : World) (D : Blk w db (dkCells pb p q r (.slice a len cap) safe) 84) (h : Recs w a len l) (hcap : len ≤ cap) (hR : logErr l = 0) (hs : safe ≤ len) :
    Calls Try.prog 76 #[.pointer (some ⟨db, 0, none⟩), .int .i64 0] w fun e w' => e = .returned (.bool (untoldB l safe 0 p)) ∧ Ext w w' := by
  have HU : Hid (untoldB l safe 0 p = (out 0 safe [p.last] || !eqPg p (pgAt (pagesR (l.take p.last.toNat)) 0))) := rfl
  go_enter Try.func76, Try.ntmps76
  go_wp2_with fail
  have C0 := (Blk.new w w.heap.size #[.pointer (some ⟨db, 0, none⟩)] 80 rfl).alloc (.cells #[.int .i64 0] 3)
  have C1 := Blk.new (w.alloc (.cells #[.pointer (some ⟨db, 0, none⟩)] 80)) (w.heap.size + 1) #[.int .i64 0] 3 (by simp)
  have hE := ((Ext.refl w).alloc (.cells #[.pointer (some ⟨db, 0, none⟩)] 80)).alloc (.cells #[.int .i64 0] 3)
  generalize (w.alloc (.cells #[.pointer (some ⟨db, 0, none⟩)] 80)).alloc (.cells #[.int .i64 0] 3) = W at *
  have hD := D.ext hE
  have KC : Hid (∀ w', Ext W w' → (∀ o, w'.cell? ⟨w.heap.size, o, none⟩ = #[.pointer (some ⟨db, 0, none⟩)][o]?) ∧ (∀ o, w'.cell? ⟨w.heap.size + 1, o, none⟩ = #[.int .i64 0][o]?) ∧ (∀ o, w'.cell? ⟨db, o, none⟩ = (dkCells pb p q r (.slice a len cap) safe)[o]?)) := fun w' e => ⟨(C0.ext e).cell, (C1.ext e).cell, (hD.ext e).cell⟩
  go_cut [5] (fun s5 wx => ∃ b5 : Nat, s5 = .pointer (some ⟨b5, 0, none⟩) ∧ Blk wx b5 p.cs 29 ∧ Ext W wx)
  case first =>
    go_region_held3 (fun w' => Ext W w' ∧ ((∀ o, w'.cell? ⟨w.heap.size, o, none⟩ = #[.pointer (some ⟨db, 0, none⟩)][o]?) ∧ (∀ o, w'.cell? ⟨w.heap.size + 1, o, none⟩ = #[.int .i64 0][o]?) ∧ (∀ o, w'.cell? ⟨db, o, none⟩ = (dkCells pb p q r (.slice a len cap) safe)[o]?)))
      ((refine (fun e => ⟨e, KC.out _ e⟩ : Ext W _ → _) ?_; first | exact (Ext.refl W).drew | exact ((Ext.refl W).alloc _).drew | exact hy | exact hy.alloc _ | exact (hy.setCell hbx _).setCell hbx _))
      (first
      | (fail)
      | (fail))
    all_goals (go_wp2_with fail; go_meet; case rel => exact ⟨_, rfl, Blk.new _ _ _ _ rfl, ((Ext.refl W).alloc _).drew⟩)
  case rest =>
    obtain ⟨b5, rfl, C2, hx5⟩ := hcut
    have D0 := C0.ext hx5
    have D1 := C1.ext hx5
    have D2 := hD.ext hx5
    have hE2 := hE.trans hx5
    have h2 := h.ext hE2
    clear C0 C1 hD hE hx5 KC D h
    go_wp2_with fail
    refine (any2 87 88 #[.pointer (some ⟨w.heap.size, 0, none⟩), .pointer (some ⟨b5, 0, none⟩)] #[.pointer (some ⟨b5, 0, none⟩), .pointer (some ⟨w.heap.size, 0, none⟩), .pointer (some ⟨w.heap.size + 1, 0, none⟩)] (out 0 safe [p.last]) (!eqPg p (pgAt (pagesR (l.take p.last.toNat)) 0)) (by simp [go_sem]) (by simp [go_sem])
      (untold1_ans db pb _ _ p q r p (.slice a len cap) safe _ (D2.alloc _) (D0.alloc _) (C2.alloc _)) (fun ho => untold2_ans db pb _ _ _ p q r p a len cap l safe 0 _ (D2.alloc _) (D0.alloc _) (C2.alloc _) (D1.alloc _) (h2.ext ((Ext.refl _).alloc _)) hcap hR (by decide) (out1_false ho).1 (by have := (out1_false ho).2; omega))).mono ?_
    rintro e w2 ⟨rfl, hw2⟩
    go_wp2_with fail
    go_ret
    exact ⟨by rw [HU.out]; rfl, (hE2.alloc _).trans hw2⟩
set_option maxHeartbeats 1000000 in
theorem untold_1 (db pb : Nat) (p q r : Pg) (a : Option Addr) (len cap : Nat) (l : List Rc) (safe : Int) (w : World) (D : Blk w db (dkCells pb p q r (.slice a len cap) safe) 84) (h : Recs w a len l) (hcap : len ≤ cap) (hR : logErr l = 0) (hs : safe ≤ len) :
    Calls Try.prog 76 #[.pointer (some ⟨db, 0, none⟩), .int .i64 1] w fun e w' => e = .returned (.bool (untoldB l safe 1 q)) ∧ Ext w w' := by
  have HU : Hid (untoldB l safe 1 q = (out 0 safe [q.last] || !eqPg q (pgAt (pagesR (l.take q.last.toNat)) 1))) := rfl
  go_enter Try.func76, Try.ntmps76
  go_wp2_with fail
  have C0 := (Blk.new w w.heap.size #[.pointer (some ⟨db, 0, none⟩)] 80 rfl).alloc (.cells #[.int .i64 1] 3)
  have C1 := Blk.new (w.alloc (.cells #[.pointer (some ⟨db, 0, none⟩)] 80)) (w.heap.size + 1) #[.int .i64 1] 3 (by simp)
  have hE := ((Ext.refl w).alloc (.cells #[.pointer (some ⟨db, 0, none⟩)] 80)).alloc (.cells #[.int .i64 1] 3)
  generalize (w.alloc (.cells #[.pointer (some ⟨db, 0, none⟩)] 80)).alloc (.cells #[.int .i64 1] 3) = W at *
  have hD := D.ext hE
  have KC : Hid (∀ w', Ext W w' → (∀ o, w'.cell? ⟨w.heap.size, o, none⟩ = #[.pointer (some ⟨db, 0, none⟩)][o]?) ∧ (∀ o, w'.cell? ⟨w.heap.size + 1, o, none⟩ = #[.int .i64 1][o]?) ∧ (∀ o, w'.cell? ⟨db, o, none⟩ = (dkCells pb p q r (.slice a len cap) safe)[o]?)) := fun w' e => ⟨(C0.ext e).cell, (C1.ext e).cell, (hD.ext e).cell⟩
  go_cut [5] (fun s5 wx => ∃ b5 : Nat, s5 = .pointer (some ⟨b5, 0, none⟩) ∧ Blk wx b5 q.cs 29 ∧ Ext W wx)
  case first =>
    go_region_held3 (fun w' => Ext W w' ∧ ((∀ o, w'.cell? ⟨w.heap.size, o, none⟩ = #[.pointer (some ⟨db, 0, none⟩)][o]?) ∧ (∀ o, w'.cell? ⟨w.heap.size + 1, o, none⟩ = #[.int .i64 1][o]?) ∧ (∀ o, w'.cell? ⟨db, o, none⟩ = (dkCells pb p q r (.slice a len cap) safe)[o]?)))
      ((refine (fun e => ⟨e, KC.out _ e⟩ : Ext W _ → _) ?_; first | exact (Ext.refl W).drew | exact ((Ext.refl W).alloc _).drew | exact hy | exact hy.alloc _ | exact (hy.setCell hbx _).setCell hbx _))
      (first
      | (fail)
      | (fail))
    all_goals (go_wp2_with fail; go_meet; case rel => exact ⟨_, rfl, Blk.new _ _ _ _ rfl, ((Ext.refl W).alloc _).drew⟩)
  case rest =>
    obtain ⟨b5, rfl, C2, hx5⟩ := hcut
    have D0 := C0.ext hx5
    have D1 := C1.ext hx5
    have D2 := hD.ext hx5
    have hE2 := hE.trans hx5
    have h2 := h.ext hE2
    clear C0 C1 hD hE hx5 KC D h
    go_wp2_with fail
    refine (any2 87 88 #[.pointer (some ⟨w.heap.size, 0, none⟩), .pointer (some ⟨b5, 0, none⟩)] #[.pointer (some ⟨b5, 0, none⟩), .pointer (some ⟨w.heap.size, 0, none⟩), .pointer (some ⟨w.heap.size + 1, 0, none⟩)] (out 0 safe [q.last]) (!eqPg q (pgAt (pagesR (l.take q.last.toNat)) 1)) (by simp [go_sem]) (by simp [go_sem])
      (untold1_ans db pb _ _ p q r q (.slice a len cap) safe _ (D2.alloc _) (D0.alloc _) (C2.alloc _)) (fun ho => untold2_ans db pb _ _ _ p q r q a len cap l safe 1 _ (D2.alloc _) (D0.alloc _) (C2.alloc _) (D1.alloc _) (h2.ext ((Ext.refl _).alloc _)) hcap hR (by decide) (out1_false ho).1 (by have := (out1_false ho).2; omega))).mono ?_
    rintro e w2 ⟨rfl, hw2⟩
    go_wp2_with fail
    go_ret
    exact ⟨by rw [HU.out]; rfl, (hE2.alloc _).trans hw2⟩
set_option maxHeartbeats 1000000 in
theorem untold_2 (db pb : Nat) (p q r : Pg) (a : Option Addr) (len cap : Nat) (l : List Rc) (safe : Int) (w : World) (D : Blk w db (dkCells pb p q r (.slice a len cap) safe) 84) (h : Recs w a len l) (hcap : len ≤ cap) (hR : logErr l = 0) (hs : safe ≤ len) :
    Calls Try.prog 76 #[.pointer (some ⟨db, 0, none⟩), .int .i64 2] w fun e w' => e = .returned (.bool (untoldB l safe 2 r)) ∧ Ext w w' := by
  have HU : Hid (untoldB l safe 2 r = (out 0 safe [r.last] || !eqPg r (pgAt (pagesR (l.take r.last.toNat)) 2))) := rfl
  go_enter Try.func76, Try.ntmps76
  go_wp2_with fail
  have C0 := (Blk.new w w.heap.size #[.pointer (some ⟨db, 0, none⟩)] 80 rfl).alloc (.cells #[.int .i64 2] 3)
  have C1 := Blk.new (w.alloc (.cells #[.pointer (some ⟨db, 0, none⟩)] 80)) (w.heap.size + 1) #[.int .i64 2] 3 (by simp)
  have hE := ((Ext.refl w).alloc (.cells #[.pointer (some ⟨db, 0, none⟩)] 80)).alloc (.cells #[.int .i64 2] 3)
  generalize (w.alloc (.cells #[.pointer (some ⟨db, 0, none⟩)] 80)).alloc (.cells #[.int .i64 2] 3) = W at *
  have hD := D.ext hE
  have KC : Hid (∀ w', Ext W w' → (∀ o, w'.cell? ⟨w.heap.size, o, none⟩ = #[.pointer (some ⟨db, 0, none⟩)][o]?) ∧ (∀ o, w'.cell? ⟨w.heap.size + 1, o, none⟩ = #[.int .i64 2][o]?) ∧ (∀ o, w'.cell? ⟨db, o, none⟩ = (dkCells pb p q r (.slice a len cap) safe)[o]?)) := fun w' e => ⟨(C0.ext e).cell, (C1.ext e).cell, (hD.ext e).cell⟩
  go_cut [5] (fun s5 wx => ∃ b5 : Nat, s5 = .pointer (some ⟨b5, 0, none⟩) ∧ Blk wx b5 r.cs 29 ∧ Ext W wx)
  case first =>
    go_region_held3 (fun w' => Ext W w' ∧ ((∀ o, w'.cell? ⟨w.heap.size, o, none⟩ = #[.pointer (some ⟨db, 0, none⟩)][o]?) ∧ (∀ o, w'.cell? ⟨w.heap.size + 1, o, none⟩ = #[.int .i64 2][o]?) ∧ (∀ o, w'.cell? ⟨db, o, none⟩ = (dkCells pb p q r (.slice a len cap) safe)[o]?)))
      ((refine (fun e => ⟨e, KC.out _ e⟩ : Ext W _ → _) ?_; first | exact (Ext.refl W).drew | exact ((Ext.refl W).alloc _).drew | exact hy | exact hy.alloc _ | exact (hy.setCell hbx _).setCell hbx _))
      (first
      | (fail)
      | (fail))
    all_goals (go_wp2_with fail; go_meet; case rel => exact ⟨_, rfl, Blk.new _ _ _ _ rfl, ((Ext.refl W).alloc _).drew⟩)
  case rest =>
    obtain ⟨b5, rfl, C2, hx5⟩ := hcut
    have D0 := C0.ext hx5
    have D1 := C1.ext hx5
    have D2 := hD.ext hx5
    have hE2 := hE.trans hx5
    have h2 := h.ext hE2
    clear C0 C1 hD hE hx5 KC D h
    go_wp2_with fail
    refine (any2 87 88 #[.pointer (some ⟨w.heap.size, 0, none⟩), .pointer (some ⟨b5, 0, none⟩)] #[.pointer (some ⟨b5, 0, none⟩), .pointer (some ⟨w.heap.size, 0, none⟩), .pointer (some ⟨w.heap.size + 1, 0, none⟩)] (out 0 safe [r.last]) (!eqPg r (pgAt (pagesR (l.take r.last.toNat)) 2)) (by simp [go_sem]) (by simp [go_sem])
      (untold1_ans db pb _ _ p q r r (.slice a len cap) safe _ (D2.alloc _) (D0.alloc _) (C2.alloc _)) (fun ho => untold2_ans db pb _ _ _ p q r r a len cap l safe 2 _ (D2.alloc _) (D0.alloc _) (C2.alloc _) (D1.alloc _) (h2.ext ((Ext.refl _).alloc _)) hcap hR (by decide) (out1_false ho).1 (by have := (out1_false ho).2; omega))).mono ?_
    rintro e w2 ⟨rfl, hw2⟩
    go_wp2_with fail
    go_ret
    exact ⟨by rw [HU.out]; rfl, (hE2.alloc _).trans hw2⟩
theorem BookOk.low {w : World} {base base' pb mt mh : Nat} {l : List Rc} {tx : List TxE} {ho : List HE} (h : BookOk w base pb mt mh l tx ho) (hb : base' ≤ base) : BookOk w base' pb mt mh l tx ho :=
  ⟨h.blk, h.txs, h.hos, fun t ht => own_base (h.own t ht) hb, h.apart, ⟨by have := h.ge; omega, by have := h.ge; omega, by have := h.ge; omega⟩, h.ne, h.right, h.tells, h.all, h.hold, h.held, h.once⟩
theorem worldErr_log {p q r : Pg} {l : List Rc} {safe : Int} (h : logErr l ≠ 0) : worldErr p q r l safe = logErr l := by unfold worldErr; rw [if_neg h]
theorem worldErr_safe {p q r : Pg} {l : List Rc} {safe : Int} (h : logErr l = 0) (ho : out 0 (l.length : Nat) [safe] = true) : worldErr p q r l safe = 3 := by unfold worldErr; rw [if_pos h, ho]; rfl
theorem worldErr_disk {p q r : Pg} {l : List Rc} {safe : Int} (h : logErr l = 0) (ho : out 0 (l.length : Nat) [safe] = false) (hu : untoldTo l safe p q r 3 = true) : worldErr p q r l safe = 1 := by unfold worldErr; rw [if_pos h, ho, hu]; rfl
theorem worldErr_none {p q r : Pg} {l : List Rc} {safe : Int} (h : logErr l = 0) (ho : out 0 (l.length : Nat) [safe] = false) (hu : untoldTo l safe p q r 3 = false) : worldErr p q r l safe = 0 := by unfold worldErr; rw [if_pos h, ho, hu]; rfl
set_option maxHeartbeats 4000000 in
theorem open_any (p q r : Pg) (a : Option Addr) (len cap : Nat) (l : List Rc) (safe : Int) (w : World) (h : Recs w a len l) (hnil : a = none → cap = 0) (hm : len ≤ maxLen) :
    Calls Try.prog 55 #[wdVal p q r (.slice a len cap) safe] w fun e w' => ∃ v, e = .returned (.tuple #[v, .int .i64 (worldErr p q r l safe)]) ∧ Ext w w' ∧
      ((worldErr p q r l safe = 0 ∧ ∃ db pb mt mh tx ho lv, v = .pointer (some ⟨db, 0, none⟩) ∧ DeskOk w' w.heap.size db pb mt mh l tx ho p q r lv safe) ∨ (worldErr p q r l safe ≠ 0 ∧ v = .pointer none)) := by
  have E0 := (Ext.refl w).alloc (.cells (wdCells p q r (.slice a len cap) safe) 51)
  have B0 := Blk.new w w.heap.size (wdCells p q r (.slice a len cap) safe) 51 rfl
  have H := read_any a len cap l (w.alloc (.cells (wdCells p q r (.slice a len cap) safe) 51)) (h.ext E0) hm
  have hlen := h.len
  have X1 : Hid (logErr l ≠ 0 → worldErr p q r l safe = logErr l) := worldErr_log
  have X2 : Hid (logErr l = 0 → out 0 (len : Nat) [safe] = true → worldErr p q r l safe = 3) := fun h0 ho => worldErr_safe h0 (by rw [hlen]; exact ho)
  have X3 : Hid (logErr l = 0 → out 0 (len : Nat) [safe] = false → untoldTo l safe p q r 3 = true → worldErr p q r l safe = 1) := fun h0 ho hu => worldErr_disk h0 (by rw [hlen]; exact ho) hu
  have X4 : Hid (logErr l = 0 → out 0 (len : Nat) [safe] = false → untoldTo l safe p q r 3 = false → worldErr p q r l safe = 0) := fun h0 ho hu => worldErr_none h0 (by rw [hlen]; exact ho) hu
  have HLog : Hid (logErr l = 0 → len ≤ 60 ∧ logErr l = 0) := fun h0 => ⟨by have := (logErr_zero h0).1; omega, h0⟩
  generalize worldErr p q r l safe = we at *
  generalize hx : logErr l = x at H X1 X2 X3 X4 HLog
  have HX := (show Hid (logErr l = x) from hx)
  clear hx
  go_enter Try.func55, Try.ntmps55
  go_wp2_with fail
  refine H.mono ?_
  rintro e w1 ⟨v1, rfl, hE1, ⟨h0, pb, mt, mh, tx, ho, rfl, hB⟩ | ⟨h0, rfl⟩⟩
  · subst h0
    obtain ⟨hl60, _⟩ := HLog.out rfl
    have B1 := B0.ext hE1
    have E1 := E0.trans hE1
    have hB' : BookOk w1 w.heap.size pb mt mh l tx ho := hB.low (by simp)
    clear H X1 HLog hE1 B0 E0 hB
    have b1 := B1.cell
    have S2 := B1.alloc (.cells #[.int .i64 safe] 3)
    have E2 := E1.alloc (.cells #[.int .i64 safe] 3)
    go_wp2_with fail
    refine (outside_n 1 0 (len : Nat) _ 0 1 [safe] _ rfl (by decide) (cells1 (by simp [go_sem]))).mono ?_
    rintro e w2 ⟨rfl, rfl⟩
    have hB2 := hB'.ext ((Ext.refl w1).alloc (.cells #[.int .i64 safe] 3))
    clear b1 B1 E1 hB'
    cases hout : out 0 (len : Nat) [safe]
    · have HO := (show Hid (out 0 (len : Nat) [safe] = false) from hout)
      have hsafe := (out1_false hout).2
      clear X2 hout
      generalize w1.alloc (.cells #[.int .i64 safe] 3) = W at *
      go_wp2_with fail
      have F0 := (Ext.refl W).drew
      refine wp_region_held_drew (S := fun w' => ∀ o, w'.cell? ⟨w.heap.size, o, none⟩ = (wdCells p q r (.slice a len cap) safe)[o]?) (by kernel_rfl) (S2.ext F0).cell (fun hHeld => ?_)
      refine wpAnyH_take (i := 0) (v := ?v1) rfl (by kernel_rfl) (by kernel_rfl) (by kernel_rfl) (fun _ _ _ h => h) (Or.inl ⟨by rfl, ?hy1⟩) hHeld ?r1
      case hy1 => first | (intro w hSw; (try dsimp only at hSw); go_simp; done) | (intro w hSw; (try dsimp only at hSw); go_simp; with_reducible rfl)
      simp only [Act.put]
      refine wpAnyH_take (i := 1) (v := ?v2) rfl (by kernel_rfl) (by kernel_rfl) (by kernel_rfl) (fun _ _ _ h => h) (Or.inl ⟨by rfl, ?hy2⟩) hHeld ?r2
      case hy2 => first | (intro w hSw; (try dsimp only at hSw); go_simp; done) | (intro w hSw; (try dsimp only at hSw); go_simp; with_reducible rfl)
      simp only [Act.put]
      refine wpAnyH_take (i := 2) (v := ?v3) rfl (by kernel_rfl) (by kernel_rfl) (by kernel_rfl) (fun _ _ _ h => h) (Or.inl ⟨by rfl, ?hy3⟩) hHeld ?r3
      case hy3 => first | (intro w hSw; (try dsimp only at hSw); go_simp; done) | (intro w hSw; (try dsimp only at hSw); go_simp; with_reducible rfl)
      simp only [Act.put]
      refine wpAnyH_take (i := 3) (v := ?v4) rfl (by kernel_rfl) (by kernel_rfl) (by kernel_rfl) (fun _ _ _ h => h) (Or.inl ⟨by rfl, ?hy4⟩) hHeld ?r4
      case hy4 => first | (intro w hSw; (try dsimp only at hSw); go_simp; done) | (intro w hSw; (try dsimp only at hSw); go_simp; with_reducible rfl)
      simp only [Act.put]
      refine wpAnyH_take (i := 4) (v := ?v5) rfl (by kernel_rfl) (by kernel_rfl) (by kernel_rfl) (fun _ _ _ h => h) (Or.inl ⟨by rfl, ?hy5⟩) hHeld ?r5
      case hy5 => first | (intro w hSw; (try dsimp only at hSw); go_simp; done) | (intro w hSw; (try dsimp only at hSw); go_simp; with_reducible rfl)
      simp only [Act.put]
      refine wpAnyH_take (i := 6) (v := ?v6) rfl (by kernel_rfl) (by kernel_rfl) (by kernel_rfl) (fun _ _ _ h => h) (Or.inl ⟨by rfl, ?hy6⟩) hHeld ?r6
      case hy6 => first | (intro w hSw; (try dsimp only at hSw); go_simp; done) | (intro w hSw; (try dsimp only at hSw); go_simp; with_reducible rfl)
      simp only [Act.put]
      refine wpAnyH_take (i := 7) (v := ?v7) rfl (by kernel_rfl) (by kernel_rfl) (by kernel_rfl) (fun _ _ _ h => h) (Or.inl ⟨by rfl, ?hy7⟩) hHeld ?r7
      case hy7 => first | (intro w hSw; (try dsimp only at hSw); go_simp; done) | (intro w hSw; (try dsimp only at hSw); go_simp; with_reducible rfl)
      simp only [Act.put]
      refine wpAnyH_ready (rs := [5]) (by kernel_rfl) (by simp) ?_
      refine AllReadyH.cons rfl (fun K hK => ?_) AllReadyH.nil
      go_simp
      refine (clone_any a len cap l _ (h.ext (E2.trans F0)) hnil hl60).mono ?_
      rintro e v2 ⟨lv, rfl, hown, hw⟩
      have F1 := F0.trans hw
      have hown2 : v2.ownsRow W.heap.size 39 8 lv l.length (flat l) := hown
      clear hown hw
      obtain ⟨la, lcap, rfl, hrl, hlc, hln⟩ := recs_own' hown2
      rw [hlen] at hrl hlc ⊢
      go_wp2_with fail
      clear hHeld
      refine hK.out _ _ (S2.ext F1).cell (fun hHeld => ?_)
      clear hK K
      refine wpAnyH_take (i := 8) (v := ?v8) rfl (by kernel_rfl) (by kernel_rfl) (by kernel_rfl) (fun _ _ _ h => h) (Or.inl ⟨by rfl, ?hy8⟩) hHeld ?r8
      case hy8 => first | (intro w hSw; (try dsimp only at hSw); go_simp; done) | (intro w hSw; (try dsimp only at hSw); go_simp; with_reducible rfl)
      simp only [Act.put]
      refine wpAnyH_ready (rs := [9]) (by kernel_rfl) (by simp) ?_
      refine AllReadyH.cons rfl (fun K hK => ?_) AllReadyH.nil
      go_simp
      have D3 := Blk.new v2 v2.heap.size (dkCells pb p q r (.slice la len lcap) safe) 84 rfl
      have F2 := F1.alloc (.cells (dkCells pb p q r (.slice la len lcap) safe) 84)
      have hx3 := (Ext.refl v2).alloc (.cells (dkCells pb p q r (.slice la len lcap) safe) 84)
      have hown3 := own_ext hown2 hx3
      have hrl3 := hrl.ext hx3
      have hdb : w.heap.size ≤ v2.heap.size := Nat.le_trans E2.size F1.size
      clear hHeld
      refine hK.out _ _ (S2.ext F2).cell (fun hHeld => ?_)
      clear hK K
      refine wpAnyH_take (i := 10) (v := ?v9) rfl (by kernel_rfl) (by kernel_rfl) (by kernel_rfl) (fun _ _ _ h => h) (Or.inl ⟨by rfl, ?hy9⟩) hHeld ?r9
      case hy9 => first | (intro w hSw; (try dsimp only at hSw); go_simp; done) | (intro w hSw; (try dsimp only at hSw); go_simp; with_reducible rfl)
      simp only [Act.put]
      refine wpAnyH_done (by kernel_rfl) ?_ _
      clear hHeld
      have hB3 := hB2.ext F2
      have E3 := E2.trans F2
      have HFree : Hid (∀ g, (Value.slice la len lcap).ownBlock = some g → ∀ t ∈ tx, t.sv.ownBlock ≠ some g) := fun g hg t ht e => by
        have h1 := own_lt (hB2.own t ht) g e
        have h2 := own_from hown2 g (by rw [hlen]; exact hg)
        omega
      have hown4 := own_base hown3 E2.size
      generalize v2.alloc (.cells (dkCells pb p q r (.slice la len lcap) safe) 84) = V at *
      generalize v2.heap.size = db at *
      clear F0 F1 F2 E2 hB2 S2 hown2 hown3 hrl hx3
      go_wp2_with fail
      go_loopw [34] (fun i wr => ∃ k : Nat, k ≤ 3 ∧ i = .int .i64 k ∧ Ext V wr ∧ untoldTo l safe p q r k = false) (fun i _ => 3 - (intOf i).toNat)
      case atStart => exact ⟨0, by omega, rfl, Ext.refl _, rfl⟩
      case round =>
        obtain ⟨k, hk, rfl, hE, hu⟩ := hrel
        have HU := (show Hid (untoldTo l safe p q r k = false) from hu)
        clear hu
        have E4 := E3.trans hE
        have hkc : k = 0 ∨ k = 1 ∨ k = 2 ∨ k = 3 := by omega
        rcases hkc with rfl | rfl | rfl | rfl
        · have HN : Hid (untoldTo l safe p q r (0 + 1) = (untoldTo l safe p q r 0 || untoldB l safe 0 p)) := rfl
          go_wp2_with fail
          refine (untold_0 db pb p q r la len lcap l safe _ (D3.ext hE) (hrl3.ext hE) hlc HX.out hsafe).mono ?_
          rintro e w5 ⟨rfl, hw5⟩
          have hE5 := hE.trans hw5
          cases hb : untoldB l safe 0 p
          · have HB := (show Hid (untoldB l safe 0 p = false) from hb)
            go_wp2_with fail
            go_roundw
            case rel => exact ⟨0 + 1, by omega, by go_num, hE5, by rw [HN.out, HU.out, HB.out]; rfl⟩
            case measure => simp [intOf]
          · have HB := (show Hid (untoldB l safe 0 p = true) from hb)
            have hwe := X3.out (by trivial) HO.out (by have := untoldTo_mono (k := 0 + 1) (by rw [HN.out, HB.out]; exact Bool.or_true _) 2; exact this)
            subst hwe
            go_wp2_with fail
            go_ret2
            exact ⟨_, rfl, E4.trans hw5, Or.inr ⟨by decide, rfl⟩⟩
        · have HN : Hid (untoldTo l safe p q r (1 + 1) = (untoldTo l safe p q r 1 || untoldB l safe 1 q)) := rfl
          go_wp2_with fail
          refine (untold_1 db pb p q r la len lcap l safe _ (D3.ext hE) (hrl3.ext hE) hlc HX.out hsafe).mono ?_
          rintro e w5 ⟨rfl, hw5⟩
          have hE5 := hE.trans hw5
          cases hb : untoldB l safe 1 q
          · have HB := (show Hid (untoldB l safe 1 q = false) from hb)
            go_wp2_with fail
            go_roundw
            case rel => exact ⟨1 + 1, by omega, by go_num, hE5, by rw [HN.out, HU.out, HB.out]; rfl⟩
            case measure => simp [intOf]
          · have HB := (show Hid (untoldB l safe 1 q = true) from hb)
            have hwe := X3.out (by trivial) HO.out (by have := untoldTo_mono (k := 1 + 1) (by rw [HN.out, HB.out]; exact Bool.or_true _) 1; exact this)
            subst hwe
            go_wp2_with fail
            go_ret2
            exact ⟨_, rfl, E4.trans hw5, Or.inr ⟨by decide, rfl⟩⟩
        · have HN : Hid (untoldTo l safe p q r (2 + 1) = (untoldTo l safe p q r 2 || untoldB l safe 2 r)) := rfl
          go_wp2_with fail
          refine (untold_2 db pb p q r la len lcap l safe _ (D3.ext hE) (hrl3.ext hE) hlc HX.out hsafe).mono ?_
          rintro e w5 ⟨rfl, hw5⟩
          have hE5 := hE.trans hw5
          cases hb : untoldB l safe 2 r
          · have HB := (show Hid (untoldB l safe 2 r = false) from hb)
            go_wp2_with fail
            go_roundw
            case rel => exact ⟨2 + 1, by omega, by go_num, hE5, by rw [HN.out, HU.out, HB.out]; rfl⟩
            case measure => simp [intOf]
          · have HB := (show Hid (untoldB l safe 2 r = true) from hb)
            have hwe := X3.out (by trivial) HO.out (by have := untoldTo_mono (k := 2 + 1) (by rw [HN.out, HB.out]; exact Bool.or_true _) 0; exact this)
            subst hwe
            go_wp2_with fail
            go_ret2
            exact ⟨_, rfl, E4.trans hw5, Or.inr ⟨by decide, rfl⟩⟩
        · have hwe := X4.out (by trivial) HO.out HU.out
          subst hwe
          go_wp2_with fail
          go_ret2
          exact ⟨_, rfl, E4, db, rfl, pb, mt, mh, tx, ho, .slice la len lcap, ⟨D3.ext hE, hB3.ext hE, own_ext (by rw [hlen] at hown4 ⊢; exact hown4) hE, hdb, HFree.out⟩⟩
    · have HO := (show Hid (out 0 (len : Nat) [safe] = true) from hout)
      have hwe := X2.out (by trivial) HO.out
      subst hwe
      go_wp2_with fail
      go_ret2
      exact ⟨_, rfl, E2, Or.inr ⟨by decide, rfl⟩⟩
  · have hb : (x != 0) = true := by simpa using h0
    have hwe := X1.out h0
    subst hwe
    go_wp2_with fail
    go_ret2
    exact ⟨_, rfl, E0.trans hE1, Or.inr ⟨h0, rfl⟩⟩
end Go.Proofs.Ytgojonhjhdbpkaa.B
