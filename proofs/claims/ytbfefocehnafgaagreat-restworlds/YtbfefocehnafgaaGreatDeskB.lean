/- How a slice of records that a law is handed is opened. The contracts of the world's Check and Now, and of the reference's WorldError and NowOf. How a world that a law is handed is opened. The contracts of the reference's SameLogs and SameWorlds at worlds that are the same, of world.Begin and of the laws' lab; worldBegun answers true. -/
import Derived.Test.YtbfefocehnafgaaGreatBaseA
import Derived.Test.YtbfefocehnafgaaGreatLogA
import Derived.Deep.Slices
import Derived.Test.YtbfefocehnafgaaGreatDeskA
import Derived.Test.YtbfefocehnafgaaGreatLogLA
namespace Go.Proofs.YtbfefocehnafgaaGreat.B
set_option maxRecDepth 100000
open Go.ChangeShapes Go.WideShapes Go.ChangeAt Go.RowKit

theorem recCells : Tryz.prog.cellsOf 62 = 8 := by kernel_rfl
theorem intCells : Tryz.prog.cellsOf 3 = 1 := by kernel_rfl
/-- A field of a record, as a number. -/
theorem rec_field {H : Type} {enc : TypeId × Value → H} {W : World} {n : Nat} {cs : List Value} {x : DataW H × List MemPlace} (h : DataW.trod enc Tryz.prog W 0 (fun _ => true) true n 3 cs = some x) : ∃ k, cs = [.int .i64 k] := by
  obtain ⟨k, hk, _⟩ := DataW.trod_int Tryz.underlying3 h
  exact ⟨k, hk⟩
set_option maxRecDepth 100000 in
theorem open_rec8 {H : Type} {enc : TypeId × Value → H} {W : World} {n : Nat} {cs : List Value} {x : DataW H × List MemPlace} (hl : cs.length = 8) (h : DataW.trod enc Tryz.prog W 0 (fun _ => true) true n 62 cs = some x) : ∃ r : Rc, cs = r.cs.toList := by
  obtain ⟨xs, k, _, _, _, hxl, hf⟩ := DataW.trod_struct Tryz.underlying62 h
  match cs, hl, xs, hxl with
  | [v0, v1, v2, v3, v4, v5, v6, v7], _, [y0, y1, y2, y3, y4, y5, y6, y7], _ =>
    have g0 : DataW.trod enc Tryz.prog W 0 (fun _ => true) true k 3 [v0] = some y0 := by have := hf 0 _ rfl; simpa [intCells] using this
    have g1 : DataW.trod enc Tryz.prog W 0 (fun _ => true) true k 3 [v1] = some y1 := by have := hf 1 _ rfl; simpa [intCells] using this
    have g2 : DataW.trod enc Tryz.prog W 0 (fun _ => true) true k 3 [v2] = some y2 := by have := hf 2 _ rfl; simpa [intCells] using this
    have g3 : DataW.trod enc Tryz.prog W 0 (fun _ => true) true k 3 [v3] = some y3 := by have := hf 3 _ rfl; simpa [intCells] using this
    have g4 : DataW.trod enc Tryz.prog W 0 (fun _ => true) true k 3 [v4] = some y4 := by have := hf 4 _ rfl; simpa [intCells] using this
    have g5 : DataW.trod enc Tryz.prog W 0 (fun _ => true) true k 3 [v5] = some y5 := by have := hf 5 _ rfl; simpa [intCells] using this
    have g6 : DataW.trod enc Tryz.prog W 0 (fun _ => true) true k 3 [v6] = some y6 := by have := hf 6 _ rfl; simpa [intCells] using this
    have g7 : DataW.trod enc Tryz.prog W 0 (fun _ => true) true k 3 [v7] = some y7 := by have := hf 7 _ rfl; simpa [intCells] using this
    obtain ⟨k0, e0⟩ := rec_field g0
    injection e0 with e0 _
    obtain ⟨k1, e1⟩ := rec_field g1
    injection e1 with e1 _
    obtain ⟨k2, e2⟩ := rec_field g2
    injection e2 with e2 _
    obtain ⟨k3, e3⟩ := rec_field g3
    injection e3 with e3 _
    obtain ⟨k4, e4⟩ := rec_field g4
    injection e4 with e4 _
    obtain ⟨k5, e5⟩ := rec_field g5
    injection e5 with e5 _
    obtain ⟨k6, e6⟩ := rec_field g6
    injection e6 with e6 _
    obtain ⟨k7, e7⟩ := rec_field g7
    injection e7 with e7 _
    exact ⟨⟨k0, k1, k2, k3, k4, k5, k6, k7⟩, by rw [e0, e1, e2, e3, e4, e5, e6, e7]⟩
theorem okWide_slice {W : World} {base : Nat} {v : Value} (h : Value.okWide Tryz.prog W .any base 26 v) : v = .slice none 0 0 ∨ ∃ b off len cap, v = .slice (some ⟨b, off, none⟩) len cap := by
  simp only [Value.okWide, Tryz.underlying26] at h
  simp only [Cell.okWide, Tryz.underlying26] at h
  cases v <;> simp only [Cell.ok, Tryz.underlying26] at h
  rename_i x len cap
  cases x with
  | none =>
    cases len with
    | zero => cases cap with
      | zero => exact Or.inl rfl
      | succ c => exact h.elim
    | succ l => exact h.elim
  | some a =>
    obtain ⟨b, off, sp⟩ := a
    have : sp = none := h.2.2.2.1
    subst this
    exact Or.inr ⟨b, off, len, cap, rfl⟩
theorem open_recs {H : Type} {enc : TypeId × Value → H} {W : World} {base : Nat} {v : Value} {d : DataW H} {ps : List MemPlace} (hval : Value.okWide Tryz.prog W .any base 26 v)
    (hd : DataW.Trod enc Tryz.prog W 0 (fun _ => true) true 26 v d ps) : ∃ x len cap l, v = .slice x len cap ∧ (Recs W x len l ∧ len ≤ cap ∧ len ≤ maxLen) := by
  obtain ⟨fuel, hf⟩ := hd
  rcases okWide_slice hval with rfl | ⟨b, off, len, cap, rfl⟩
  · exact ⟨none, 0, 0, [], rfl, ⟨rfl, Or.inl ⟨rfl, rfl⟩⟩, Nat.le_refl _, Nat.zero_le _⟩
  · rcases Go.Deep.open_slice Tryz.underlying26 hf with ⟨h0, _⟩ | ⟨a, len', cap', m, n, D, Pl, hcs, _, hlc, hcm, hm, _, hx⟩
    · simp [Value.cells] at h0
    · simp [Value.cells] at hcs
      obtain ⟨rfl, rfl, rfl⟩ := hcs
      have hlm : len ≤ m := by rw [hm]; split <;> omega
      have each : ∀ i, i < m → ∃ r : Rc, RecAt W b (off + i * 8) r := by
        intro i hi
        obtain ⟨cs', h1, h2⟩ := hx i hi
        rw [recCells] at h1
        obtain ⟨_, hl8, hcell⟩ := World.cells?_some h1
        obtain ⟨r, rfl⟩ := open_rec8 hl8 h2
        refine ⟨r, ?_⟩
        have g : ∀ j, j < 8 → W.cell? ⟨b, off + i * 8 + j, none⟩ = r.cs.toList[j]? := fun j hj => by
          have := hcell j hj
          rw [Addr.add_lit, Addr.add_lit] at this
          exact this
        exact ⟨g 0 (by omega), g 1 (by omega), g 2 (by omega), g 3 (by omega), g 4 (by omega), g 5 (by omega), g 6 (by omega), g 7 (by omega)⟩
      have all : ∃ l : List Rc, l.length = len ∧ ∀ i, (h : i < l.length) → RecAt W b (off + i * 8) l[i] := by
        have step : ∀ k, k ≤ len → ∃ l : List Rc, l.length = k ∧ ∀ i, (h : i < l.length) → RecAt W b (off + i * 8) l[i] := by
          intro k
          induction k with
          | zero => intro _; exact ⟨[], rfl, fun i h => absurd h (Nat.not_lt_zero i)⟩
          | succ k ih =>
            intro hk
            obtain ⟨l, hl, hr⟩ := ih (by omega)
            obtain ⟨r, hr2⟩ := each k (by omega)
            refine ⟨l ++ [r], by simp [hl], fun i h => ?_⟩
            by_cases hi : i < l.length
            · rw [List.getElem_append_left hi]; exact hr i hi
            · have : i = k := by simp at h; omega
              subst this
              rw [List.getElem_append_right (by omega)]
              simpa using hr2
        exact step len (Nat.le_refl _)
      obtain ⟨l, hl, hr⟩ := all
      exact ⟨_, _, _, l, rfl, ⟨hl, Or.inr ⟨b, off, rfl, hr⟩⟩, hlc, Nat.le_trans hlc hcm⟩
end Go.Proofs.YtbfefocehnafgaaGreat.B
namespace Go.Proofs.YtbfefocehnafgaaGreat.B
set_option maxRecDepth 100000
open Go.ChangeShapes Go.WideShapes Go.ChangeAt Go.RowKit

/-- The document's answer of Now. -/
def nowOr (p q r : Pg) (l : List Rc) (safe : Int) : List Int := if worldErr p q r l safe = 0 then pagesR l else List.replicate 12 0
theorem worldErr_zero {p q r : Pg} {l : List Rc} {safe : Int} (h : worldErr p q r l safe = 0) : logErr l = 0 ∧ out 0 (l.length : Nat) [safe] = false ∧ untoldTo l safe p q r 3 = false := by
  by_cases h0 : logErr l = 0
  · cases ho : out 0 (l.length : Nat) [safe]
    · cases hu : untoldTo l safe p q r 3
      · exact ⟨h0, rfl, rfl⟩
      · rw [worldErr_disk h0 ho hu] at h; cases h
    · rw [worldErr_safe h0 ho] at h; cases h
  · rw [worldErr_log h0] at h; exact absurd h h0
theorem eqPg_comm (p q : Pg) : eqPg p q = eqPg q p := by
  rw [Bool.eq_iff_iff, eqPg_iff, eqPg_iff]; exact ⟨Eq.symm, Eq.symm⟩
set_option maxHeartbeats 1000000 in
theorem worldCheck_any (p q r : Pg) (a : Option Addr) (len cap : Nat) (l : List Rc) (safe : Int) (w : World) (h : Recs w a len l) (hnil : a = none → cap = 0) (hm : len ≤ maxLen) :
    Calls Tryz.prog 16 #[wdVal p q r (.slice a len cap) safe] w fun e w' => e = .returned (.int .i64 (worldErr p q r l safe)) ∧ Ext w w' := by
  have E0 := (Ext.refl w).alloc (.cells (wdCells p q r (.slice a len cap) safe) 28)
  have H := open_any p q r a len cap l safe (w.alloc (.cells (wdCells p q r (.slice a len cap) safe) 28)) (h.ext E0) hnil hm
  generalize worldErr p q r l safe = we at *
  go_enter Tryz.func16, Tryz.ntmps16
  go_wp2_with fail
  refine H.mono ?_
  rintro e w1 ⟨v, rfl, hE, _⟩
  go_wp2_with fail
  go_ret
  exact ⟨rfl, E0.trans hE⟩
set_option maxHeartbeats 2000000 in
theorem now_any (p q r : Pg) (a : Option Addr) (len cap : Nat) (l : List Rc) (safe : Int) (w : World) (h : Recs w a len l) (hnil : a = none → cap = 0) (hm : len ≤ maxLen) :
    Calls Tryz.prog 22 #[wdVal p q r (.slice a len cap) safe] w fun e w' => e = .returned (.tuple #[.agg (ints (nowOr p q r l safe)), .int .i64 (worldErr p q r l safe)]) ∧ Ext w w' := by
  have E0 := ((Ext.refl w).alloc (.cells (wdCells p q r (.slice a len cap) safe) 28)).alloc (.cells #[.int .i64 0, .int .i64 0, .int .i64 0, .int .i64 0, .int .i64 0, .int .i64 0, .int .i64 0, .int .i64 0, .int .i64 0, .int .i64 0, .int .i64 0, .int .i64 0] 25)
  have Z0 := Blk.new (w.alloc (.cells (wdCells p q r (.slice a len cap) safe) 28)) (w.heap.size + 1) #[.int .i64 0, .int .i64 0, .int .i64 0, .int .i64 0, .int .i64 0, .int .i64 0, .int .i64 0, .int .i64 0, .int .i64 0, .int .i64 0, .int .i64 0, .int .i64 0] 25 (by simp)
  have H := open_any p q r a len cap l safe ((w.alloc (.cells (wdCells p q r (.slice a len cap) safe) 28)).alloc (.cells #[.int .i64 0, .int .i64 0, .int .i64 0, .int .i64 0, .int .i64 0, .int .i64 0, .int .i64 0, .int .i64 0, .int .i64 0, .int .i64 0, .int .i64 0, .int .i64 0] 25)) (h.ext E0) hnil hm
  have HN0 : Hid (worldErr p q r l safe = 0 → nowOr p q r l safe = pagesR l) := fun h0 => by unfold nowOr; rw [if_pos h0]
  have HN1 : Hid (worldErr p q r l safe ≠ 0 → nowOr p q r l safe = List.replicate 12 0) := fun h0 => by unfold nowOr; rw [if_neg h0]
  generalize worldErr p q r l safe = we at *
  generalize nowOr p q r l safe = no at *
  go_enter Tryz.func22, Tryz.ntmps22
  go_wp2_with fail
  refine H.mono ?_
  rintro e w1 ⟨v, rfl, hE, ⟨h0, db, pb, mt, mh, tx, ho, lv, rfl, hD⟩ | ⟨h0, rfl⟩⟩
  · subst h0
    have hno := HN0.out rfl
    subst hno
    have Z1 := Z0.ext hE
    have E1 := E0.trans hE
    have b := hD.book.blk
    obtain ⟨a0, a1, a2, a3, a4, a5, a6, a7, a8, a9, a10, a11, hps⟩ := list12 _ (pagesR_len l)
    have HP := (show Hid (pagesR l = [a0, a1, a2, a3, a4, a5, a6, a7, a8, a9, a10, a11]) from hps)
    rw [hps, bookArr_eq] at b
    have c := b.cell
    have cd := hD.blk.cell
    have c0 := Z1.cell
    have f0 := Z1.fr
    have hne : w.heap.size + 1 ≠ pb := by have := hD.book.ge; simp at this; omega
    have hne2 : w.heap.size + 1 ≠ db := by have := hD.ge; simp at this; omega
    clear hD H b hps
    go_wp2_with fail
    refine bodyPost_ret (v := .tuple #[.agg #[.int .i64 a0, .int .i64 a1, .int .i64 a2, .int .i64 a3, .int .i64 a4, .int .i64 a5, .int .i64 a6, .int .i64 a7, .int .i64 a8, .int .i64 a9, .int .i64 a10, .int .i64 a11], .int .i64 0]) (by simp [results, Tryz.results22, go_sem, c0]) rfl ⟨by rw [HP.out]; rfl, ?_⟩
    exact ((((((((((((E1.setCell (by simp) _).setCell (by simp) _).setCell (by simp) _).setCell (by simp) _).setCell (by simp) _).setCell (by simp) _).setCell (by simp) _).setCell (by simp) _).setCell (by simp) _).setCell (by simp) _).setCell (by simp) _).setCell (by simp) _)
  · have hb : (we != 0) = true := by simpa using h0
    have hno := HN1.out h0
    subst hno
    have Z1 := Z0.ext hE
    have E1 := E0.trans hE
    have c0 := Z1.cell
    have f0 := Z1.fr
    clear H
    go_wp2_with fail
    refine bodyPost_ret (v := .tuple #[.agg #[.int .i64 0, .int .i64 0, .int .i64 0, .int .i64 0, .int .i64 0, .int .i64 0, .int .i64 0, .int .i64 0, .int .i64 0, .int .i64 0, .int .i64 0, .int .i64 0], .int .i64 we]) (by simp [results, Tryz.results22, go_sem, c0]) rfl ⟨rfl, ?_⟩
    exact ((((((((((((E1.setCell (by simp) _).setCell (by simp) _).setCell (by simp) _).setCell (by simp) _).setCell (by simp) _).setCell (by simp) _).setCell (by simp) _).setCell (by simp) _).setCell (by simp) _).setCell (by simp) _).setCell (by simp) _).setCell (by simp) _)
set_option maxHeartbeats 4000000 in
theorem worldError_any (p q r : Pg) (a : Option Addr) (len cap : Nat) (l : List Rc) (safe : Int) (w : World) (h : Recs w a len l) (hcap : len ≤ cap) (hm : len ≤ maxLen) :
    Calls Tryz.prog 15 #[wdVal p q r (.slice a len cap) safe] w fun e w' => e = .returned (.int .i64 (worldErr p q r l safe)) ∧ Ext w w' := by
  have E0 := (Ext.refl w).alloc (.cells (wdCells p q r (.slice a len cap) safe) 28)
  have B0 := Blk.new w w.heap.size (wdCells p q r (.slice a len cap) safe) 28 rfl
  have H := logError_any a len cap l (w.alloc (.cells (wdCells p q r (.slice a len cap) safe) 28)) (h.ext E0) hcap hm
  have hlen := h.len
  have X1 : Hid (logErr l ≠ 0 → worldErr p q r l safe = logErr l) := worldErr_log
  have X2 : Hid (logErr l = 0 → out 0 (len : Nat) [safe] = true → worldErr p q r l safe = 3) := fun h0 ho => worldErr_safe h0 (by rw [hlen]; exact ho)
  have X3 : Hid (logErr l = 0 → out 0 (len : Nat) [safe] = false → untoldTo l safe p q r 3 = true → worldErr p q r l safe = 1) := fun h0 ho hu => worldErr_disk h0 (by rw [hlen]; exact ho) hu
  have X4 : Hid (logErr l = 0 → out 0 (len : Nat) [safe] = false → untoldTo l safe p q r 3 = false → worldErr p q r l safe = 0) := fun h0 ho hu => worldErr_none h0 (by rw [hlen]; exact ho) hu
  have HLog : Hid (logErr l = 0 → len ≤ 60 ∧ Fits l) := fun h0 => ⟨by have := (logErr_zero h0).1; omega, right_fits l (logErr_zero h0).2⟩
  generalize worldErr p q r l safe = we at *
  generalize logErr l = x at *
  go_enter Tryz.func15, Tryz.ntmps15
  go_wp2_with fail
  refine H.mono ?_
  rintro e w1 ⟨rfl, hE1⟩
  have B1 := B0.ext hE1
  have E1 := E0.trans hE1
  clear H hE1 B0 E0
  have b1 := B1.cell
  by_cases h0 : x = 0
  · subst h0
    obtain ⟨hl60, hfit⟩ := HLog.out rfl
    clear X1 HLog
    go_wp2_with fail
    refine (within_any safe 0 (len : Nat) _).mono ?_
    rintro e w2 ⟨rfl, rfl⟩
    cases hwi : wi safe 0 (len : Nat)
    · have HO : Hid (out 0 (len : Nat) [safe] = true) := by rw [Hid, out_one, hwi]; rfl
      have hwe := X2.out (by trivial) HO.out
      subst hwe
      go_wp2_with fail
      go_ret
      exact ⟨rfl, E1⟩
    · have HO : Hid (out 0 (len : Nat) [safe] = false) := by rw [Hid, out_one, hwi]; rfl
      have hsafe := (out1_false HO.out).2
      have hsafe0 := (out1_false HO.out).1
      clear X2
      clear hwi
      go_wp2_with fail
      clear b1
      go_loopw [4] (fun i wr => ∃ k : Nat, k ≤ 3 ∧ i = .int .i64 k ∧ Ext w2 wr ∧ untoldTo l safe p q r k = false) (fun i _ => 3 - (intOf i).toNat)
      case atStart => exact ⟨0, by omega, rfl, Ext.refl _, rfl⟩
      case round =>
        obtain ⟨k, hk, rfl, hE, hu⟩ := hrel
        have HU := (show Hid (untoldTo l safe p q r k = false) from hu)
        clear hu
        have E4 := E1.trans hE
        have b4 := (B1.ext hE).cell
        have hkc : k = 0 ∨ k = 1 ∨ k = 2 ∨ k = 3 := by omega
        rcases hkc with rfl | rfl | rfl | rfl
        · have HN : Hid (untoldTo l safe p q r (0 + 1) = (untoldTo l safe p q r 0 || untoldB l safe 0 p)) := rfl
          have HB0 : Hid (untoldB l safe 0 p = (out 0 safe [p.last] || !eqPg p (pgAt (pagesR (l.take p.last.toNat)) 0))) := rfl
          cases hwi : wi p.last 0 safe
          · have HB : Hid (untoldB l safe 0 p = true) := by rw [Hid, HB0.out, out_one, hwi]; rfl
            have HWI := (show Hid (wi p.last 0 safe = false) from hwi)
            go_wp2_with fail
            refine wp_region_calm (by kernel_rfl) (by kernel_rfl) (fun F hF => ?_)
            have cL := hF.cell (B1.ext hE)
            have HC1 : Hid (∀ y, Calls Tryz.prog 42 #[.int .i64 p.last, .int .i64 0, .int .i64 safe] (F y) fun e w' => e = .returned (.bool false) ∧ w' = F y) := fun y => by have hh := within_any p.last 0 safe (F y); rw [HWI.out] at hh; exact hh
            repeat (go_big_quiet_step ((go_at_call 42; exact hF.still (HC1.out _))))
            refine wpQuiet_nil ?_
            rintro _ ⟨v, rfl⟩
            have hwe := X3.out (by trivial) HO.out (by have := untoldTo_mono (k := 0 + 1) (by rw [HN.out, HB.out]; exact Bool.or_true _) 2; exact this)
            subst hwe
            go_wp2_with fail
            go_ret
            exact ⟨rfl, E4.trans (hF.ext v)⟩
          · have hdl := out1_false (show out 0 safe [p.last] = false by rw [out_one, hwi]; rfl)
            have HB1 : Hid (untoldB l safe 0 p = !eqPg p (pgAt (pagesR (l.take p.last.toNat)) 0)) := by rw [Hid, HB0.out, out_one, hwi]; rfl
            have HWI := (show Hid (wi p.last 0 safe = true) from hwi)
            clear HB0 hwi
            obtain ⟨d0, d1, d2, dl⟩ := p
            dsimp only at hdl HB1 HWI
            obtain ⟨n, rfl⟩ : ∃ n : Nat, dl = (n : Int) := ⟨dl.toNat, by omega⟩
            rw [Int.toNat_natCast] at HB1
            have hnl : n ≤ len := by omega
            have hnc : n ≤ cap := by omega
            have HPG0 := fun w' (e : Ext w w') => pages_any a n cap (l.take n) w' ((h.ext e).take n hnl) (by omega) (fun x hx => hfit x (List.mem_of_mem_take hx))
            obtain ⟨a0, a1, a2, a3, a4, a5, a6, a7, a8, a9, a10, a11, hps⟩ := list12 _ (pagesR_len (l.take n))
            rw [hps] at HPG0
            rw [show ints [a0, a1, a2, a3, a4, a5, a6, a7, a8, a9, a10, a11] = #[.int .i64 a0, .int .i64 a1, .int .i64 a2, .int .i64 a3, .int .i64 a4, .int .i64 a5, .int .i64 a6, .int .i64 a7, .int .i64 a8, .int .i64 a9, .int .i64 a10, .int .i64 a11] from rfl] at HPG0
            have HB2 : Hid (untoldB l safe 0 ⟨d0, d1, d2, (n : Int)⟩ = !eqPg ⟨a0, a1, a2, a3⟩ ⟨d0, d1, d2, (n : Int)⟩) := by
              rw [Hid, HB1.out, hps, eqPg_comm]; rfl
            clear hps HB1
            have hix : ∀ w, (Instr.index 25 (.agg #[.int .i64 a0, .int .i64 a1, .int .i64 a2, .int .i64 a3, .int .i64 a4, .int .i64 a5, .int .i64 a6, .int .i64 a7, .int .i64 a8, .int .i64 a9, .int .i64 a10, .int .i64 a11]) (.int .i64 0)).run Tryz.prog w = .ok (.agg #[.int .i64 a0, .int .i64 a1, .int .i64 a2, .int .i64 a3]) w := fun w => by rw [index_pages _ 0 (by decide) (by decide)]; rfl
            have hnq := neq_page ⟨a0, a1, a2, a3⟩ ⟨d0, d1, d2, (n : Int)⟩
            dsimp only [Pg.val] at hnq
            dsimp only [wdCells] at b4
            go_wp2_with fail
            refine wp_region_calm (by kernel_rfl) (by kernel_rfl) (fun F hF => ?_)
            have cL := hF.cell (B1.ext hE)
            dsimp only [wdCells] at cL
            have HC1 : Hid (∀ y, Calls Tryz.prog 42 #[.int .i64 (n : Int), .int .i64 0, .int .i64 safe] (F y) fun e w' => e = .returned (.bool true) ∧ w' = F y) := fun y => by have hh := within_any (n : Int) 0 safe (F y); rw [HWI.out] at hh; exact hh
            have HC2 : Hid (∀ y, Calls Tryz.prog 43 #[.slice a n cap] (F y) fun e w' => e = .returned (.agg #[.int .i64 a0, .int .i64 a1, .int .i64 a2, .int .i64 a3, .int .i64 a4, .int .i64 a5, .int .i64 a6, .int .i64 a7, .int .i64 a8, .int .i64 a9, .int .i64 a10, .int .i64 a11]) ∧ Ext (F y) w') := fun y => HPG0 (F y) (E4.trans (hF.ext y))
            repeat (go_big_quiet_step (first | (go_at_call 42; exact hF.still (HC1.out _)) | (go_at_call 43; exact hF.call (HC2.out _))))
            refine wpQuiet_nil ?_
            rintro _ ⟨v, rfl⟩
            cases hq : eqPg ⟨a0, a1, a2, a3⟩ ⟨d0, d1, d2, (n : Int)⟩
            · have HB : Hid (untoldB l safe 0 ⟨d0, d1, d2, (n : Int)⟩ = true) := by rw [Hid, HB2.out, hq]; rfl
              have hwe := X3.out (by trivial) HO.out (by have := untoldTo_mono (k := 0 + 1) (by rw [HN.out, HB.out]; exact Bool.or_true _) 2; exact this)
              subst hwe
              go_wp2_with fail
              go_ret
              exact ⟨rfl, E4.trans (hF.ext v)⟩
            · have HB : Hid (untoldB l safe 0 ⟨d0, d1, d2, (n : Int)⟩ = false) := by rw [Hid, HB2.out, hq]; rfl
              go_wp2_with fail
              go_roundw
              case rel => exact ⟨0 + 1, by omega, by go_num, hE.trans (hF.ext v), by rw [HN.out, HU.out, HB.out]; rfl⟩
              case measure => simp [intOf]
        · have HN : Hid (untoldTo l safe p q r (1 + 1) = (untoldTo l safe p q r 1 || untoldB l safe 1 q)) := rfl
          have HB0 : Hid (untoldB l safe 1 q = (out 0 safe [q.last] || !eqPg q (pgAt (pagesR (l.take q.last.toNat)) 1))) := rfl
          cases hwi : wi q.last 0 safe
          · have HB : Hid (untoldB l safe 1 q = true) := by rw [Hid, HB0.out, out_one, hwi]; rfl
            have HWI := (show Hid (wi q.last 0 safe = false) from hwi)
            go_wp2_with fail
            refine wp_region_calm (by kernel_rfl) (by kernel_rfl) (fun F hF => ?_)
            have cL := hF.cell (B1.ext hE)
            have HC1 : Hid (∀ y, Calls Tryz.prog 42 #[.int .i64 q.last, .int .i64 0, .int .i64 safe] (F y) fun e w' => e = .returned (.bool false) ∧ w' = F y) := fun y => by have hh := within_any q.last 0 safe (F y); rw [HWI.out] at hh; exact hh
            repeat (go_big_quiet_step ((go_at_call 42; exact hF.still (HC1.out _))))
            refine wpQuiet_nil ?_
            rintro _ ⟨v, rfl⟩
            have hwe := X3.out (by trivial) HO.out (by have := untoldTo_mono (k := 1 + 1) (by rw [HN.out, HB.out]; exact Bool.or_true _) 1; exact this)
            subst hwe
            go_wp2_with fail
            go_ret
            exact ⟨rfl, E4.trans (hF.ext v)⟩
          · have hdl := out1_false (show out 0 safe [q.last] = false by rw [out_one, hwi]; rfl)
            have HB1 : Hid (untoldB l safe 1 q = !eqPg q (pgAt (pagesR (l.take q.last.toNat)) 1)) := by rw [Hid, HB0.out, out_one, hwi]; rfl
            have HWI := (show Hid (wi q.last 0 safe = true) from hwi)
            clear HB0 hwi
            obtain ⟨d0, d1, d2, dl⟩ := q
            dsimp only at hdl HB1 HWI
            obtain ⟨n, rfl⟩ : ∃ n : Nat, dl = (n : Int) := ⟨dl.toNat, by omega⟩
            rw [Int.toNat_natCast] at HB1
            have hnl : n ≤ len := by omega
            have hnc : n ≤ cap := by omega
            have HPG0 := fun w' (e : Ext w w') => pages_any a n cap (l.take n) w' ((h.ext e).take n hnl) (by omega) (fun x hx => hfit x (List.mem_of_mem_take hx))
            obtain ⟨a0, a1, a2, a3, a4, a5, a6, a7, a8, a9, a10, a11, hps⟩ := list12 _ (pagesR_len (l.take n))
            rw [hps] at HPG0
            rw [show ints [a0, a1, a2, a3, a4, a5, a6, a7, a8, a9, a10, a11] = #[.int .i64 a0, .int .i64 a1, .int .i64 a2, .int .i64 a3, .int .i64 a4, .int .i64 a5, .int .i64 a6, .int .i64 a7, .int .i64 a8, .int .i64 a9, .int .i64 a10, .int .i64 a11] from rfl] at HPG0
            have HB2 : Hid (untoldB l safe 1 ⟨d0, d1, d2, (n : Int)⟩ = !eqPg ⟨a4, a5, a6, a7⟩ ⟨d0, d1, d2, (n : Int)⟩) := by
              rw [Hid, HB1.out, hps, eqPg_comm]; rfl
            clear hps HB1
            have hix : ∀ w, (Instr.index 25 (.agg #[.int .i64 a0, .int .i64 a1, .int .i64 a2, .int .i64 a3, .int .i64 a4, .int .i64 a5, .int .i64 a6, .int .i64 a7, .int .i64 a8, .int .i64 a9, .int .i64 a10, .int .i64 a11]) (.int .i64 1)).run Tryz.prog w = .ok (.agg #[.int .i64 a4, .int .i64 a5, .int .i64 a6, .int .i64 a7]) w := fun w => by rw [index_pages _ 1 (by decide) (by decide)]; rfl
            have hnq := neq_page ⟨a4, a5, a6, a7⟩ ⟨d0, d1, d2, (n : Int)⟩
            dsimp only [Pg.val] at hnq
            dsimp only [wdCells] at b4
            go_wp2_with fail
            refine wp_region_calm (by kernel_rfl) (by kernel_rfl) (fun F hF => ?_)
            have cL := hF.cell (B1.ext hE)
            dsimp only [wdCells] at cL
            have HC1 : Hid (∀ y, Calls Tryz.prog 42 #[.int .i64 (n : Int), .int .i64 0, .int .i64 safe] (F y) fun e w' => e = .returned (.bool true) ∧ w' = F y) := fun y => by have hh := within_any (n : Int) 0 safe (F y); rw [HWI.out] at hh; exact hh
            have HC2 : Hid (∀ y, Calls Tryz.prog 43 #[.slice a n cap] (F y) fun e w' => e = .returned (.agg #[.int .i64 a0, .int .i64 a1, .int .i64 a2, .int .i64 a3, .int .i64 a4, .int .i64 a5, .int .i64 a6, .int .i64 a7, .int .i64 a8, .int .i64 a9, .int .i64 a10, .int .i64 a11]) ∧ Ext (F y) w') := fun y => HPG0 (F y) (E4.trans (hF.ext y))
            repeat (go_big_quiet_step (first | (go_at_call 42; exact hF.still (HC1.out _)) | (go_at_call 43; exact hF.call (HC2.out _))))
            refine wpQuiet_nil ?_
            rintro _ ⟨v, rfl⟩
            cases hq : eqPg ⟨a4, a5, a6, a7⟩ ⟨d0, d1, d2, (n : Int)⟩
            · have HB : Hid (untoldB l safe 1 ⟨d0, d1, d2, (n : Int)⟩ = true) := by rw [Hid, HB2.out, hq]; rfl
              have hwe := X3.out (by trivial) HO.out (by have := untoldTo_mono (k := 1 + 1) (by rw [HN.out, HB.out]; exact Bool.or_true _) 1; exact this)
              subst hwe
              go_wp2_with fail
              go_ret
              exact ⟨rfl, E4.trans (hF.ext v)⟩
            · have HB : Hid (untoldB l safe 1 ⟨d0, d1, d2, (n : Int)⟩ = false) := by rw [Hid, HB2.out, hq]; rfl
              go_wp2_with fail
              go_roundw
              case rel => exact ⟨1 + 1, by omega, by go_num, hE.trans (hF.ext v), by rw [HN.out, HU.out, HB.out]; rfl⟩
              case measure => simp [intOf]
        · have HN : Hid (untoldTo l safe p q r (2 + 1) = (untoldTo l safe p q r 2 || untoldB l safe 2 r)) := rfl
          have HB0 : Hid (untoldB l safe 2 r = (out 0 safe [r.last] || !eqPg r (pgAt (pagesR (l.take r.last.toNat)) 2))) := rfl
          cases hwi : wi r.last 0 safe
          · have HB : Hid (untoldB l safe 2 r = true) := by rw [Hid, HB0.out, out_one, hwi]; rfl
            have HWI := (show Hid (wi r.last 0 safe = false) from hwi)
            go_wp2_with fail
            refine wp_region_calm (by kernel_rfl) (by kernel_rfl) (fun F hF => ?_)
            have cL := hF.cell (B1.ext hE)
            have HC1 : Hid (∀ y, Calls Tryz.prog 42 #[.int .i64 r.last, .int .i64 0, .int .i64 safe] (F y) fun e w' => e = .returned (.bool false) ∧ w' = F y) := fun y => by have hh := within_any r.last 0 safe (F y); rw [HWI.out] at hh; exact hh
            repeat (go_big_quiet_step ((go_at_call 42; exact hF.still (HC1.out _))))
            refine wpQuiet_nil ?_
            rintro _ ⟨v, rfl⟩
            have hwe := X3.out (by trivial) HO.out (by have := untoldTo_mono (k := 2 + 1) (by rw [HN.out, HB.out]; exact Bool.or_true _) 0; exact this)
            subst hwe
            go_wp2_with fail
            go_ret
            exact ⟨rfl, E4.trans (hF.ext v)⟩
          · have hdl := out1_false (show out 0 safe [r.last] = false by rw [out_one, hwi]; rfl)
            have HB1 : Hid (untoldB l safe 2 r = !eqPg r (pgAt (pagesR (l.take r.last.toNat)) 2)) := by rw [Hid, HB0.out, out_one, hwi]; rfl
            have HWI := (show Hid (wi r.last 0 safe = true) from hwi)
            clear HB0 hwi
            obtain ⟨d0, d1, d2, dl⟩ := r
            dsimp only at hdl HB1 HWI
            obtain ⟨n, rfl⟩ : ∃ n : Nat, dl = (n : Int) := ⟨dl.toNat, by omega⟩
            rw [Int.toNat_natCast] at HB1
            have hnl : n ≤ len := by omega
            have hnc : n ≤ cap := by omega
            have HPG0 := fun w' (e : Ext w w') => pages_any a n cap (l.take n) w' ((h.ext e).take n hnl) (by omega) (fun x hx => hfit x (List.mem_of_mem_take hx))
            obtain ⟨a0, a1, a2, a3, a4, a5, a6, a7, a8, a9, a10, a11, hps⟩ := list12 _ (pagesR_len (l.take n))
            rw [hps] at HPG0
            rw [show ints [a0, a1, a2, a3, a4, a5, a6, a7, a8, a9, a10, a11] = #[.int .i64 a0, .int .i64 a1, .int .i64 a2, .int .i64 a3, .int .i64 a4, .int .i64 a5, .int .i64 a6, .int .i64 a7, .int .i64 a8, .int .i64 a9, .int .i64 a10, .int .i64 a11] from rfl] at HPG0
            have HB2 : Hid (untoldB l safe 2 ⟨d0, d1, d2, (n : Int)⟩ = !eqPg ⟨a8, a9, a10, a11⟩ ⟨d0, d1, d2, (n : Int)⟩) := by
              rw [Hid, HB1.out, hps, eqPg_comm]; rfl
            clear hps HB1
            have hix : ∀ w, (Instr.index 25 (.agg #[.int .i64 a0, .int .i64 a1, .int .i64 a2, .int .i64 a3, .int .i64 a4, .int .i64 a5, .int .i64 a6, .int .i64 a7, .int .i64 a8, .int .i64 a9, .int .i64 a10, .int .i64 a11]) (.int .i64 2)).run Tryz.prog w = .ok (.agg #[.int .i64 a8, .int .i64 a9, .int .i64 a10, .int .i64 a11]) w := fun w => by rw [index_pages _ 2 (by decide) (by decide)]; rfl
            have hnq := neq_page ⟨a8, a9, a10, a11⟩ ⟨d0, d1, d2, (n : Int)⟩
            dsimp only [Pg.val] at hnq
            dsimp only [wdCells] at b4
            go_wp2_with fail
            refine wp_region_calm (by kernel_rfl) (by kernel_rfl) (fun F hF => ?_)
            have cL := hF.cell (B1.ext hE)
            dsimp only [wdCells] at cL
            have HC1 : Hid (∀ y, Calls Tryz.prog 42 #[.int .i64 (n : Int), .int .i64 0, .int .i64 safe] (F y) fun e w' => e = .returned (.bool true) ∧ w' = F y) := fun y => by have hh := within_any (n : Int) 0 safe (F y); rw [HWI.out] at hh; exact hh
            have HC2 : Hid (∀ y, Calls Tryz.prog 43 #[.slice a n cap] (F y) fun e w' => e = .returned (.agg #[.int .i64 a0, .int .i64 a1, .int .i64 a2, .int .i64 a3, .int .i64 a4, .int .i64 a5, .int .i64 a6, .int .i64 a7, .int .i64 a8, .int .i64 a9, .int .i64 a10, .int .i64 a11]) ∧ Ext (F y) w') := fun y => HPG0 (F y) (E4.trans (hF.ext y))
            repeat (go_big_quiet_step (first | (go_at_call 42; exact hF.still (HC1.out _)) | (go_at_call 43; exact hF.call (HC2.out _))))
            refine wpQuiet_nil ?_
            rintro _ ⟨v, rfl⟩
            cases hq : eqPg ⟨a8, a9, a10, a11⟩ ⟨d0, d1, d2, (n : Int)⟩
            · have HB : Hid (untoldB l safe 2 ⟨d0, d1, d2, (n : Int)⟩ = true) := by rw [Hid, HB2.out, hq]; rfl
              have hwe := X3.out (by trivial) HO.out (by have := untoldTo_mono (k := 2 + 1) (by rw [HN.out, HB.out]; exact Bool.or_true _) 0; exact this)
              subst hwe
              go_wp2_with fail
              go_ret
              exact ⟨rfl, E4.trans (hF.ext v)⟩
            · have HB : Hid (untoldB l safe 2 ⟨d0, d1, d2, (n : Int)⟩ = false) := by rw [Hid, HB2.out, hq]; rfl
              go_wp2_with fail
              go_roundw
              case rel => exact ⟨2 + 1, by omega, by go_num, hE.trans (hF.ext v), by rw [HN.out, HU.out, HB.out]; rfl⟩
              case measure => simp [intOf]
        · have hwe := X4.out (by trivial) HO.out HU.out
          subst hwe
          go_wp2_with fail
          go_ret
          exact ⟨rfl, E4⟩
  · have hb : (x != 0) = true := by simpa using h0
    have hwe := X1.out h0
    subst hwe
    go_wp2_with fail
    go_ret
    exact ⟨rfl, E1⟩
end Go.Proofs.YtbfefocehnafgaaGreat.B
namespace Go.Proofs.YtbfefocehnafgaaGreat.B
set_option maxRecDepth 100000
open Go.ChangeShapes Go.WideShapes Go.ChangeAt Go.RowKit

theorem typesWorld : Tryz.prog.cellTypes Tryz.prog.depth 28 = some [3, 3, 3, 3, 3, 3, 3, 3, 3, 3, 3, 3, 26, 3] := by kernel_rfl
theorem worldCells : Tryz.prog.cellsOf 28 = 14 := by kernel_rfl
theorem pagesCells : Tryz.prog.cellsOf 25 = 12 := by kernel_rfl
theorem rowCells : Tryz.prog.cellsOf 26 = 1 := by kernel_rfl
theorem size14 {α : Type} {cs : Array α} (h : cs.size = 14) : ∃ a0 a1 a2 a3 a4 a5 a6 a7 a8 a9 a10 a11 a12 a13, cs = #[a0, a1, a2, a3, a4, a5, a6, a7, a8, a9, a10, a11, a12, a13] := by
  obtain ⟨l⟩ := cs
  match l, h with
  | [a0, a1, a2, a3, a4, a5, a6, a7, a8, a9, a10, a11, a12, a13], _ => exact ⟨a0, a1, a2, a3, a4, a5, a6, a7, a8, a9, a10, a11, a12, a13, rfl⟩
theorem cell_slice {W : World} {base : Nat} {v : Value} (h : Cell.okWide Tryz.prog W .any base 26 v) : v = .slice none 0 0 ∨ ∃ b off len cap, v = .slice (some ⟨b, off, none⟩) len cap := by
  simp only [Cell.okWide, Tryz.underlying26] at h
  cases v <;> simp only [Cell.ok, Tryz.underlying26] at h
  rename_i x len cap
  cases x with
  | none =>
    cases len with
    | zero => cases cap with
      | zero => exact Or.inl rfl
      | succ c => exact h.elim
    | succ l => exact h.elim
  | some a =>
    obtain ⟨b, off, sp⟩ := a
    have : sp = none := h.2.2.2.1
    subst this
    exact Or.inr ⟨b, off, len, cap, rfl⟩
theorem recs_of_trod {H : Type} {enc : TypeId × Value → H} {W : World} {b off len cap fuel : Nat} {x : DataW H × List MemPlace} (hf : DataW.trod enc Tryz.prog W 0 (fun _ => true) true fuel 26 [.slice (some ⟨b, off, none⟩) len cap] = some x) :
    ∃ l, Recs W (some ⟨b, off, none⟩) len l ∧ len ≤ cap ∧ len ≤ maxLen ∧ ∀ i, i < len * 8 → MemPlace.cell b (off + i) ∈ x.2 := by
  rcases Go.Deep.open_slice Tryz.underlying26 hf with ⟨h0, _⟩ | ⟨a, len', cap', m, n, D, Pl, hcs, _, hlc, hcm, hm, hxe, hx⟩
  · simp at h0
  · simp at hcs
    obtain ⟨rfl, rfl, rfl⟩ := hcs
    have hlm : len ≤ m := by rw [hm]; split <;> omega
    have each : ∀ i, i < m → ∃ r : Rc, RecAt W b (off + i * 8) r := by
      intro i hi
      obtain ⟨cs', h1, h2⟩ := hx i hi
      rw [recCells] at h1
      obtain ⟨_, hl8, hcell⟩ := World.cells?_some h1
      obtain ⟨r, rfl⟩ := open_rec8 hl8 h2
      refine ⟨r, ?_⟩
      have g : ∀ j, j < 8 → W.cell? ⟨b, off + i * 8 + j, none⟩ = r.cs.toList[j]? := fun j hj => by
        have := hcell j hj
        rw [Addr.add_lit, Addr.add_lit] at this
        exact this
      exact ⟨g 0 (by omega), g 1 (by omega), g 2 (by omega), g 3 (by omega), g 4 (by omega), g 5 (by omega), g 6 (by omega), g 7 (by omega)⟩
    have step : ∀ k, k ≤ len → ∃ l : List Rc, l.length = k ∧ ∀ i, (h : i < l.length) → RecAt W b (off + i * 8) l[i] := by
      intro k
      induction k with
      | zero => intro _; exact ⟨[], rfl, fun i h => absurd h (Nat.not_lt_zero i)⟩
      | succ k ih =>
        intro hk
        obtain ⟨l, hl, hr⟩ := ih (by omega)
        obtain ⟨r, hr2⟩ := each k (by omega)
        refine ⟨l ++ [r], by simp [hl], fun i h => ?_⟩
        by_cases hi : i < l.length
        · rw [List.getElem_append_left hi]; exact hr i hi
        · have : i = k := by simp at h; omega
          subst this
          rw [List.getElem_append_right (by omega)]
          simpa using hr2
    obtain ⟨l, hl, hr⟩ := step len (Nat.le_refl _)
    exact ⟨l, ⟨hl, Or.inr ⟨b, off, rfl, hr⟩⟩, hlc, Nat.le_trans hlc hcm, fun i hi => by rw [hxe]; exact List.mem_append_left _ (List.mem_map.2 ⟨i, List.mem_range.2 (by rw [recCells]; omega), rfl⟩)⟩
/-- What is known of a world's log. -/
structure LogIn (W : World) (a : Option Addr) (len cap : Nat) (l : List Rc) : Prop where
  recs : Recs W a len l
  le : len ≤ cap
  max : len ≤ maxLen
  nil : a = none → cap = 0
  fr : ∀ ad, a = some ad → ∀ i, i < len * 8 → W.frozen? ⟨ad.block, ad.off + i, none⟩ = false
theorem Recs.lt {W : World} {a : Option Addr} {len : Nat} {l : List Rc} (h : Recs W a len l) (hl : 0 < len) : ∀ ad, a = some ad → ad.block < W.heap.size := by
  intro ad e
  obtain ⟨b, off, ha, hk, hr⟩ := h.at hl
  rw [ha] at e
  obtain rfl := Option.some.inj e
  exact cell_lt hr.1
theorem frozen_at {W W' : World} {b : Nat} (h : W'.heap[b]? = W.heap[b]?) (o : Nat) : W'.frozen? ⟨b, o, none⟩ = W.frozen? ⟨b, o, none⟩ := by simp only [World.frozen?, h]
theorem LogIn.ext {W W' : World} {a : Option Addr} {len cap : Nat} {l : List Rc} (h : LogIn W a len cap l) (e : Ext W W') : LogIn W' a len cap l :=
  ⟨h.recs.ext e, h.le, h.max, h.nil, fun ad ha i hi => (frozen_at (e.block _ (h.recs.lt (by omega) ad ha)) _).trans (h.fr ad ha i hi)⟩
theorem logIn_blk {W : World} {b : Nat} {t : TypeId} {l : List Rc} {n : Nat} (h : Blk W b (flat l).toArray t) (hn : l.length = n) (hm : n ≤ maxLen) : LogIn W (some ⟨b, 0, none⟩) n n l :=
  ⟨hn ▸ recs_blk h, Nat.le_refl _, hm, (fun e => by cases e), fun ad e i _ => by obtain rfl := Option.some.inj e; exact h.fr _⟩
set_option maxHeartbeats 1000000 in
theorem open_wd {H : Type} {enc : TypeId × Value → H} {W : World} {base : Nat} {v : Value} {d : DataW H} {ps : List MemPlace} (hval : Value.okWide Tryz.prog W .any base 28 v)
    (hd : DataW.Trod enc Tryz.prog W 0 (fun _ => true) true 28 v d ps) (hz : W.noneFrozen ps) : ∃ p q r a len cap l safe, v = wdVal p q r (.slice a len cap) safe ∧ LogIn W a len cap l := by
  simp only [Value.okWide, Tryz.underlying28] at hval
  obtain ⟨cs, rfl, hs, ts, ht, _, hc⟩ := hval
  rw [typesWorld] at ht
  obtain rfl := Option.some.inj ht
  rw [worldCells] at hs
  obtain ⟨a0, a1, a2, a3, a4, a5, a6, a7, a8, a9, a10, a11, a12, a13, rfl⟩ := size14 hs
  obtain ⟨u0, e0, h0⟩ := hc 0 a0 rfl
  obtain rfl := Option.some.inj e0
  obtain ⟨n0, rfl, _⟩ := cell_int h0
  obtain ⟨u1, e1, h1⟩ := hc 1 a1 rfl
  obtain rfl := Option.some.inj e1
  obtain ⟨n1, rfl, _⟩ := cell_int h1
  obtain ⟨u2, e2, h2⟩ := hc 2 a2 rfl
  obtain rfl := Option.some.inj e2
  obtain ⟨n2, rfl, _⟩ := cell_int h2
  obtain ⟨u3, e3, h3⟩ := hc 3 a3 rfl
  obtain rfl := Option.some.inj e3
  obtain ⟨n3, rfl, _⟩ := cell_int h3
  obtain ⟨u4, e4, h4⟩ := hc 4 a4 rfl
  obtain rfl := Option.some.inj e4
  obtain ⟨n4, rfl, _⟩ := cell_int h4
  obtain ⟨u5, e5, h5⟩ := hc 5 a5 rfl
  obtain rfl := Option.some.inj e5
  obtain ⟨n5, rfl, _⟩ := cell_int h5
  obtain ⟨u6, e6, h6⟩ := hc 6 a6 rfl
  obtain rfl := Option.some.inj e6
  obtain ⟨n6, rfl, _⟩ := cell_int h6
  obtain ⟨u7, e7, h7⟩ := hc 7 a7 rfl
  obtain rfl := Option.some.inj e7
  obtain ⟨n7, rfl, _⟩ := cell_int h7
  obtain ⟨u8, e8, h8⟩ := hc 8 a8 rfl
  obtain rfl := Option.some.inj e8
  obtain ⟨n8, rfl, _⟩ := cell_int h8
  obtain ⟨u9, e9, h9⟩ := hc 9 a9 rfl
  obtain rfl := Option.some.inj e9
  obtain ⟨n9, rfl, _⟩ := cell_int h9
  obtain ⟨u10, e10, h10⟩ := hc 10 a10 rfl
  obtain rfl := Option.some.inj e10
  obtain ⟨n10, rfl, _⟩ := cell_int h10
  obtain ⟨u11, e11, h11⟩ := hc 11 a11 rfl
  obtain rfl := Option.some.inj e11
  obtain ⟨n11, rfl, _⟩ := cell_int h11
  obtain ⟨u13, e13, h13⟩ := hc 13 a13 rfl
  obtain rfl := Option.some.inj e13
  obtain ⟨n13, rfl, _⟩ := cell_int h13
  obtain ⟨u12, e12, h12⟩ := hc 12 a12 rfl
  obtain rfl := Option.some.inj e12
  obtain ⟨fuel, hf⟩ := hd
  obtain ⟨xs, k, _, hxe, _, hxl, hfs⟩ := DataW.trod_struct Tryz.underlying28 hf
  rcases cell_slice h12 with rfl | ⟨b, off, len, cap, rfl⟩
  · exact ⟨⟨n0, n1, n2, n3⟩, ⟨n4, n5, n6, n7⟩, ⟨n8, n9, n10, n11⟩, none, 0, 0, [], n13, rfl, ⟨⟨rfl, Or.inl ⟨rfl, rfl⟩⟩, Nat.le_refl _, Nat.zero_le _, fun _ => rfl, fun ad e => by cases e⟩⟩
  · match xs, hxl with
    | [y0, y1, y2], _ =>
      have g1 : DataW.trod enc Tryz.prog W 0 (fun _ => true) true k 26 [.slice (some ⟨b, off, none⟩) len cap] = some y1 := by have := hfs 1 _ rfl; simpa [rowCells, Value.cells] using this
      obtain ⟨l, h1, h2, h3, h4⟩ := recs_of_trod g1
      refine ⟨⟨n0, n1, n2, n3⟩, ⟨n4, n5, n6, n7⟩, ⟨n8, n9, n10, n11⟩, some ⟨b, off, none⟩, len, cap, l, n13, rfl, ⟨h1, h2, h3, (fun h => by cases h), fun ad e i hi => ?_⟩⟩
      obtain rfl := Option.some.inj e
      refine hz _ _ ?_
      injection hxe with _ hxe
      rw [hxe]
      exact List.mem_flatMap.2 ⟨y1, by simp, h4 i hi⟩
end Go.Proofs.YtbfefocehnafgaaGreat.B
namespace Go.Proofs.YtbfefocehnafgaaGreat.B
set_option maxRecDepth 100000
open Go.ChangeShapes Go.WideShapes Go.ChangeAt Go.RowKit

theorem eqRc_refl (r : Rc) : eqRc r r = true := (eqRc_iff r r).2 rfl
set_option maxHeartbeats 1000000 in
theorem sameLogs_eq (a b : Option Addr) (len cap cap' : Nat) (l : List Rc) (w : World) (h : Recs w a len l) (h' : Recs w b len l) (hl : len ≤ 1000) :
    Calls Tryz.prog 17 #[.slice a len cap, .slice b len cap'] w fun e w' => e = .returned (.bool true) ∧ Ext w w' := by
  go_enter Tryz.func17, Tryz.ntmps17
  go_wp2_with fail
  go_loopw [5] (fun i wr => ∃ k : Nat, k ≤ len ∧ i = .int .i64 k ∧ Ext w wr) (fun i _ => len - (intOf i).toNat)
  case atStart => exact ⟨0, Nat.zero_le _, rfl, Ext.refl w⟩
  case round =>
    obtain ⟨k, hk, rfl, hE⟩ := hrel
    by_cases hlt : k < len
    · obtain ⟨b1, o1, rfl, hkl, c0, c1, c2, c3, c4, c5, c6, c7⟩ := (h.ext hE).at hlt
      obtain ⟨b2, o2, rfl, hkl2, d0, d1, d2, d3, d4, d5, d6, d7⟩ := (h'.ext hE).at hlt
      have e1 := neq_rec l[k] l[k]
      rw [eqRc_refl] at e1
      generalize l[k] = x at *
      go_wp2_with fail
      go_quiet (fail)
      go_wp2_with fail
      go_roundw
      case rel => exact ⟨k + 1, by omega, by go_num, hE.drewN _⟩
      case measure => simp [intOf]; omega
    · go_wp2_with fail
      go_ret
      exact ⟨rfl, hE⟩
theorem eqn_pages (p q r : Pg) : ∀ w, (Op.equalIn 10000 25 (val3 p q r) (val3 p q r)).run Tryz.prog w = .ok true w := fun w => by
  have := eq_pages 9996 w p q r p q r
  rw [eqPg_refl, eqPg_refl, eqPg_refl] at this
  exact this
set_option maxHeartbeats 1000000 in
theorem sameWorlds_eq (p q r : Pg) (safe : Int) (a b : Option Addr) (len cap cap' : Nat) (l : List Rc) (w : World) (h : Recs w a len l) (h' : Recs w b len l) (hl : len ≤ 1000) :
    Calls Tryz.prog 12 #[wdVal p q r (.slice a len cap) safe, wdVal p q r (.slice b len cap') safe] w fun e w' => e = .returned (.bool true) ∧ Ext w w' := by
  have E0 := ((Ext.refl w).alloc (.cells (wdCells p q r (.slice a len cap) safe) 28)).alloc (.cells (wdCells p q r (.slice b len cap') safe) 28)
  have A := ((Blk.new w w.heap.size (wdCells p q r (.slice a len cap) safe) 28 rfl).alloc (.cells (wdCells p q r (.slice b len cap') safe) 28)).cell
  have B := (Blk.new (w.alloc (.cells (wdCells p q r (.slice a len cap) safe) 28)) (w.heap.size + 1) (wdCells p q r (.slice b len cap') safe) 28 (by simp)).cell
  have e1 := eqn_pages p q r
  go_enter Tryz.func12, Tryz.ntmps12
  go_wp2_with fail
  refine (sameLogs_eq a b len cap cap' l _ (h.ext E0) (h'.ext E0) hl).mono ?_
  rintro e w1 ⟨rfl, hw⟩
  go_wp2_with fail
  go_ret
  exact ⟨rfl, E0.trans hw⟩
abbrev zPg : Pg := ⟨0, 0, 0, 0⟩
set_option maxHeartbeats 1000000 in
theorem begin_any (w : World) : Calls Tryz.prog 40 #[] w fun e w' => e = .returned (wdVal zPg zPg zPg (.slice none 0 0) 0) ∧ Ext w w' := by
  have Z := Blk.new w w.heap.size (wdCells zPg zPg zPg (.slice none 0 0) 0) 28 rfl
  have c0 := Z.cell
  have f0 := Z.fr
  have E1 := (Ext.refl w).alloc (.cells (wdCells zPg zPg zPg (.slice none 0 0) 0) 28)
  go_enter Tryz.func40, Tryz.ntmps40
  go_wp2_with fail
  refine bodyPost_ret (v := .agg (wdCells zPg zPg zPg (.slice none 0 0) 0)) (by simp [results, Tryz.results40, go_sem, c0]) rfl ⟨rfl, ?_⟩
  exact E1
set_option maxHeartbeats 2000000 in
theorem lab_any (w : World) : Calls Tryz.prog 39 #[] w fun e w' => ∃ b, e = .returned (wdVal zPg ⟨0, 6, 0, 2⟩ zPg (.slice (some ⟨b, 0, none⟩) 9 9) 6) ∧ Ext w w' ∧ w.heap.size ≤ b ∧ Blk w' b (flat someL).toArray 62 := by
  have Z := Blk.new w w.heap.size (wdCells zPg zPg zPg (.slice none 0 0) 0) 28 rfl
  have E1 := (Ext.refl w).alloc (.cells (wdCells zPg zPg zPg (.slice none 0 0) 0) 28)
  go_enter Tryz.func39, Tryz.ntmps39
  go_wp2_with fail
  refine (some_any _).mono ?_
  rintro e w1 ⟨b, rfl, hw, hb, B⟩
  have Z1 := (Z.ext hw).alloc (.cells (wdCells zPg ⟨0, 6, 0, 2⟩ zPg (.slice (some ⟨b, 0, none⟩) 9 9) 6) 28)
  have E2 := (E1.trans hw).alloc (.cells (wdCells zPg ⟨0, 6, 0, 2⟩ zPg (.slice (some ⟨b, 0, none⟩) 9 9) 6) 28)
  have B1 := B.alloc (.cells (wdCells zPg ⟨0, 6, 0, 2⟩ zPg (.slice (some ⟨b, 0, none⟩) 9 9) 6) 28)
  have hbz : b ≠ w.heap.size := by simp at hb; omega
  have c0 := Z1.cell
  have f0 := Z1.fr
  clear Z
  go_wp2_with fail
  refine bodyPost_ret (v := .agg (wdCells zPg ⟨0, 6, 0, 2⟩ zPg (.slice (some ⟨b, 0, none⟩) 9 9) 6)) (by simp [results, Tryz.results39, go_sem, c0]) rfl ⟨b, rfl, ?_, by simp at hb; omega, ?_⟩
  · exact ((((((((((((((E2.setCell (by simp) _).setCell (by simp) _).setCell (by simp) _).setCell (by simp) _).setCell (by simp) _).setCell (by simp) _).setCell (by simp) _).setCell (by simp) _).setCell (by simp) _).setCell (by simp) _).setCell (by simp) _).setCell (by simp) _).setCell (by simp) _).setCell (by simp) _)
  · exact ((((((((((((((B1.other _ _ hbz).other _ _ hbz).other _ _ hbz).other _ _ hbz).other _ _ hbz).other _ _ hbz).other _ _ hbz).other _ _ hbz).other _ _ hbz).other _ _ hbz).other _ _ hbz).other _ _ hbz).other _ _ hbz).other _ _ hbz)
theorem lab_err : worldErr zPg ⟨0, 6, 0, 2⟩ zPg someL 6 = 0 := by decide +kernel
theorem lab_now : nowOr zPg ⟨0, 6, 0, 2⟩ zPg someL 6 = [8, 0, 0, 9, 0, 6, 0, 2, 0, 0, 0, 0] := by decide +kernel
theorem labX_err : worldErr zPg ⟨1, 6, 0, 2⟩ zPg someL 6 = 1 := by decide +kernel
theorem labY_err : worldErr ⟨8, 0, 0, 9⟩ ⟨0, 6, 0, 2⟩ zPg someL 6 = 1 := by decide +kernel
theorem labZ_err : worldErr zPg ⟨0, 6, 0, 2⟩ zPg someL 10 = 3 := by decide +kernel
theorem begin_err : worldErr zPg zPg zPg [] 0 = 0 := by decide +kernel
theorem recs_none (w : World) : Recs w none 0 [] := ⟨rfl, Or.inl ⟨rfl, rfl⟩⟩
end Go.Proofs.YtbfefocehnafgaaGreat.B
