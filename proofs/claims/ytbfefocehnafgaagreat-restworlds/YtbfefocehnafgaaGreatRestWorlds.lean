/- RestWorlds holds: what came, and was changed, changes nothing that was handed in, nor what comes next. -/
import Derived.Test.YtbfefocehnafgaaGreatRest1
namespace Go.Proofs.YtbfefocehnafgaaGreat.B
set_option maxRecDepth 100000
open Go.ChangeShapes Go.WideShapes Go.ChangeAt Go.RowKit

set_option maxHeartbeats 4000000 in
theorem restWorlds_e (w : World) (p q r : Pg) (a : Option Addr) (len cap : Nat) (l : List Rc) (safe : Int) (h : LogIn w a len cap l) (x : Ac) (hz : worldErr p q r l safe ≠ 0) :
    Calls Tryz.prog 8 #[wdVal p q r (.slice a len cap) safe, x.v] w fun e w' => e = .returned (.bool true) ∧ Ext w w' := by
  have H0 := fun W (e : Ext w W) => worldError_any p q r a len cap l safe W (h.ext e).recs h.le h.max
  generalize worldErr p q r l safe = x0 at *
  have E0 := ((Ext.refl w).alloc (.cells (wdCells p q r (.slice a len cap) safe) 28)).alloc (.cells x.ar 30)
  have B0 := (Blk.new w w.heap.size (wdCells p q r (.slice a len cap) safe) 28 rfl).alloc (.cells x.ar 30)
  have b0 := B0.cell
  have hb : (x0 != 0) = true := by simpa using hz
  clear hz
  go_enter Tryz.func8, Tryz.ntmps8
  go_wp2_with fail
  refine (H0 _ E0).mono ?_
  rintro e w1 ⟨rfl, hw⟩
  have E1 := E0.trans hw
  clear hw b0 B0 E0 H0
  go_wp2_with fail
  refine (actBegun_any _).mono ?_
  rintro e w2 ⟨rfl, hw⟩
  go_wp2_with fail
  go_ret
  exact ⟨by first | rfl | simp, E1.trans hw⟩
set_option maxHeartbeats 16000000 in
theorem restWorlds_ok (w : World) (p q r : Pg) (a : Option Addr) (len cap : Nat) (l : List Rc) (safe : Int) (h : LogIn w a len cap l) (x : Ac) (hz : worldErr p q r l safe = 0) :
    Calls Tryz.prog 8 #[wdVal p q r (.slice a len cap) safe, x.v] w fun e w' => e = .returned (.bool true) ∧ Ext w w' := by
  have hll := h.recs.len
  subst hll
  have H0 := fun W (e : Ext w W) => worldError_any p q r a l.length cap l safe W (h.ext e).recs h.le h.max
  have h60 : l.length ≤ 60 := right_len _ (logErr_zero (worldErr_zero hz).1).2
  have HO := fun W (e : Ext w W) => ownWorld_any p q r a l.length cap l safe W (h.ext e) h60
  have HD := fun W (e : Ext w W) => actDo_any ⟨p, q, r, l, safe⟩ a l.length cap x W (h.ext e)
  have HR := fun W (e : Ext w W) => doOf_any ⟨p, q, r, l, safe⟩ a l.length cap x W (h.ext e)
  have HC := fun W (e : Ext w W) => (crash_any p q r a l.length cap l safe W (h.ext e)).mono fun _ _ z => And.intro z.1 z.2.dw
  have HK := fun W (e : Ext w W) => (crashOf_any p q r a l.length cap l safe W (h.ext e)).mono fun _ _ z => And.intro z.1 z.2.work.dw
  have HL := fun W (e : Ext w W) => losers_fr a l.length cap l W (h.ext e).recs h.max
  have HM := fun W (e : Ext w W) => losersOf_any a l.length cap l W (h.ext e).recs h.le h.max
  have hm60 := doV_len ⟨p, q, r, l, safe⟩ x
  have hc60 := cut_len hz
  have hn9 := losersOr_le l
  rw [hz] at H0 HC HK
  simp only [if_pos] at HC HK
  generalize losersOr l = ns at *
  generalize logErr l = xl at *
  generalize doErr ⟨p, q, r, l, safe⟩ x = x1 at *
  generalize doV ⟨p, q, r, l, safe⟩ x = V at *
  generalize l.take safe.toNat = lt at *
  obtain ⟨p2, q2, r2, m, s2⟩ := V
  unfold DoW at HD HR HC HK
  dsimp only at HD HR HC HK hm60
  clear hz
  have HM60 := (show Hid (m.length ≤ 1000) from by show _ ≤ _; omega)
  have HC60 := (show Hid (lt.length ≤ 1000) from by show _ ≤ _; omega)
  have HN9 := (show Hid (ns.length ≤ 1000) from by show _ ≤ _; omega)
  clear hm60 hc60 hn9
  have E0 := ((Ext.refl w).alloc (.cells (wdCells p q r (.slice a l.length cap) safe) 28)).alloc (.cells x.ar 30)
  have B0 := (Blk.new w w.heap.size (wdCells p q r (.slice a l.length cap) safe) 28 rfl).alloc (.cells x.ar 30)
  have A0 := Blk.new (w.alloc (.cells (wdCells p q r (.slice a l.length cap) safe) 28)) (w.heap.size + 1) x.ar 30 (by simp)
  have b0 := B0.cell
  have a0 := A0.cell
  go_enter Tryz.func8, Tryz.ntmps8
  go_wp2_with fail
  refine (H0 _ E0).mono ?_
  rintro e w1 ⟨rfl, hw⟩
  have E1 := E0.trans hw
  have B1 := B0.ext hw
  have A1 := A0.ext hw
  clear hw b0 B0 A0 a0 E0 H0
  have b1 := B1.cell
  have hA1 := A1.lt
  go_wp2_with fail
  refine (HO _ E1).mono ?_
  rintro e w2 ⟨aw, cw, rfl, hw, hown⟩
  have hown2 := own_lt hown
  have o2 := (Ext.refl w2).alloc (.cells (wdCells p q r (.slice aw l.length cw) safe) 28)
  have S2 := Blk.new w2 w2.heap.size (wdCells p q r (.slice aw l.length cw) safe) 28 rfl
  have LW2 := (own_in2 hown (by omega)).ext o2
  have E2 := (E1.trans hw).trans o2
  have B2 := (B1.ext hw).ext o2
  have A2 := (A1.ext hw).ext o2
  have hs2 : w.heap.size + 1 < w2.heap.size := by have := hw.size; omega
  have haw : Hid (∀ ad, aw = some ad → ad.block < w2.heap.size) := fun ad e => hown2 ad.block (by rw [e]; rfl)
  clear hw o2 b1 B1 A1 E1 HO hown hown2 hA1
  have b2 := B2.cell
  have a2 := A2.cell
  go_wp2_with fail
  refine (HD _ E2).mono ?_
  rintro e w3 ⟨hw, ay, cy, rfl, L, hay⟩
  have o3 := (Ext.refl w3).alloc (.cells (wdCells p2 q2 r2 (.slice ay m.length cy) s2) 28)
  have Y3 := Blk.new w3 w3.heap.size (wdCells p2 q2 r2 (.slice ay m.length cy) s2) 28 rfl
  have hs3 : w2.heap.size < w3.heap.size := by have := hw.size; simp at this; omega
  have ry1 : Hid (∀ k, rowOf ay m.length = some k → w2.heap.size + 1 ≤ k) := fun k e => by have := rowOf_ge hay k e; simpa using this
  have ry2 : Hid (∀ k, rowOf ay m.length = some k → k < w3.heap.size) := rowOf_lt L
  have LY3 := L.ext o3
  have E3 := (E2.trans hw).trans o3
  have B3 := (B2.ext hw).ext o3
  have A3 := (A2.ext hw).ext o3
  have S3 := (S2.ext hw).ext o3
  have LW3 := (LW2.ext hw).ext o3
  clear hw o3 b2 a2 B2 A2 E2 S2 LW2 L hay
  have b3 := B3.cell
  go_wp2_with fail
  refine (HC _ E3).mono ?_
  rintro e w4 ⟨hw, az, cz, rfl, L, haz⟩
  have o4 := (Ext.refl w4).alloc (.cells (wdCells p q r (.slice az lt.length cz) safe) 28)
  have Z4 := Blk.new w4 w4.heap.size (wdCells p q r (.slice az lt.length cz) safe) 28 rfl
  have hs4 : w3.heap.size < w4.heap.size := by have := hw.size; simp at this; omega
  have rz1 : Hid (∀ k, rowOf az lt.length = some k → w3.heap.size + 1 ≤ k) := fun k e => by have := rowOf_ge haz k e; simpa using this
  have rz2 : Hid (∀ k, rowOf az lt.length = some k → k < w4.heap.size) := rowOf_lt L
  have HAZ : Hid (∀ ad, az = some ad → w3.heap.size ≤ ad.block) := fun ad e => by have := haz ad e; simp at this; omega
  have LZ4 := L.ext o4
  have E4 := (E3.trans hw).trans o4
  have B4 := (B3.ext hw).ext o4
  have A4 := (A3.ext hw).ext o4
  have S4 := (S3.ext hw).ext o4
  have Y4 := (Y3.ext hw).ext o4
  have LW4 := (LW3.ext hw).ext o4
  have LY4 := (LY3.ext hw).ext o4
  clear hw o4 b3 B3 A3 E3 S3 LW3 Y3 LY3 L haz
  have b4 := B4.cell
  go_wp2_with fail
  refine (HL _ E4).mono ?_
  rintro e w5 ⟨⟨ai, ci, rfl, hic, hI, hIf⟩, hw⟩
  have hs5 : w4.heap.size < w5.heap.size := by have := hw.size; simp at this; omega
  have ri1 : Hid (∀ k, rowOf ai ns.length = some k → w4.heap.size + 1 ≤ k) := fun k e => by have := ints_row hI k e; simpa using this
  have HIG : Hid (∀ b, ai = some ⟨b, 0, none⟩ → 0 < ns.length → w4.heap.size + 1 ≤ b) := fun b e hl => by have := ints_ge hI b e hl; simpa using this
  have FI5 := ints_free hI hIf
  have E5 := E4.trans hw
  have B5 := B4.ext hw
  have A5 := A4.ext hw
  have S5 := S4.ext hw
  have Y5 := Y4.ext hw
  have Z5 := Z4.ext hw
  have LW5 := LW4.ext hw
  have LY5 := LY4.ext hw
  have LZ5 := LZ4.ext hw
  clear hw b4 B4 A4 E4 S4 LW4 Y4 LY4 Z4 LZ4 hI hIf
  generalize w2.heap.size = n2 at *
  generalize w3.heap.size = n3 at *
  generalize w4.heap.size = n4 at *
  have hfy := LY5.free
  have HRY : ∀ k, k < n2 + 1 ∨ n3 ≤ k → some k ≠ rowOf ay m.length := fun k hk => row_ne ry1.out ry2.out hk
  have HRZ : ∀ k, k < n3 + 1 ∨ n4 ≤ k → some k ≠ rowOf az lt.length := fun k hk => row_ne rz1.out rz2.out hk
  have HRI : ∀ k, k < n4 + 1 → some k ≠ rowOf ai ns.length := fun k hk e => by have := ri1.out k e.symm; omega
  have hge1 : ∀ k, rowOf ay m.length = some k → w.heap.size ≤ k := fun k e => by have := ry1.out k e; omega
  have hge2 : ∀ k, rowOf az lt.length = some k → w.heap.size ≤ k := fun k e => by have := rz1.out k e; omega
  have hge3 : ∀ k, rowOf ai ns.length = some k → w.heap.size ≤ k := fun k e => by have := ri1.out k e; omega
  generalize hry : rowOf ay m.length = ry at *
  generalize hrz : rowOf az lt.length = rz at *
  generalize hri : rowOf ai ns.length = ri at *
  have hry := (show Hid (rowOf ay m.length = ry) from hry)
  have hrz := (show Hid (rowOf az lt.length = rz) from hrz)
  have hri := (show Hid (rowOf ai ns.length = ri) from hri)
  have HRY := (show Hid (∀ k, k < n2 + 1 ∨ n3 ≤ k → some k ≠ ry) from HRY)
  have HRZ := (show Hid (∀ k, k < n3 + 1 ∨ n4 ≤ k → some k ≠ rz) from HRZ)
  have HRI := (show Hid (∀ k, k < n4 + 1 → some k ≠ ri) from HRI)
  have hge1 := (show Hid (∀ k, ry = some k → w.heap.size ≤ k) from hge1)
  have hge2 := (show Hid (∀ k, rz = some k → w.heap.size ≤ k) from hge2)
  have hge3 := (show Hid (∀ k, ri = some k → w.heap.size ≤ k) from hge3)
  go_wp2_with fail
  go_loopw [12] (fun i wr => ∃ k : Nat, k ≤ m.length ∧ i = .int .i64 k ∧ Gr ry w5 wr ∧ FreeA wr ay m.length) (fun i _ => m.length - (intOf i).toNat)
  case atStart => exact ⟨0, Nat.zero_le _, rfl, Gr.refl _ _, hfy⟩
  case round =>
    obtain ⟨k, hk, rfl, G, F⟩ := hrel
    have yc := (Y5.gr G (HRY.out _ (Or.inr (Nat.le_refl _)))).cell
    have hm6 := HM60.out
    by_cases hlt : k < m.length
    · obtain ⟨b, off, rfl, f⟩ := F k hlt
      have hrb : Hid (ry = some b) := hry.out.symm.trans (rowOf_at hlt rfl)
      obtain ⟨u0, c0⟩ := f.cell (off + k * 8) (by omega) (by omega)
      have f0 := f.fr (off + k * 8) (by omega) (by omega)
      obtain ⟨u1, c1⟩ := f.cell (off + k * 8 + 1) (by omega) (by omega)
      have f1 := f.fr (off + k * 8 + 1) (by omega) (by omega)
      obtain ⟨u2, c2⟩ := f.cell (off + k * 8 + 2) (by omega) (by omega)
      have f2 := f.fr (off + k * 8 + 2) (by omega) (by omega)
      obtain ⟨u3, c3⟩ := f.cell (off + k * 8 + 3) (by omega) (by omega)
      have f3 := f.fr (off + k * 8 + 3) (by omega) (by omega)
      obtain ⟨u4, c4⟩ := f.cell (off + k * 8 + 4) (by omega) (by omega)
      have f4 := f.fr (off + k * 8 + 4) (by omega) (by omega)
      obtain ⟨u5, c5⟩ := f.cell (off + k * 8 + 5) (by omega) (by omega)
      have f5 := f.fr (off + k * 8 + 5) (by omega) (by omega)
      obtain ⟨u6, c6⟩ := f.cell (off + k * 8 + 6) (by omega) (by omega)
      have f6 := f.fr (off + k * 8 + 6) (by omega) (by omega)
      obtain ⟨u7, c7⟩ := f.cell (off + k * 8 + 7) (by omega) (by omega)
      have f7 := f.fr (off + k * 8 + 7) (by omega) (by omega)
      go_wp2_with fail
      go_roundw
      case rel => exact ⟨k + 1, by omega, by go_num, ((((((((G.set (p := ⟨b, off + k * 8, none⟩) (Or.inr hrb.out) _).set (p := ⟨b, off + k * 8 + 1, none⟩) (Or.inr hrb.out) _).set (p := ⟨b, off + k * 8 + 2, none⟩) (Or.inr hrb.out) _).set (p := ⟨b, off + k * 8 + 3, none⟩) (Or.inr hrb.out) _).set (p := ⟨b, off + k * 8 + 4, none⟩) (Or.inr hrb.out) _).set (p := ⟨b, off + k * 8 + 5, none⟩) (Or.inr hrb.out) _).set (p := ⟨b, off + k * 8 + 6, none⟩) (Or.inr hrb.out) _).set (p := ⟨b, off + k * 8 + 7, none⟩) (Or.inr hrb.out) _), ((((((((F.set ⟨b, off + k * 8, none⟩ _).set ⟨b, off + k * 8 + 1, none⟩ _).set ⟨b, off + k * 8 + 2, none⟩ _).set ⟨b, off + k * 8 + 3, none⟩ _).set ⟨b, off + k * 8 + 4, none⟩ _).set ⟨b, off + k * 8 + 5, none⟩ _).set ⟨b, off + k * 8 + 6, none⟩ _).set ⟨b, off + k * 8 + 7, none⟩ _)⟩
      case measure => simp [intOf]; omega
    · have E6 := Gr.ext_of E5 G hge1.out
      have B6 := B5.gr G (HRY.out _ (Or.inl (by omega)))
      have A6 := A5.gr G (HRY.out _ (Or.inl (by omega)))
      have S6 := S5.gr G (HRY.out _ (Or.inl (by omega)))
      have Z6 := Z5.gr G (HRY.out _ (Or.inr (by omega)))
      have LW6 := LW5.gr G (fun ad e => HRY.out _ (Or.inl (by have := haw.out ad e; omega)))
      have LZ6 := LZ5.gr G (fun ad e => HRY.out _ (Or.inr (HAZ.out ad e)))
      have FI6 := FI5.gr G (fun b e hl => HRY.out b (Or.inr (by have := HIG.out b e hl; omega)))
      go_wp2_with fail
      clear E5 B5 A5 S5 Y5 Z5 LW5 LY5 LZ5 FI5 hfy yc F G
      have hfz := LZ6.free
      go_loopw [13] (fun i wq => ∃ k : Nat, k ≤ lt.length ∧ i = .int .i64 k ∧ Gr rz wr wq ∧ FreeA wq az lt.length) (fun i _ => lt.length - (intOf i).toNat)
      case atStart => exact ⟨0, Nat.zero_le _, rfl, Gr.refl _ _, hfz⟩
      case round =>
        rename_i w6
        obtain ⟨k2, hk2, rfl, G, F⟩ := hrel
        have zc := (Z6.gr G (HRZ.out _ (Or.inr (Nat.le_refl _)))).cell
        have hm7 := HC60.out
        by_cases hlt2 : k2 < lt.length
        · obtain ⟨b, off, rfl, f⟩ := F k2 hlt2
          have hrb : Hid (rz = some b) := hrz.out.symm.trans (rowOf_at hlt2 rfl)
          obtain ⟨u0, c0⟩ := f.cell (off + k2 * 8) (by omega) (by omega)
          have f0 := f.fr (off + k2 * 8) (by omega) (by omega)
          obtain ⟨u1, c1⟩ := f.cell (off + k2 * 8 + 1) (by omega) (by omega)
          have f1 := f.fr (off + k2 * 8 + 1) (by omega) (by omega)
          obtain ⟨u2, c2⟩ := f.cell (off + k2 * 8 + 2) (by omega) (by omega)
          have f2 := f.fr (off + k2 * 8 + 2) (by omega) (by omega)
          obtain ⟨u3, c3⟩ := f.cell (off + k2 * 8 + 3) (by omega) (by omega)
          have f3 := f.fr (off + k2 * 8 + 3) (by omega) (by omega)
          obtain ⟨u4, c4⟩ := f.cell (off + k2 * 8 + 4) (by omega) (by omega)
          have f4 := f.fr (off + k2 * 8 + 4) (by omega) (by omega)
          obtain ⟨u5, c5⟩ := f.cell (off + k2 * 8 + 5) (by omega) (by omega)
          have f5 := f.fr (off + k2 * 8 + 5) (by omega) (by omega)
          obtain ⟨u6, c6⟩ := f.cell (off + k2 * 8 + 6) (by omega) (by omega)
          have f6 := f.fr (off + k2 * 8 + 6) (by omega) (by omega)
          obtain ⟨u7, c7⟩ := f.cell (off + k2 * 8 + 7) (by omega) (by omega)
          have f7 := f.fr (off + k2 * 8 + 7) (by omega) (by omega)
          go_wp2_with fail
          go_roundw
          case rel => exact ⟨k2 + 1, by omega, by go_num, ((((((((G.set (p := ⟨b, off + k2 * 8, none⟩) (Or.inr hrb.out) _).set (p := ⟨b, off + k2 * 8 + 1, none⟩) (Or.inr hrb.out) _).set (p := ⟨b, off + k2 * 8 + 2, none⟩) (Or.inr hrb.out) _).set (p := ⟨b, off + k2 * 8 + 3, none⟩) (Or.inr hrb.out) _).set (p := ⟨b, off + k2 * 8 + 4, none⟩) (Or.inr hrb.out) _).set (p := ⟨b, off + k2 * 8 + 5, none⟩) (Or.inr hrb.out) _).set (p := ⟨b, off + k2 * 8 + 6, none⟩) (Or.inr hrb.out) _).set (p := ⟨b, off + k2 * 8 + 7, none⟩) (Or.inr hrb.out) _), ((((((((F.set ⟨b, off + k2 * 8, none⟩ _).set ⟨b, off + k2 * 8 + 1, none⟩ _).set ⟨b, off + k2 * 8 + 2, none⟩ _).set ⟨b, off + k2 * 8 + 3, none⟩ _).set ⟨b, off + k2 * 8 + 4, none⟩ _).set ⟨b, off + k2 * 8 + 5, none⟩ _).set ⟨b, off + k2 * 8 + 6, none⟩ _).set ⟨b, off + k2 * 8 + 7, none⟩ _)⟩
          case measure => simp [intOf]; omega
        · have E7 := Gr.ext_of E6 G hge2.out
          have B7 := B6.gr G (HRZ.out _ (Or.inl (by omega)))
          have A7 := A6.gr G (HRZ.out _ (Or.inl (by omega)))
          have S7 := S6.gr G (HRZ.out _ (Or.inl (by omega)))
          have LW7 := LW6.gr G (fun ad e => HRZ.out _ (Or.inl (by have := haw.out ad e; omega)))
          have FI7 := FI6.gr G (fun b e hl => HRZ.out b (Or.inr (by have := HIG.out b e hl; omega)))
          go_wp2_with fail
          clear E6 B6 A6 S6 Z6 LW6 LZ6 FI6 hfz zc F G
          go_loopw [14] (fun i wq => ∃ k : Nat, k ≤ ns.length ∧ i = .int .i64 k ∧ Gr ri wr wq ∧ FreeI wq ai ns.length) (fun i _ => ns.length - (intOf i).toNat)
          case atStart => exact ⟨0, Nat.zero_le _, rfl, Gr.refl _ _, FI7⟩
          case round =>
            obtain ⟨k3, hk3, rfl, G, F⟩ := hrel
            have hm8 := HN9.out
            by_cases hlt3 : k3 < ns.length
            · obtain ⟨b, rfl, f⟩ := F k3 hlt3
              have hrb : Hid (ri = some b) := hri.out.symm.trans (rowOf_at hlt3 rfl)
              obtain ⟨u0, c0⟩ := f.cell k3 (by omega) (by omega)
              have f0 := f.fr k3 (by omega) (by omega)
              go_wp2_with fail
              go_roundw
              case rel => exact ⟨k3 + 1, by omega, by go_num, G.set (p := ⟨b, k3, none⟩) (Or.inr hrb.out) _, F.set ⟨b, k3, none⟩ _⟩
              case measure => simp [intOf]; omega
            · as_aux_lemma =>
              have E8 := Gr.ext_of E7 G hge3.out
              have B8 := B7.gr G (HRI.out _ (by omega))
              have A8 := A7.gr G (HRI.out _ (by omega))
              have S8 := S7.gr G (HRI.out _ (by omega))
              have LW8 := LW7.gr G (fun ad e => HRI.out _ (by have := haw.out ad e; omega))
              clear E7 B7 A7 S7 LW7 FI7 F G
              have b8 := B8.cell
              have a8 := A8.cell
              go_wp2_with fail
              refine (HD _ E8).mono ?_
              rintro e v9 ⟨hw, au, cu, rfl, L, _⟩
              have o9 := (Ext.refl v9).alloc (.cells (wdCells p2 q2 r2 (.slice au m.length cu) s2) 28)
              have U9 := Blk.new v9 v9.heap.size (wdCells p2 q2 r2 (.slice au m.length cu) s2) 28 rfl
              have LU9 := L.ext o9
              have E9 := (E8.trans hw).trans o9
              have B9 := (B8.ext hw).ext o9
              have A9 := (A8.ext hw).ext o9
              have S9 := (S8.ext hw).ext o9
              have LW9 := (LW8.ext hw).ext o9
              clear B8 A8 S8 LW8
              clear hw o9 L E8 b8 a8
              have b9 := B9.cell
              go_wp2_with fail
              refine (HC _ E9).mono ?_
              rintro e v10 ⟨hw, ag, cg, rfl, L, _⟩
              have o10 := (Ext.refl v10).alloc (.cells (wdCells p q r (.slice ag lt.length cg) safe) 28)
              have G10 := Blk.new v10 v10.heap.size (wdCells p q r (.slice ag lt.length cg) safe) 28 rfl
              have LG10 := L.ext o10
              have E10 := (E9.trans hw).trans o10
              have B10 := (B9.ext hw).ext o10
              have A10 := (A9.ext hw).ext o10
              have S10 := (S9.ext hw).ext o10
              have LW10 := (LW9.ext hw).ext o10
              have U10 := (U9.ext hw).ext o10
              have LU10 := (LU9.ext hw).ext o10
              clear B9 A9 S9 LW9 U9 LU9
              clear hw o10 L E9 b9
              have b10 := B10.cell
              go_wp2_with fail
              refine (HL _ E10).mono ?_
              rintro e v11 ⟨⟨am, cm, rfl, _, M11, _⟩, hw⟩
              have E11 := E10.trans hw
              have B11 := (B10.ext hw)
              have A11 := (A10.ext hw)
              have S11 := (S10.ext hw)
              have LW11 := (LW10.ext hw)
              have U11 := (U10.ext hw)
              have LU11 := (LU10.ext hw)
              have G11 := (G10.ext hw)
              have LG11 := (LG10.ext hw)
              clear B10 A10 S10 LW10 U10 LU10 G10 LG10
              clear hw E10 b10
              have b11 := B11.cell
              have a11 := A11.cell
              go_wp2_with fail
              refine (HR _ E11).mono ?_
              rintro e v12 ⟨hw, ao, co, rfl, L, _⟩
              have o12 := (Ext.refl v12).alloc (.cells (wdCells p2 q2 r2 (.slice ao m.length co) s2) 28)
              have W12 := Blk.new v12 v12.heap.size (wdCells p2 q2 r2 (.slice ao m.length co) s2) 28 rfl
              have LO12 := L.ext o12
              have E12 := (E11.trans hw).trans o12
              have B12 := (B11.ext hw).ext o12
              have A12 := (A11.ext hw).ext o12
              have S12 := (S11.ext hw).ext o12
              have LW12 := (LW11.ext hw).ext o12
              have U12 := (U11.ext hw).ext o12
              have LU12 := (LU11.ext hw).ext o12
              have G12 := (G11.ext hw).ext o12
              have LG12 := (LG11.ext hw).ext o12
              have M12 := (M11.ext hw).ext o12
              clear B11 A11 S11 LW11 U11 LU11 G11 LG11 M11
              clear hw o12 L E11 b11 a11
              have b12 := B12.cell
              go_wp2_with fail
              refine (HK _ E12).mono ?_
              rintro e v13 ⟨hw, ak, ck, rfl, L, _⟩
              have o13 := (Ext.refl v13).alloc (.cells (wdCells p q r (.slice ak lt.length ck) safe) 28)
              have K13 := Blk.new v13 v13.heap.size (wdCells p q r (.slice ak lt.length ck) safe) 28 rfl
              have LK13 := L.ext o13
              have E13 := (E12.trans hw).trans o13
              have B13 := (B12.ext hw).ext o13
              have A13 := (A12.ext hw).ext o13
              have S13 := (S12.ext hw).ext o13
              have LW13 := (LW12.ext hw).ext o13
              have U13 := (U12.ext hw).ext o13
              have LU13 := (LU12.ext hw).ext o13
              have G13 := (G12.ext hw).ext o13
              have LG13 := (LG12.ext hw).ext o13
              have M13 := (M12.ext hw).ext o13
              have W13 := (W12.ext hw).ext o13
              have LO13 := (LO12.ext hw).ext o13
              clear B12 A12 S12 LW12 U12 LU12 G12 LG12 M12 W12 LO12
              clear hw o13 L E12 b12
              have b13 := B13.cell
              go_wp2_with fail
              refine (HM _ E13).mono ?_
              rintro e v14 ⟨⟨al, cl, rfl, _, N14⟩, hw⟩
              have E14 := E13.trans hw
              have B14 := (B13.ext hw)
              have A14 := (A13.ext hw)
              have S14 := (S13.ext hw)
              have LW14 := (LW13.ext hw)
              have U14 := (U13.ext hw)
              have LU14 := (LU13.ext hw)
              have G14 := (G13.ext hw)
              have LG14 := (LG13.ext hw)
              have M14 := (M13.ext hw)
              have W14 := (W13.ext hw)
              have LO14 := (LO13.ext hw)
              have K14 := (K13.ext hw)
              have LK14 := (LK13.ext hw)
              clear B13 A13 S13 LW13 U13 LU13 G13 LG13 M13 W13 LO13 K13 LK13
              clear hw E13 b13
              go_wp2_with fail
              refine (actBegun_any _).mono ?_
              rintro e v15 ⟨rfl, hw⟩
              have E15 := E14.trans hw
              have B15 := (B14.ext hw)
              have A15 := (A14.ext hw)
              have S15 := (S14.ext hw)
              have LW15 := (LW14.ext hw)
              have U15 := (U14.ext hw)
              have LU15 := (LU14.ext hw)
              have G15 := (G14.ext hw)
              have LG15 := (LG14.ext hw)
              have M15 := (M14.ext hw)
              have W15 := (W14.ext hw)
              have LO15 := (LO14.ext hw)
              have K15 := (K14.ext hw)
              have LK15 := (LK14.ext hw)
              have N15 := (N14.ext hw)
              clear B14 A14 S14 LW14 U14 LU14 G14 LG14 M14 W14 LO14 K14 LK14 N14
              clear hw E14
              have bc := B15.cell
              have sc := S15.cell
              have uc := U15.cell
              have gc := G15.cell
              have wc := W15.cell
              have kc := K15.cell
              have hb1 : (x1 == x1) = true := by simp
              have hb2 : (xl == xl) = true := by simp
              go_wp2_with fail
              refine (sameWorlds_eq p q r safe a aw l.length cap cw l _ (h.ext E15).recs LW15.recs (by omega)).mono ?_
              rintro e v16 ⟨rfl, hw⟩
              have E16 := E15.trans hw
              have B16 := (B15.ext hw)
              have A16 := (A15.ext hw)
              have S16 := (S15.ext hw)
              have LW16 := (LW15.ext hw)
              have U16 := (U15.ext hw)
              have LU16 := (LU15.ext hw)
              have G16 := (G15.ext hw)
              have LG16 := (LG15.ext hw)
              have M16 := (M15.ext hw)
              have W16 := (W15.ext hw)
              have LO16 := (LO15.ext hw)
              have K16 := (K15.ext hw)
              have LK16 := (LK15.ext hw)
              have N16 := (N15.ext hw)
              clear B15 A15 S15 LW15 U15 LU15 G15 LG15 M15 W15 LO15 K15 LK15 N15
              clear hw E15
              clear bc sc uc gc wc kc
              have uc := U16.cell
              have gc := G16.cell
              have wc := W16.cell
              have kc := K16.cell
              have hm9 := HM60.out
              go_wp2_with fail
              refine (sameWorlds_eq p2 q2 r2 s2 au ao m.length cu co m _ LU16.recs LO16.recs (by omega)).mono ?_
              rintro e v17 ⟨rfl, hw⟩
              have E17 := E16.trans hw
              have B17 := (B16.ext hw)
              have A17 := (A16.ext hw)
              have S17 := (S16.ext hw)
              have LW17 := (LW16.ext hw)
              have U17 := (U16.ext hw)
              have LU17 := (LU16.ext hw)
              have G17 := (G16.ext hw)
              have LG17 := (LG16.ext hw)
              have M17 := (M16.ext hw)
              have W17 := (W16.ext hw)
              have LO17 := (LO16.ext hw)
              have K17 := (K16.ext hw)
              have LK17 := (LK16.ext hw)
              have N17 := (N16.ext hw)
              clear B16 A16 S16 LW16 U16 LU16 G16 LG16 M16 W16 LO16 K16 LK16 N16
              clear hw E16
              clear uc gc wc kc
              have gc := G17.cell
              have kc := K17.cell
              have hm10 := HC60.out
              go_wp2_with fail
              refine (sameWorlds_eq p q r safe ag ak lt.length cg ck lt _ LG17.recs LK17.recs (by omega)).mono ?_
              rintro e v18 ⟨rfl, hw⟩
              have E18 := E17.trans hw
              have B18 := (B17.ext hw)
              have A18 := (A17.ext hw)
              have S18 := (S17.ext hw)
              have LW18 := (LW17.ext hw)
              have U18 := (U17.ext hw)
              have LU18 := (LU17.ext hw)
              have G18 := (G17.ext hw)
              have LG18 := (LG17.ext hw)
              have M18 := (M17.ext hw)
              have W18 := (W17.ext hw)
              have LO18 := (LO17.ext hw)
              have K18 := (K17.ext hw)
              have LK18 := (LK17.ext hw)
              have N18 := (N17.ext hw)
              clear B17 A17 S17 LW17 U17 LU17 G17 LG17 M17 W17 LO17 K17 LK17 N17
              clear hw E17
              clear gc kc
              have hm11 := HN9.out
              go_wp2_with fail
              refine (sameInts_eq _ _ am al cm cl ns _ M18 N18 (by omega)).mono ?_
              rintro e v19 ⟨rfl, hw⟩
              go_wp2_with fail
              go_ret
              exact ⟨by first | rfl | simp, E18.trans hw⟩
theorem restWorlds_go (w : World) (p q r : Pg) (a : Option Addr) (len cap : Nat) (l : List Rc) (safe : Int) (h : LogIn w a len cap l) (x : Ac) :
    Calls Tryz.prog 8 #[wdVal p q r (.slice a len cap) safe, x.v] w fun e w' => e = .returned (.bool true) ∧ Ext w w' := by
  by_cases hz : worldErr p q r l safe = 0
  · exact restWorlds_ok w p q r a len cap l safe h x hz
  · exact restWorlds_e w p q r a len cap l safe h x hz

set_option maxRecDepth 100000 in
theorem restWorlds_lifted (os : Os) (started : os.Started) (H : Type) (enc : TypeId × Value → H) :
    ReturnsInHanded {} Tryz.checked os 8 .any (Rows.restWorldsSpec.pre6 enc Tryz.prog Tryz.f8 Rows.restWorldsRow.domain false) (Rows.restWorldsSpec.post enc Tryz.prog Tryz.f8 false true false false) := by
  refine returnsInHanded_of_change (C := Tryz.checked) own started (by kernel_rfl) Tryz.func8
    (ChangeSpec.witness6 (enc := enc) (C := Tryz.checked) false ⟨#[], #[.agg #[.int .i64 0, .int .i64 0, .int .i64 0, .int .i64 0, .int .i64 0, .int .i64 0, .int .i64 0, .int .i64 0, .int .i64 0, .int .i64 0, .int .i64 0, .int .i64 0, .slice none 0 0, .int .i64 0], .agg #[.int .i64 0, .int .i64 0, .int .i64 0, .int .i64 0, .int .i64 0]], []⟩ 8 (by kernel_rfl) (by kernel_rfl) (by kernel_rfl) (by kernel_rfl)) ?_
  intro W base args ds gs before hval0 hW hcnd _
  have hval : ∀ (j : Nat) t v, Tryz.f8.params[j]? = some t → args[j]? = some v → Value.okWide Tryz.prog W .any base t v := hval0
  have hW' := hW
  obtain ⟨p, q, hA0, hV, rfl, hfz, hnd⟩ := hW
  have hA : DataW.TrodAll enc Tryz.prog W 0 (fun _ => true) true Tryz.f8.params.toList args.toList ds p := hA0
  rw [Tryz.params8] at hA hval
  obtain ⟨v0, vs0, d0, ds0, p0, q0, hargs, rfl, rfl, h0, r0⟩ := trodAll_cons hA
  obtain ⟨v1, vs1, d1, ds1, p1, q1, rfl, rfl, rfl, h1, r1⟩ := trodAll_cons r0
  obtain ⟨rfl, rfl, rfl⟩ := trodAll_nil r1
  obtain rfl : args = #[v0, v1] := by cases args; simp_all
  obtain ⟨rfl, rfl⟩ := trodVars_none hV
  obtain ⟨P0, Q0, R0, x0, len0, cap0, l0, safe0, rfl, s0⟩ := open_wd (hval 0 28 v0 rfl rfl) h0 (fun b o hm => hfz b o (by simp [hm]))
  obtain ⟨a1, rfl⟩ := open_ac (hval 1 30 v1 rfl rfl)
  clear hA0 hval0
  refine (restWorlds_go W P0 Q0 R0 x0 len0 cap0 l0 safe0 s0 a1).mono fun e W' ⟨he, bel⟩ => ?_
  subst he
  exact ⟨_, rfl, _, _, _, [], _, [], hW', trodAll_mk1 (shut_bool Tryz.underlying4 _),
    (trodAll_cons_mk (Below.trod laidOut (by kernel_rfl) (of_decide_eq_true (by kernel_rfl)) h0 bel (lt_of_trod h0))
    (trodAll_cons_mk (Below.trod laidOut (by kernel_rfl) (of_decide_eq_true (by kernel_rfl)) h1 bel (lt_of_trod h1))
    trodAll_mk0)), rfl, bel.frame _, fun h => by cases h⟩

theorem restWorlds_over : Rows.restWorldsRow.holds Tryz.pinned (OpenSpec.ofChange Rows.restWorldsSpec) :=
  OpenClaim.holds_of_wide 8 Tryz.f8 rfl rfl rfl rfl rfl rfl rfl ⟨rfl, rfl, rfl, rfl, rfl⟩ rfl rfl rfl rfl rfl (by kernel_rfl) Tryz.func8 (by kernel_rfl)
    (of_decide_eq_true (by kernel_rfl)) (by unfold Func.isWrapper; first | (rw [if_pos (by decide +kernel)]; kernel_rfl) | (rw [if_neg (by decide +kernel)]; exact ⟨rfl, rfl⟩))
    (fun os started H enc _ => restWorlds_lifted os started H enc)
end Go.Proofs.YtbfefocehnafgaaGreat.B
namespace Go.Proofs.YtbfefocehnafgaaGreat
theorem restWorlds_holds : Rows.RestWorldsSaid := B.restWorlds_over
#print axioms restWorlds_holds
end Go.Proofs.YtbfefocehnafgaaGreat

