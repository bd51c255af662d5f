/- The contracts of chosen, of the office's Do with a job that may turn blocks that lay ahead, and of send. The contract of the office's Do with a job that may turn blocks that lay ahead. The contract of send: a crew does the job on what a crash leaves. The contracts of the jobs that All and Half have a crew do. -/
import Derived.Test.YtibfgbmhmdggmaaGreatDoorCrewA
namespace Go.Proofs.YtibfgbmhmdggmaaGreatDoor.B
set_option maxHeartbeats 32000000
set_option maxRecDepth 100000
open Go.ChangeShapes Go.WideShapes Go.ChangeAt Go.RowKit
def Bools (w : World) (a : Option Addr) (len : Nat) (bs : List Bool) : Prop := bs.length = len ∧ (bs = [] ∨ ∃ b off, a = some ⟨b, off, none⟩ ∧ ∀ i, (h : i < bs.length) → w.cell? ⟨b, off + i, none⟩ = some (.bool bs[i]))
theorem Bools.ext {w w' : World} {a : Option Addr} {len : Nat} {bs : List Bool} (h : Bools w a len bs) (e : Ext w w') : Bools w' a len bs := by
 obtain ⟨h1, h | ⟨b, off, ha, hc⟩⟩ := h
 ·exact ⟨h1, Or.inl h⟩
 ·exact ⟨h1, Or.inr ⟨b, off, ha, fun i hi => e.cell (hc i hi)⟩⟩
theorem Bools.at {w : World} {a : Option Addr} {len : Nat} {bs : List Bool} (h : Bools w a len bs) {k : Nat} (hk : k < bs.length) : ∃ b off, a = some ⟨b, off, none⟩ ∧ w.cell? ⟨b, off + k, none⟩ = some (.bool bs[k]) := by
 obtain ⟨_, h | ⟨b, off, ha, hc⟩⟩ := h
 ·rw [h] at hk; exact absurd hk (Nat.not_lt_zero k)
 ·exact ⟨b, off, ha, hc k hk⟩
theorem drew_heap (W : World) (k : Nat) : W.drew.heap[k]? = W.heap[k]? := rfl
theorem put14_off {n : Nat} {X : List Nat} {a w : World} (h : Off n X a w) (b : Nat) (hb : b ∈ X ∨ n ≤ b) (x0 x1 x2 x3 x4 x5 x6 x7 x8 x9 x10 x11 x12 x13 : Value) : Off n X a (put14 w b x0 x1 x2 x3 x4 x5 x6 x7 x8 x9 x10 x11 x12 x13) := ((((((((((((((h.set (p := ⟨b, 0, none⟩) hb x0).set (p := ⟨b, 1, none⟩) hb x1).set (p := ⟨b, 2, none⟩) hb x2).set (p := ⟨b, 3, none⟩) hb x3).set (p := ⟨b, 4, none⟩) hb x4).set (p := ⟨b, 5, none⟩) hb x5).set (p := ⟨b, 6, none⟩) hb x6).set (p := ⟨b, 7, none⟩) hb x7).set (p := ⟨b, 8, none⟩) hb x8).set (p := ⟨b, 9, none⟩) hb x9).set (p := ⟨b, 10, none⟩) hb x10).set (p := ⟨b, 11, none⟩) hb x11).set (p := ⟨b, 12, none⟩) hb x12).set (p := ⟨b, 13, none⟩) hb x13)
theorem do_off (X : List Nat) (F : Int → World → Prop) (p q r p' q' r' : Pg) (a : Option Addr) (len cap : Nat) (l l' : List Rc) (safe safe' err : Int) (f : FuncId) (caps : Array Value) (w : World) (h : LogIn w a len cap l)
  (hX : ∀ k ∈ X, k < w.heap.size) (hF : ∀ x A B, F x A → (∀ k, k < w.heap.size → B.heap[k]? = A.heap[k]?) → F x B) (hz : worldErr p q r l safe = 0)
  (hen : ∀ v w, (callFunc f (#[v] ++ caps)).run Tryz.prog w = .ok (.enter f (#[v] ++ caps)) w)
  (J : ∀ w' base db pb mt mh tx ho lv, Ext w w' → w.heap.size ≤ base → DeskOk w' base db pb mt mh l tx ho p q r lv safe → Calls Tryz.prog f (#[.pointer (some ⟨db, 0, none⟩)] ++ caps) w' fun e w'' => e = .returned (.int .i64 err) ∧ Off base X w' w'' ∧ F err w'' ∧
   (err = 0 → ∃ tx' ho' lv', DeskOk w'' base db pb mt mh l' tx' ho' p' q' r' lv' safe')) :
  Calls Tryz.prog 97 #[wdVal p q r (.slice a len cap) safe, .func (.func f) #[] caps] w fun e w' => Off w.heap.size X w w' ∧ F err w' ∧ WorkAns w.heap.size w' e p' q' r' err l' safe' := by
 have E0 := ((Ext.refl w).alloc (.cells (wdCells p q r (.slice a len cap) safe) 38)).alloc (.cells (wdCells noPg noPg noPg (.slice none 0 0) 0) 38)
 have Z0 := Blk.new (w.alloc (.cells (wdCells p q r (.slice a len cap) safe) 38)) (w.heap.size + 1) (wdCells noPg noPg noPg (.slice none 0 0) 0) 38 (by simp)
 have H := open_any p q r a len cap l safe ((w.alloc (.cells (wdCells p q r (.slice a len cap) safe) 38)).alloc (.cells (wdCells noPg noPg noPg (.slice none 0 0) 0) 38)) (h.recs.ext E0) h.nil h.max
 rw [hz] at H
 have HX1 : Hid (w.heap.size + 1 ∉ X) := fun hx => by have := hX _ hx; omega
 have HFin : Hid (∀ W, F err W → ∀ W', (∀ k, k < w.heap.size → W'.heap[k]? = W.heap[k]?) → F err W') := fun W hW W' hh => hF err W W' hW hh
 clear hF hX
 go_enter Tryz.func97, Tryz.ntmps97
 go_wp2_with fail
 refine H.mono ?_
 rintro e w1 ⟨v, rfl, hE, ⟨_, db, pb, mt, mh, tx, ho, lv, rfl, hD⟩ | ⟨h0, _⟩⟩
 rotate_left
 ·exact absurd rfl h0
 have E1 := E0.trans hE
 have Z1 := Z0.ext hE
 have J1 := J w1 _ db pb mt mh tx ho lv E1 (by simp; omega) hD
 clear H J
 have hen1 := hen (.pointer (some ⟨db, 0, none⟩))
 go_wp2_with fail
 refine J1.mono ?_
 rintro e w2 ⟨rfl, hoff, hfin, hgo⟩
 clear J1 hen1 hen
 have E2 : Off w.heap.size X w w2 := (Off.of_below E1).trans (hoff.low (by simp; omega))
 have Z2 : Blk w2 (w.heap.size + 1) (wdCells noPg noPg noPg (.slice none 0 0) 0) 38 := Z1.off hoff (by simp) HX1.out
 have c0 := Z2.cell
 have f0 := Z2.fr
 have HF2 := (show Hid (F err w2) from hfin)
 clear hfin
 by_cases h0 : err = 0
 ·have HE0 := (show Hid (err = 0) from h0)
  have hbe : (err != 0) = false := by simpa using h0
  obtain ⟨tx', ho', lv', hD2⟩ := hgo h0
  clear h0
  have h60 := right_len l' hD2.book.right
  obtain ⟨a', cap', rfl, _⟩ := own_in hD2.own h60
  have hown := hD2.own
  have hge := hD2.ge
  have hbz : db ≠ w.heap.size + 1 := by simp at hge; omega
  have D2 := hD2.blk
  clear hgo hoff hD2 hD Z1 Z0 E0 E1 hE h
  go_wp2_with fail
  refine wp_region_held_drew (S := fun w' => ∀ o, w'.cell? ⟨db, o, none⟩ = (dkCells pb p' q' r' (.slice a' l'.length cap') safe')[o]?) (by kernel_rfl) D2.drew.cell (fun hHeld => ?_)
  refine tkn 0 rfl hHeld ?_
  simp only [Act.put]
  refine tkn 1 rfl hHeld ?_
  simp only [Act.put]
  refine tkn 2 rfl hHeld ?_
  simp only [Act.put]
  refine tkn 3 rfl hHeld ?_
  simp only [Act.put]
  refine tkn 4 rfl hHeld ?_
  simp only [Act.put]
  refine tkn 5 rfl hHeld ?_
  simp only [Act.put]
  refine tkn 6 rfl hHeld ?_
  simp only [Act.put]
  refine tkn 7 rfl hHeld ?_
  simp only [Act.put]
  refine tkn 8 rfl hHeld ?_
  simp only [Act.put]
  refine tkn 9 rfl hHeld ?_
  simp only [Act.put]
  refine tkn 10 rfl hHeld ?_
  simp only [Act.put]
  refine tkn 11 rfl hHeld ?_
  simp only [Act.put]
  refine tkn 12 rfl hHeld ?_
  simp only [Act.put]
  refine exn 13 rfl fun K hK => ?_
  go_simp
  have D3 := put14_other D2 (w.heap.size + 1) hbz (.int .i64 p'.c0) (.int .i64 p'.c1) (.int .i64 p'.c2) (.int .i64 p'.last) (.int .i64 q'.c0) (.int .i64 q'.c1) (.int .i64 q'.c2) (.int .i64 q'.last) (.int .i64 r'.c0) (.int .i64 r'.c1) (.int .i64 r'.c2) (.int .i64 r'.last) (.slice a' l'.length cap') (.int .i64 safe')
  have Z3 := put14_blk Z2 (.int .i64 p'.c0) (.int .i64 p'.c1) (.int .i64 p'.c2) (.int .i64 p'.last) (.int .i64 q'.c0) (.int .i64 q'.c1) (.int .i64 q'.c2) (.int .i64 q'.last) (.int .i64 r'.c0) (.int .i64 r'.c1) (.int .i64 r'.c2) (.int .i64 r'.last) (.slice a' l'.length cap') (.int .i64 safe')
  have G3 := put14_gr w2 (w.heap.size + 1) (.int .i64 p'.c0) (.int .i64 p'.c1) (.int .i64 p'.c2) (.int .i64 p'.last) (.int .i64 q'.c0) (.int .i64 q'.c1) (.int .i64 q'.c2) (.int .i64 q'.last) (.int .i64 r'.c0) (.int .i64 r'.c1) (.int .i64 r'.c2) (.int .i64 r'.last) (.slice a' l'.length cap') (.int .i64 safe')
  have E3 := put14_off E2 (w.heap.size + 1) (Or.inr (by omega)) (.int .i64 p'.c0) (.int .i64 p'.c1) (.int .i64 p'.c2) (.int .i64 p'.last) (.int .i64 q'.c0) (.int .i64 q'.c1) (.int .i64 q'.c2) (.int .i64 q'.last) (.int .i64 r'.c0) (.int .i64 r'.c1) (.int .i64 r'.c2) (.int .i64 r'.last) (.slice a' l'.length cap') (.int .i64 safe')
  have hown3 := own_gr hown G3 (fun k hk e => by injection e with e; have := own_from hown k hk; simp at this; omega)
  have HIn := (show Hid _ from own_in2 hown3 h60)
  have hsame : ∀ k, k < w.heap.size → (put14 w2 (w.heap.size + 1) (.int .i64 p'.c0) (.int .i64 p'.c1) (.int .i64 p'.c2) (.int .i64 p'.last) (.int .i64 q'.c0) (.int .i64 q'.c1) (.int .i64 q'.c2) (.int .i64 q'.last) (.int .i64 r'.c0) (.int .i64 r'.c1) (.int .i64 r'.c2) (.int .i64 r'.last) (.slice a' l'.length cap') (.int .i64 safe')).heap[k]? = w2.heap[k]? := fun k hk => G3.block k (Nat.lt_of_lt_of_le hk E2.size) (fun e => by injection e with e; omega)
  have HF3 : Hid (F err (put14 w2 (w.heap.size + 1) (.int .i64 p'.c0) (.int .i64 p'.c1) (.int .i64 p'.c2) (.int .i64 p'.last) (.int .i64 q'.c0) (.int .i64 q'.c1) (.int .i64 q'.c2) (.int .i64 q'.last) (.int .i64 r'.c0) (.int .i64 r'.c1) (.int .i64 r'.c2) (.int .i64 r'.last) (.slice a' l'.length cap') (.int .i64 safe'))) := HFin.out w2 HF2.out _ hsame
  have HF4 : Hid (F err (put14 w2 (w.heap.size + 1) (.int .i64 p'.c0) (.int .i64 p'.c1) (.int .i64 p'.c2) (.int .i64 p'.last) (.int .i64 q'.c0) (.int .i64 q'.c1) (.int .i64 q'.c2) (.int .i64 q'.last) (.int .i64 r'.c0) (.int .i64 r'.c1) (.int .i64 r'.c2) (.int .i64 r'.last) (.slice a' l'.length cap') (.int .i64 safe')).drew) := HFin.out _ HF3.out _ (fun k _ => drew_heap _ k)
  clear hsame G3
  refine hK.out _ _ D3.drew.cell (fun hHeld => ?_)
  clear hK K c0 f0
  refine exn 14 rfl fun K hK => ?_
  go_simp
  refine hK.out _ _ D3.drew.cell (fun hHeld => ?_)
  clear hK K hHeld
  refine wpAnyH_done (by kernel_rfl) ?_ _
  have z3 := Z3.drew.cell
  go_wp2_with fail
  refine bodyPost_ret (v := .tuple #[.agg (wdCells p' q' r' (.slice a' l'.length cap') safe'), .int .i64 0]) (by simp [results, Tryz.results97, go_sem, z3]) rfl ⟨?_, ?_, Or.inl ⟨HE0.out, a', cap', rfl, ?_, ?_⟩⟩
  ·exact E3.drew
  ·exact HF4.out
  ·exact HIn.out.ext (Ext.refl _).drew
  ·rintro ad rfl
   have := own_from hown ad.block rfl
   simp at this
   omega
 ·have hb : (err != 0) = true := by simpa using h0
  have HN := (show Hid (err ≠ 0) from h0)
  have G3 := put14_gr w2 (w.heap.size + 1) (.int .i64 0) (.int .i64 0) (.int .i64 0) (.int .i64 0) (.int .i64 0) (.int .i64 0) (.int .i64 0) (.int .i64 0) (.int .i64 0) (.int .i64 0) (.int .i64 0) (.int .i64 0) (.slice none 0 0) (.int .i64 0)
  have E3 := put14_off E2 (w.heap.size + 1) (Or.inr (by omega)) (.int .i64 0) (.int .i64 0) (.int .i64 0) (.int .i64 0) (.int .i64 0) (.int .i64 0) (.int .i64 0) (.int .i64 0) (.int .i64 0) (.int .i64 0) (.int .i64 0) (.int .i64 0) (.slice none 0 0) (.int .i64 0)
  have hsame : ∀ k, k < w.heap.size → (put14 w2 (w.heap.size + 1) (.int .i64 0) (.int .i64 0) (.int .i64 0) (.int .i64 0) (.int .i64 0) (.int .i64 0) (.int .i64 0) (.int .i64 0) (.int .i64 0) (.int .i64 0) (.int .i64 0) (.int .i64 0) (.slice none 0 0) (.int .i64 0)).heap[k]? = w2.heap[k]? := fun k hk => G3.block k (Nat.lt_of_lt_of_le hk E2.size) (fun e => by injection e with e; omega)
  have HF3 : Hid (F err (put14 w2 (w.heap.size + 1) (.int .i64 0) (.int .i64 0) (.int .i64 0) (.int .i64 0) (.int .i64 0) (.int .i64 0) (.int .i64 0) (.int .i64 0) (.int .i64 0) (.int .i64 0) (.int .i64 0) (.int .i64 0) (.slice none 0 0) (.int .i64 0))) := HFin.out w2 HF2.out _ hsame
  clear hsame h0 hgo hoff hD Z1 Z0 E0 E1 hE h G3
  go_wp2_with fail
  refine bodyPost_ret (v := .tuple #[.agg (wdCells noPg noPg noPg (.slice none 0 0) 0), .int .i64 err]) (by simp [results, Tryz.results97, go_sem, c0]) rfl ⟨?_, ?_, Or.inr ⟨HN.out, rfl⟩⟩
  ·exact E3
  ·exact HF3.out
theorem send1_any {base db pb mt mh : Nat} {l : List Rc} {tx : List TxE} {ho : List HE} {p q r : Pg} {lv : Value} {safe : Int} (X : List Nat) (F : Int → World → Prop) (G : World → Prop) (err : Int) (f : FuncId) (caps : Array Value) (bj : Nat) (w : World)
  (h : DeskOk w base db pb mt mh l tx ho p q r lv safe) (Bj : Blk w bj #[.func (.func f) #[] caps] 141)
  (hen : ∀ v w, (callFunc f (#[v] ++ caps)).run Tryz.prog w = .ok (.enter f (#[v] ++ caps)) w)
  (J : ∀ w' cb, Ext w w' → w.heap.size ≤ cb → Blk w' cb #[.pointer (some ⟨db, 0, none⟩)] 167 → DeskOk w' base db pb mt mh l tx ho p q r lv safe → Calls Tryz.prog f (#[.pointer (some ⟨cb, 0, none⟩)] ++ caps) w' fun e w'' => e = .returned (.int .i64 err) ∧ Off base X w' w'' ∧ F err w'' ∧ (err = 0 → G w'')) :
  Calls Tryz.prog 135 #[.pointer (some ⟨db, 0, none⟩), .pointer (some ⟨bj, 0, none⟩)] w fun e w'' => e = .returned (.int .i64 err) ∧ Off base X w w'' ∧ F err w'' ∧ (err = 0 → G w'') := by
 have hbase : base ≤ w.heap.size := Nat.le_trans h.ge (Nat.le_of_lt h.blk.lt)
 have E0 := (Ext.refl w).alloc (.cells #[.pointer (some ⟨db, 0, none⟩)] 167)
 have C := Blk.new w w.heap.size #[.pointer (some ⟨db, 0, none⟩)] 167 rfl
 have J1 := J _ w.heap.size E0 (Nat.le_refl _) C (h.ext E0)
 have O0 : Off base X w (w.alloc (.cells #[.pointer (some ⟨db, 0, none⟩)] 167)) := (Off.refl base X w).alloc hbase _
 have HO := (show Hid (Off base X w (w.alloc (.cells #[.pointer (some ⟨db, 0, none⟩)] 167))) from O0)
 have hen1 := hen (.pointer (some ⟨w.heap.size, 0, none⟩))
 have bj0 := Bj.cell
 clear J O0 E0 C
 go_enter Tryz.func135, Tryz.ntmps135
 go_wp2_with fail
 refine J1.mono ?_
 rintro e w2 ⟨rfl, h1, h2, h3⟩
 go_wp2_with fail
 go_ret
 exact ⟨rfl, HO.out.trans h1, h2, h3⟩
theorem send_any (X : List Nat) (F : Int → World → Prop) (p q r p' q' r' : Pg) (a : Option Addr) (len cap : Nat) (l l' : List Rc) (safe safe' err : Int) (f : FuncId) (caps : Array Value) (w : World) (h : LogIn w a len cap l)
  (hX : ∀ k ∈ X, k < w.heap.size) (hF : ∀ x A B, F x A → (∀ k, k < w.heap.size → B.heap[k]? = A.heap[k]?) → F x B) (hF0 : worldErr p q r l safe ≠ 0 → F (worldErr p q r l safe) w)
  (hen : ∀ v w, (callFunc f (#[v] ++ caps)).run Tryz.prog w = .ok (.enter f (#[v] ++ caps)) w)
  (J : worldErr p q r l safe = 0 → ∀ w' base db pb mt mh tx ho lv cb, Ext w w' → w.heap.size ≤ base → Blk w' cb #[.pointer (some ⟨db, 0, none⟩)] 167 → DeskOk w' base db pb mt mh (l.take safe.toNat) tx ho p q r lv safe → Calls Tryz.prog f (#[.pointer (some ⟨cb, 0, none⟩)] ++ caps) w' fun e w'' => e = .returned (.int .i64 err) ∧ Off base X w' w'' ∧ F err w'' ∧
   (err = 0 → ∃ tx' ho' lv', DeskOk w'' base db pb mt mh l' tx' ho' p' q' r' lv' safe')) :
  Calls Tryz.prog 109 #[wdVal p q r (.slice a len cap) safe, .func (.func f) #[] caps] w fun e w' => Off w.heap.size X w w' ∧ F (errOf (worldErr p q r l safe) err) w' ∧ WorkAns w.heap.size w' e p' q' r' (errOf (worldErr p q r l safe) err) l' safe' := by
 have E0 := ((((Ext.refl w).alloc (.cells (wdCells p q r (.slice a len cap) safe) 38)).alloc (.cells #[.func (.func f) #[] caps] 141)).alloc (.cells (wdCells noPg noPg noPg (.slice none 0 0) 0) 38))
 have B0 := (((Blk.new w w.heap.size (wdCells p q r (.slice a len cap) safe) 38 rfl).alloc (.cells #[.func (.func f) #[] caps] 141)).alloc (.cells (wdCells noPg noPg noPg (.slice none 0 0) 0) 38))
 have F0 := (Blk.new (w.alloc (.cells (wdCells p q r (.slice a len cap) safe) 38)) (w.heap.size + 1) #[.func (.func f) #[] caps] 141 (by simp)).alloc (.cells (wdCells noPg noPg noPg (.slice none 0 0) 0) 38)
 have Z0 := Blk.new ((w.alloc (.cells (wdCells p q r (.slice a len cap) safe) 38)).alloc (.cells #[.func (.func f) #[] caps] 141)) (w.heap.size + 1 + 1) (wdCells noPg noPg noPg (.slice none 0 0) 0) 38 (by simp)
 have H := crash_any p q r a len cap l safe _ (h.ext E0)
 have X0 : Hid (worldErr p q r l safe = 0 → errOf (worldErr p q r l safe) err = err ∧ worldErr p q r (l.take safe.toNat) safe = 0) := fun h0 => ⟨by unfold errOf; rw [if_pos h0], (world_cut h0).1⟩
 have X1 : Hid (worldErr p q r l safe ≠ 0 → errOf (worldErr p q r l safe) err = worldErr p q r l safe) := fun h0 => by unfold errOf; rw [if_neg h0]
 generalize errOf (worldErr p q r l safe) err = xx at *
 generalize worldErr p q r l safe = we at *
 generalize l.take safe.toNat = c at *
 have b0 := B0.cell
 go_enter Tryz.func109, Tryz.ntmps109
 go_wp2_with fail
 refine H.mono ?_
 rintro e w1 ⟨hw, ⟨h0, a1, cap1, rfl, hin, _⟩ | ⟨h0, rfl⟩⟩
 ·subst h0
  obtain ⟨hxx, hz⟩ := X0.out rfl
  subst hxx
  have o1 := hw.alloc (.cells (wdCells p q r (.slice a1 c.length cap1) safe) 38)
  have E1 := E0.trans o1
  have F1 := F0.ext o1
  have Z1 := Z0.ext o1
  have L1 := hin.ext ((Ext.refl w1).alloc (.cells (wdCells p q r (.slice a1 c.length cap1) safe) 38))
  have hs1 : w.heap.size + 1 + 1 < w1.heap.size := (Z0.ext hw).lt
  have HX2 : Hid (w.heap.size + 1 + 1 ∉ X) := fun hx => by have := hX _ hx; omega
  have HDo := do_off X F p q r p' q' r' a1 c.length cap1 c l' safe safe' xx 135 #[.pointer (some ⟨w.heap.size + 1, 0, none⟩)] _ L1 (fun k hk => Nat.lt_of_lt_of_le (hX k hk) E1.size) (fun x A B hA hh => hF x A B hA (fun k hk => hh k (Nat.lt_of_lt_of_le hk E1.size))) hz (fun v w => callFunc_enter _ w Tryz.func135 (by kernel_rfl) (by kernel_rfl))
   (fun w' base db pb mt mh tx ho lv e hb hD => send1_any X F (fun w'' => ∃ tx' ho' lv', DeskOk w'' base db pb mt mh l' tx' ho' p' q' r' lv' safe') xx f caps (w.heap.size + 1) w' hD (F1.ext e) hen
    (fun w'' cb e2 hcb hC hD2 => J rfl w'' base db pb mt mh tx ho lv cb ((E1.trans e).trans e2) (Nat.le_trans E1.size hb) hC hD2))
  clear H X0 X1 hen J hX hF0 F0 Z0 hw o1 E0 B0 b0 h hin F1
  have HFk : Hid (∀ A B, F xx A → (∀ k, k < w.heap.size → B.heap[k]? = A.heap[k]?) → F xx B) := fun A B => hF xx A B
  clear hF
  go_wp2_with fail
  refine HDo.mono ?_
  rintro e w3 ⟨hoff, hfin, ⟨h0, a', cap', rfl, hin3, hfrom⟩ | ⟨h0, rfl⟩⟩
  ·have Z3 : Blk w3 (w.heap.size + 1 + 1) (wdCells noPg noPg noPg (.slice none 0 0) 0) 38 := Z1.off hoff (by simp; omega) HX2.out
   have O3 : Off w.heap.size X w w3 := (Off.of_below E1).trans (hoff.low E1.size)
   have G4 := put14_gr w3 (w.heap.size + 1 + 1) (.int .i64 p'.c0) (.int .i64 p'.c1) (.int .i64 p'.c2) (.int .i64 p'.last) (.int .i64 q'.c0) (.int .i64 q'.c1) (.int .i64 q'.c2) (.int .i64 q'.last) (.int .i64 r'.c0) (.int .i64 r'.c1) (.int .i64 r'.c2) (.int .i64 r'.last) (.slice a' l'.length cap') (.int .i64 safe')
   have hsame : ∀ k, k < w.heap.size → (put14 w3 (w.heap.size + 1 + 1) (.int .i64 p'.c0) (.int .i64 p'.c1) (.int .i64 p'.c2) (.int .i64 p'.last) (.int .i64 q'.c0) (.int .i64 q'.c1) (.int .i64 q'.c2) (.int .i64 q'.last) (.int .i64 r'.c0) (.int .i64 r'.c1) (.int .i64 r'.c2) (.int .i64 r'.last) (.slice a' l'.length cap') (.int .i64 safe')).heap[k]? = w3.heap[k]? := fun k hk => G4.block k (Nat.lt_of_lt_of_le hk O3.size) (fun e => by injection e with e; omega)
   have HF4 : Hid (F xx (put14 w3 (w.heap.size + 1 + 1) (.int .i64 p'.c0) (.int .i64 p'.c1) (.int .i64 p'.c2) (.int .i64 p'.last) (.int .i64 q'.c0) (.int .i64 q'.c1) (.int .i64 q'.c2) (.int .i64 q'.last) (.int .i64 r'.c0) (.int .i64 r'.c1) (.int .i64 r'.c2) (.int .i64 r'.last) (.slice a' l'.length cap') (.int .i64 safe'))) := HFk.out w3 _ hfin hsame
   have O4 := put14_off O3 (w.heap.size + 1 + 1) (Or.inr (by omega)) (.int .i64 p'.c0) (.int .i64 p'.c1) (.int .i64 p'.c2) (.int .i64 p'.last) (.int .i64 q'.c0) (.int .i64 q'.c1) (.int .i64 q'.c2) (.int .i64 q'.last) (.int .i64 r'.c0) (.int .i64 r'.c1) (.int .i64 r'.c2) (.int .i64 r'.last) (.slice a' l'.length cap') (.int .i64 safe')
   have HIn : Hid (LogIn (put14 w3 (w.heap.size + 1 + 1) (.int .i64 p'.c0) (.int .i64 p'.c1) (.int .i64 p'.c2) (.int .i64 p'.last) (.int .i64 q'.c0) (.int .i64 q'.c1) (.int .i64 q'.c2) (.int .i64 q'.last) (.int .i64 r'.c0) (.int .i64 r'.c1) (.int .i64 r'.c2) (.int .i64 r'.last) (.slice a' l'.length cap') (.int .i64 safe')) a' l'.length cap' l') := hin3.gr G4 (fun ad e e2 => by injection e2 with e2; have := hfrom ad e; simp at this; omega)
   have HFr : Hid (∀ ad, a' = some ad → w.heap.size ≤ ad.block) := fun ad e => by have := hfrom ad e; simp at this; omega
   have HX := (show Hid (xx = 0) from h0)
   have z := Z3.cell
   have f := Z3.fr
   clear HDo hoff hfin hin3 hfrom h0 hsame G4 O3 Z3 Z1 E1 L1
   go_wp2_with fail
   refine bodyPost_ret (v := .tuple #[.agg (wdCells p' q' r' (.slice a' l'.length cap') safe'), .int .i64 0]) (by simp [results, Tryz.results109, go_sem, z]) rfl ⟨?_, ?_, Or.inl ⟨HX.out, a', cap', rfl, ?_, HFr.out⟩⟩
   ·exact O4
   ·exact HF4.out
   ·exact HIn.out
  ·have Z3 : Blk w3 (w.heap.size + 1 + 1) (wdCells noPg noPg noPg (.slice none 0 0) 0) 38 := Z1.off hoff (by simp; omega) HX2.out
   have O3 : Off w.heap.size X w w3 := (Off.of_below E1).trans (hoff.low E1.size)
   have G4 := put14_gr w3 (w.heap.size + 1 + 1) (.int .i64 0) (.int .i64 0) (.int .i64 0) (.int .i64 0) (.int .i64 0) (.int .i64 0) (.int .i64 0) (.int .i64 0) (.int .i64 0) (.int .i64 0) (.int .i64 0) (.int .i64 0) (.slice none 0 0) (.int .i64 0)
   have hsame : ∀ k, k < w.heap.size → (put14 w3 (w.heap.size + 1 + 1) (.int .i64 0) (.int .i64 0) (.int .i64 0) (.int .i64 0) (.int .i64 0) (.int .i64 0) (.int .i64 0) (.int .i64 0) (.int .i64 0) (.int .i64 0) (.int .i64 0) (.int .i64 0) (.slice none 0 0) (.int .i64 0)).heap[k]? = w3.heap[k]? := fun k hk => G4.block k (Nat.lt_of_lt_of_le hk O3.size) (fun e => by injection e with e; omega)
   have HF4 : Hid (F xx (put14 w3 (w.heap.size + 1 + 1) (.int .i64 0) (.int .i64 0) (.int .i64 0) (.int .i64 0) (.int .i64 0) (.int .i64 0) (.int .i64 0) (.int .i64 0) (.int .i64 0) (.int .i64 0) (.int .i64 0) (.int .i64 0) (.slice none 0 0) (.int .i64 0))) := HFk.out w3 _ hfin hsame
   have O4 := put14_off O3 (w.heap.size + 1 + 1) (Or.inr (by omega)) (.int .i64 0) (.int .i64 0) (.int .i64 0) (.int .i64 0) (.int .i64 0) (.int .i64 0) (.int .i64 0) (.int .i64 0) (.int .i64 0) (.int .i64 0) (.int .i64 0) (.int .i64 0) (.slice none 0 0) (.int .i64 0)
   have HX := (show Hid (xx ≠ 0) from h0)
   have z := Z3.cell
   have f := Z3.fr
   clear HDo hoff hfin h0 hsame G4 O3 Z3 Z1 E1 L1
   go_wp2_with fail
   refine bodyPost_ret (v := .tuple #[.agg (wdCells noPg noPg noPg (.slice none 0 0) 0), .int .i64 xx]) (by simp [results, Tryz.results109, go_sem, z]) rfl ⟨?_, ?_, Or.inr ⟨HX.out, rfl⟩⟩
   ·exact O4
   ·exact HF4.out
 ·have hb : (we != 0) = true := by simpa using h0
  have hxx := X1.out h0
  subst hxx
  have HF9 : Hid (∀ B, Ext w B → F xx B) := fun B hB => hF xx w B (hF0 h0) (fun k hk => hB.block k hk)
  have E1 := E0.trans hw
  have Z1 := Z0.ext hw
  have z := Z1.cell
  have f := Z1.fr
  have E4 := (put14_ext E1 (w.heap.size + 1 + 1) (by omega) (.int .i64 0) (.int .i64 0) (.int .i64 0) (.int .i64 0) (.int .i64 0) (.int .i64 0) (.int .i64 0) (.int .i64 0) (.int .i64 0) (.int .i64 0) (.int .i64 0) (.int .i64 0) (.slice none 0 0) (.int .i64 0)).alloc (.cells (wdCells noPg noPg noPg (.slice none 0 0) 0) 38)
  have z4 := ((put14_blk Z1 (.int .i64 0) (.int .i64 0) (.int .i64 0) (.int .i64 0) (.int .i64 0) (.int .i64 0) (.int .i64 0) (.int .i64 0) (.int .i64 0) (.int .i64 0) (.int .i64 0) (.int .i64 0) (.slice none 0 0) (.int .i64 0)).alloc (.cells (wdCells noPg noPg noPg (.slice none 0 0) 0) 38)).cell
  have HX := (show Hid (xx ≠ 0) from h0)
  have hs1 : w.heap.size + 1 + 1 < w1.heap.size := Z1.lt
  clear H X0 X1 hen J hX hF hF0 F0 Z0 E0 B0 b0 h hw h0 Z1 E1
  go_wp2_with fail
  refine bodyPost_ret (v := .tuple #[.agg (wdCells noPg noPg noPg (.slice none 0 0) 0), .int .i64 xx]) (by simp [results, Tryz.results109, go_sem, z4]) rfl ⟨?_, ?_, Or.inr ⟨HX.out, rfl⟩⟩
  ·exact Off.of_below E4
  ·exact HF9.out _ E4
theorem DeskOk.mineGe {w : World} {base db pb mt mh : Nat} {l : List Rc} {tx : List TxE} {ho : List HE} {p q r : Pg} {lv : Value} {safe : Int} (h : DeskOk w base db pb mt mh l tx ho p q r lv safe) {k : Nat} (hk : Mine db pb mt mh tx lv k) : base ≤ k := by
 rcases hk with rfl | rfl | rfl | rfl | ⟨t, ht, hk⟩ | hk
 ·exact h.ge
 ·exact h.book.ge.1
 ·exact h.book.ge.2.1
 ·exact h.book.ge.2.2
 ·exact own_from (h.book.own t ht) k hk
 ·exact own_from h.own k hk
theorem DeskOk.gr {row : Option Nat} {w w' : World} {base db pb mt mh : Nat} {l : List Rc} {tx : List TxE} {ho : List HE} {p q r : Pg} {lv : Value} {safe : Int} (h : DeskOk w base db pb mt mh l tx ho p q r lv safe) (g : Gr row w w') (hn : ∀ k, Mine db pb mt mh tx lv k → some k ≠ row) : DeskOk w' base db pb mt mh l tx ho p q r lv safe :=
 ⟨h.blk.gr g (hn _ (Or.inl rfl)), h.book.gr g (hn _ (Or.inr (Or.inl rfl))) (hn _ (Or.inr (Or.inr (Or.inl rfl)))) (hn _ (Or.inr (Or.inr (Or.inr (Or.inl rfl))))) (fun t ht _ hk => hn _ (Or.inr (Or.inr (Or.inr (Or.inr (Or.inl ⟨t, ht, hk⟩)))))), own_gr h.own g (fun _ hk => hn _ (Or.inr (Or.inr (Or.inr (Or.inr (Or.inr hk)))))), h.ge, h.free⟩
def allNum (l : List Rc) : Nat := if mendErr l = 0 then needR l else 0
theorem all_half {l : List Rc} (hR : Right l) : halfErr (9223372036854775807 : Int).toNat l = mendErr l ∧ halfNum (9223372036854775807 : Int).toNat l = allNum l ∧ (mendErr l = 0 → mendN (9223372036854775807 : Int).toNat l = mendR l) := by
 have hn := needR_le l hR
 have hN : (9223372036854775807 : Int).toNat = 9223372036854775807 := rfl
 have hmin : min 9223372036854775807 (needR l) = needR l := by omega
 rw [hN]
 unfold halfErr halfNum allNum mendErr
 rw [hmin]
 by_cases h : 60 < l.length + needR l
 ·rw [if_pos h, if_pos h, if_neg (by decide)]
  exact ⟨rfl, rfl, fun e => by cases e⟩
 ·rw [if_neg h, if_neg h, if_pos rfl]
  refine ⟨rfl, rfl, fun _ => ?_⟩
  rw [mendN_min _ l hR (by omega), hmin]
  rfl
theorem all1_any {base db pb mt mh : Nat} {l : List Rc} {tx : List TxE} {ho : List HE} {p q s : Pg} {lv : Value} {safe : Int} (cb bp : Nat) (w : World) (h : DeskOk w base db pb mt mh l tx ho p q s lv safe) (C : Blk w cb #[.pointer (some ⟨db, 0, none⟩)] 167) (B : Blk w bp #[.int .i64 0] 3) (hbp : bp < base) (hs : safe ≤ (l.length : Nat)) :
  Calls Tryz.prog 110 #[.pointer (some ⟨cb, 0, none⟩), .pointer (some ⟨bp, 0, none⟩)] w fun e w' => e = .returned (.int .i64 (mendErr l)) ∧ Off base [bp] w w' ∧ Blk w' bp #[.int .i64 (allNum l : Nat)] 3 ∧
   (mendErr l = 0 → ∃ tx' ho' lv', DeskOk w' base db pb mt mh (mendR l) tx' ho' (pgAt (pagesR (mendR l)) 0) (pgAt (pagesR (mendR l)) 1) (pgAt (pagesR (mendR l)) 2) lv' ((mendR l).length : Nat)) := by
 have hR := h.book.right
 obtain ⟨g1, g2, g3⟩ := all_half hR
 have H := crewMend_any cb 9223372036854775807 w h C
 rw [g1, g2] at H
 have HN : Hid (mendErr l ≠ 0 → allNum l = 0) := fun x => by unfold allNum; rw [if_neg x]
 have HL : Hid (mendErr l = 0 → mendN (9223372036854775807 : Int).toNat l = mendR l ∧ safe ≤ ((mendR l).length : Nat)) := fun x => by
  have h1 := mendR_all hR (mendErr_zero.1 x)
  exact ⟨g3 x, by rw [h1.2.2.1]; omega⟩
 have hnl := needR_le l hR
 have han : allNum l ≤ 10000 := by unfold allNum; split <;> omega
 have hbase : base ≤ w.heap.size := Nat.le_trans h.ge (Nat.le_of_lt h.blk.lt)
 clear g1 g2 g3
 generalize mendErr l = me at *
 generalize allNum l = an at *
 generalize mendN (9223372036854775807 : Int).toNat l = mn at *
 go_enter Tryz.func110, Tryz.ntmps110
 go_wp2_with fail
 refine H.mono ?_
 rintro e w1 ⟨rfl, hbel, hgo⟩
 have B1 : Blk w1 bp #[.int .i64 0] 3 := by unfold Blk; rw [hbel.block bp hbp]; exact B
 clear H B
 by_cases h0 : me = 0
 ·have HZ := (show Hid (me = 0) from h0)
  have hb0 : (me != 0) = false := by simpa using h0
  obtain ⟨hC, tx', ho', lv', hD⟩ := hgo h0
  obtain ⟨e1, hs2⟩ := HL.out h0
  subst e1
  clear hgo h0 HL HN
  have G2 : Gr (some bp) w1 (w1.setCell ⟨bp, 0, none⟩ (.int .i64 (an : Nat))) := (Gr.refl (some bp) w1).set (p := ⟨bp, 0, none⟩) (Or.inr rfl) _
  have D2 := hD.gr G2 (fun k hk e => by injection e with e; have := hD.mineGe hk; omega)
  have hcb : cb ≠ bp := by rintro rfl; exact absurd (blk_eq hC B1) (by decide)
  have C2 := hC.gr G2 (by simpa using hcb)
  have P2 := B1.set 0 (.int .i64 (an : Nat))
  have O2 : Off base [bp] w (w1.setCell ⟨bp, 0, none⟩ (.int .i64 (an : Nat))) := (Off.of_below hbel).set (p := ⟨bp, 0, none⟩) (Or.inl (by simp)) _
  have c1 := B1.cell
  have f1 := B1.fr
  clear hbel hD hC G2 B1
  go_wp2_with fail
  generalize w1.setCell ⟨bp, 0, none⟩ (.int .i64 (an : Nat)) = w2 at *
  refine (everyPage_any w2).mono ?_
  rintro e w3 ⟨b, cap3, rfl, hw, I3⟩
  have D3 := D2.ext hw
  have C3 := C2.ext hw
  have P3 := P2.ext hw
  have hb2 : base ≤ w2.heap.size := Nat.le_trans D2.ge (Nat.le_of_lt D2.blk.lt)
  have O3 := O2.ext hb2 hw
  have hpd : bp ≠ db := by have := D3.ge; omega
  have L := leave_any cb [0, 1, 2] cap3 _ D3 C3 I3 (by simp) (by decide) hs2
  rw [show laidPg (mendR l) (List.contains ([0, 1, 2] : List Int) 0) 0 p = pgAt (pagesR (mendR l)) 0 from rfl, show laidPg (mendR l) (List.contains ([0, 1, 2] : List Int) 1) 1 q = pgAt (pagesR (mendR l)) 1 from rfl, show laidPg (mendR l) (List.contains ([0, 1, 2] : List Int) 2) 2 s = pgAt (pagesR (mendR l)) 2 from rfl] at L
  have HD3 := (show Hid (base ≤ db) from D3.ge)
  clear D2 C2 P2 O2 hw I3 D3 C3 c1 f1
  go_wp2_with fail
  refine L.mono ?_
  rintro e w4 ⟨rfl, hG, hD4⟩
  have P4 := P3.gr hG (by simpa using hpd)
  have O4 : Off base [bp] w3 w4 := ⟨hG.os, hG.tape, hG.output, hG.size, fun k hk _ => hG.block k (by have := O3.size; omega) (fun e => by injection e with e; have := HD3.out; omega)⟩
  go_wp2_with fail
  go_ret
  exact ⟨by rw [HZ.out]; rfl, O3.trans O4, P4, fun _ => ⟨tx', ho', lv', hD4⟩⟩
 ·have hb0 : (me != 0) = true := by simpa using h0
  have HN0 := (show Hid (me ≠ 0 ∧ an = 0) from ⟨h0, HN.out h0⟩)
  clear h0 hgo HL HN
  go_wp2_with fail
  go_ret
  exact ⟨rfl, Off.of_below hbel, by rw [HN0.out.2]; exact B1, fun x => absurd x HN0.out.1⟩
end Go.Proofs.YtibfgbmhmdggmaaGreatDoor.B
