/- Worlds, as plain data; the desk in memory; the contracts of slices.Clone, and of the desk's pageBehind and untold. The contracts of the desk's untold, and of the office's Open. -/
import Derived.Test.YtibfgbmhmdggmaaGreatDoorLogLA
import Derived.Lib.SliceRun
namespace Go.Proofs.YtibfgbmhmdggmaaGreatDoor.B
set_option maxHeartbeats 32000000
set_option maxRecDepth 100000
open Go.ChangeShapes Go.WideShapes Go.ChangeAt Go.RowKit
def selPg (p q r : Pg) : Nat → Pg
 | 0 => p
 | 1 => q
 | _ => r
def pgAt (ps : List Int) (i : Nat) : Pg := ⟨ps.getD (i * 4) 0, ps.getD (i * 4 + 1) 0, ps.getD (i * 4 + 2) 0, ps.getD (i * 4 + 3) 0⟩
def untoldB (l : List Rc) (safe : Int) (i : Nat) (d : Pg) : Bool := out 0 safe [d.last] || !eqPg d (pgAt (pagesR (l.take d.last.toNat)) i)
def untoldTo (l : List Rc) (safe : Int) (p q r : Pg) : Nat → Bool
 | 0 => false
 | k + 1 => untoldTo l safe p q r k || untoldB l safe k (selPg p q r k)
def worldErr (p q r : Pg) (l : List Rc) (safe : Int) : Int := if logErr l = 0 then (if out 0 (l.length : Nat) [safe] then 3 else if untoldTo l safe p q r 3 then 1 else 0) else logErr l
theorem untoldTo_mono {l : List Rc} {safe : Int} {p q r : Pg} {k : Nat} (h : untoldTo l safe p q r k = true) : ∀ i, untoldTo l safe p q r (k + i) = true := by
 intro i
 induction i with
 | zero => exact h
 | succ i ih => show (untoldTo l safe p q r (k + i) || _) = true; rw [ih]; rfl
abbrev wdVal (p q r : Pg) (lv : Value) (safe : Int) : Value := .agg #[.int .i64 p.c0, .int .i64 p.c1, .int .i64 p.c2, .int .i64 p.last, .int .i64 q.c0, .int .i64 q.c1, .int .i64 q.c2, .int .i64 q.last, .int .i64 r.c0, .int .i64 r.c1, .int .i64 r.c2, .int .i64 r.last, lv, .int .i64 safe]
abbrev wdCells (p q r : Pg) (lv : Value) (safe : Int) : Array Value := #[.int .i64 p.c0, .int .i64 p.c1, .int .i64 p.c2, .int .i64 p.last, .int .i64 q.c0, .int .i64 q.c1, .int .i64 q.c2, .int .i64 q.last, .int .i64 r.c0, .int .i64 r.c1, .int .i64 r.c2, .int .i64 r.last, lv, .int .i64 safe]
abbrev dkCells (pb : Nat) (p q r : Pg) (lv : Value) (safe : Int) : Array Value := #[.pointer (some ⟨pb, 0, none⟩), .int .i64 p.c0, .int .i64 p.c1, .int .i64 p.c2, .int .i64 p.last, .int .i64 q.c0, .int .i64 q.c1, .int .i64 q.c2, .int .i64 q.last, .int .i64 r.c0, .int .i64 r.c1, .int .i64 r.c2, .int .i64 r.last, lv, .int .i64 safe]
abbrev Pg.cs (p : Pg) : Array Value := #[.int .i64 p.c0, .int .i64 p.c1, .int .i64 p.c2, .int .i64 p.last]
structure DeskOk (w : World) (base db pb mt mh : Nat) (l : List Rc) (tx : List TxE) (ho : List HE) (p q r : Pg) (lv : Value) (safe : Int) : Prop where
 blk : Blk w db (dkCells pb p q r lv safe) 130
 book : BookOk w base pb mt mh l tx ho
 own : w.ownsRow base 81 8 lv l.length (flat l)
 ge : base ≤ db
 free : ∀ g, lv.ownBlock = some g → ∀ t ∈ tx, t.sv.ownBlock ≠ some g
theorem DeskOk.ext {w w' : World} {base db pb mt mh : Nat} {l : List Rc} {tx : List TxE} {ho : List HE} {p q r : Pg} {lv : Value} {safe : Int} (h : DeskOk w base db pb mt mh l tx ho p q r lv safe) (e : Ext w w') : DeskOk w' base db pb mt mh l tx ho p q r lv safe :=
 ⟨h.blk.ext e, h.book.ext e, own_ext h.own e, h.ge, h.free⟩
theorem recs_own' {w : World} {base : Nat} {v : Value} {st : List Rc} (h : w.ownsRow base 81 8 v st.length (flat st)) : ∃ a cap, v = .slice a st.length cap ∧ Recs w a st.length st ∧ st.length ≤ cap ∧ (a = none → cap = 0) := by
 rcases h.2 with ⟨rfl, h0⟩ | ⟨g, cap, cur, rfl, hg, hb, hc, hm, hs, ht⟩
 ·exact ⟨none, 0, by rw [h0], ⟨rfl, Or.inl ⟨rfl, h0⟩⟩, by omega, fun _ => rfl⟩
 ·refine ⟨_, _, rfl, ⟨rfl, Or.inr ⟨g, 0, rfl, fun i hi => ?_⟩⟩, by omega, fun h => by cases h⟩
  rw [Nat.zero_add]
  exact own_rec hb ht i hi
theorem recs_cells {w : World} {b off len : Nat} {l : List Rc} (h : Recs w (some ⟨b, off, none⟩) len l) : ∀ (j : Nat) (u : Value), (flat l)[j]? = some u → w.cell? ((⟨b, off, none⟩ : Addr).add j) = some u := by
 intro j u hj
 have hlt : j < l.length * 8 := by
  have := (List.getElem?_eq_some_iff.1 hj).1
  rw [flat_len] at this; exact this
 have hi : j / 8 < l.length := by omega
 obtain ⟨b', off', e, hl, hr⟩ := h.at (k := j / 8) (by rw [← h.len]; exact hi)
 simp only [Option.some.injEq, Addr.mk.injEq, and_true] at e
 obtain ⟨rfl, rfl⟩ := e
 have hf := flat_get l (j / 8) (j % 8) hi (by omega)
 rw [show j / 8 * 8 + j % 8 = j from by omega] at hf
 rw [hf] at hj
 rw [Addr.add_lit, show off + j = off + j / 8 * 8 + j % 8 from by omega]
 obtain ⟨c0, c1, c2, c3, c4, c5, c6, c7⟩ := hr
 have h8 : j % 8 = 0 ∨ j % 8 = 1 ∨ j % 8 = 2 ∨ j % 8 = 3 ∨ j % 8 = 4 ∨ j % 8 = 5 ∨ j % 8 = 6 ∨ j % 8 = 7 := by omega
 rcases h8 with e | e | e | e | e | e | e | e <;> rw [e] at hj ⊢ <;> simp at hj <;> subst hj <;> assumption
theorem flat_one (l : List Rc) : ∀ u ∈ flat l, u.oneCell' = true := by
 intro u hu
 unfold flat at hu
 obtain ⟨r, _, hr⟩ := List.mem_flatMap.1 hu
 exact cs_oneCell r u hr
theorem clone_any (a : Option Addr) (len cap : Nat) (l : List Rc) (w : World) (h : Recs w a len l) (hnil : a = none → cap = 0) (hl : len ≤ 60) :
  Calls Tryz.prog 137 #[.slice a len cap] w fun e w' => ∃ v, e = .returned v ∧ w'.ownsRow w.heap.size 81 8 v l.length (flat l) ∧ Ext w w' := by
 obtain ⟨i0, hi, hz0, hz1, hz2⟩ := info_parts infoRec
 have HI := (show Hid _ from hi)
 have Z0 := (show Hid _ from hz0)
 have Z1 := (show Hid _ from hz1)
 have Z2 := (show Hid _ from hz2)
 clear hi hz0 hz1 hz2
 cases a with
 | none =>
  obtain rfl := hnil rfl
  have hl0 : len = 0 := by
   rcases h.2 with ⟨_, h0⟩ | ⟨b, off, e, _⟩
   ·exact h0
   ·cases e
  subst hl0
  have hl1 : Hid (l = []) := List.length_eq_zero_iff.1 h.len
  have hn := fun w => Lib.run_eql_slice_nil (P := Tryz.prog) w 36 81 none 0 0 0 0 Tryz.underlying36
  simp only [Option.isNone_none] at hn
  go_enter Tryz.func137, Tryz.ntmps137
  go_wp2_with fail
  go_ret
  exact ⟨_, rfl, by rw [hl1.out]; exact ⟨rfl, Or.inl ⟨rfl, rfl⟩⟩, Ext.refl w⟩
 | some ad =>
  obtain ⟨b, off, rfl⟩ : ∃ b off, ad = ⟨b, off, none⟩ := by
   rcases h.2 with ⟨e, _⟩ | ⟨b, off, e, _⟩
   ·cases e
   ·injection e with e; exact ⟨b, off, e⟩
  have hll := h.len
  have hN : (w.alloc (.cells #[] 81)).ownsRow w.heap.size 81 8 (.slice (some ⟨w.heap.size, 0, none⟩) 0 0) 0 [] := ⟨rfl, Or.inr ⟨w.heap.size, 0, #[], rfl, Nat.le_refl _, by unfold World.alloc; simp, Nat.le_refl _, Nat.zero_le _, rfl, rfl⟩⟩
  have hE := (Ext.refl w).alloc (.cells #[] 81)
  have hcl := recs_cells (h.ext hE)
  have HLen : Hid ((flat l).length = len * 8) := by rw [Hid, flat_len, hll]
  have hn := fun w => Lib.run_eql_slice_nil (P := Tryz.prog) w 36 81 (some ⟨b, off, none⟩) len cap 0 0 Tryz.underlying36
  simp only [Option.isNone_some] at hn
  go_enter Tryz.func137, Tryz.ntmps137
  go_wp2_with (at_builtin; refine wpList_append_own _ rfl _ _ 36 rfl w.heap.size 81 i0 (.agg #[.int .i64 0, .int .i64 0, .int .i64 0, .int .i64 0, .int .i64 0, .int .i64 0, .int .i64 0, .int .i64 0]) 8 64 Tryz.underlying36 HI.out Z0.out Z1.out Z2.out rfl (by decide) (.slice (some ⟨w.heap.size, 0, none⟩) 0 0) 0 [] rfl hN ⟨b, off, none⟩ len cap (flat l) rfl HLen.out hcl (flat_one l) (by unfold maxLen; omega) (by omega) (by simp) ?_; intro v' w3 hown' hgrow hnil3)
  have hE3 : Ext w w3 := hE.grown hN hgrow
  go_ret
  rw [Nat.zero_add, List.nil_append, ← hll] at hown'
  exact ⟨_, rfl, hown', hE3⟩
theorem neq_page (p q : Pg) : ∀ w, (binOp .neq 34 p.val q.val).run Tryz.prog w = .ok (.bool (!eqPg p q)) w := by
 intro w; rw [run_neq_struct]; rw [show (10000 : Nat) = 9997 + 3 from rfl, eq_page 9997 w p q]; rfl
theorem pageBehind_any (db pb : Nat) (p q r : Pg) (a : Option Addr) (len cap : Nat) (l : List Rc) (safe : Int) (i n : Nat) (w : World) (D : Blk w db (dkCells pb p q r (.slice a len cap) safe) 130) (h : Recs w a len l) (hcap : len ≤ cap) (hR : logErr l = 0) (hi : i < 3) (hn : n ≤ len) :
  Calls Tryz.prog 172 #[.pointer (some ⟨db, 0, none⟩), .int .i64 i, .int .i64 n] w fun e w' => e = .returned (pgAt (pagesR (l.take n)) i).val ∧ Ext w w' := by
 have hz := logErr_pre hR n
 have h60 := (logErr_zero hR).1
 have hlen := h.len
 have H := fun w' (e : Ext w w') => logPages_any a n cap (l.take n) w' ((h.ext e).take n hn) (by unfold maxLen; omega)
 rw [hz, show pagesOrNone (l.take n) = pagesR (l.take n) from by unfold pagesOrNone; rw [if_pos hz]] at H
 obtain ⟨a0, a1, a2, a3, a4, a5, a6, a7, a8, a9, a10, a11, hps⟩ := list12 _ (pagesR_len (l.take n))
 rw [hps] at H
 have HP : Hid (pagesR (l.take n) = [a0, a1, a2, a3, a4, a5, a6, a7, a8, a9, a10, a11]) := hps
 clear hps hz hR
 rw [show ints [a0, a1, a2, a3, a4, a5, a6, a7, a8, a9, a10, a11] = #[.int .i64 a0, .int .i64 a1, .int .i64 a2, .int .i64 a3, .int .i64 a4, .int .i64 a5, .int .i64 a6, .int .i64 a7, .int .i64 a8, .int .i64 a9, .int .i64 a10, .int .i64 a11] from rfl] at H
 have D1 := D.alloc (.cells #[.int .i64 0, .int .i64 0, .int .i64 0, .int .i64 0] 34)
 have E1 := (Ext.refl w).alloc (.cells #[.int .i64 0, .int .i64 0, .int .i64 0, .int .i64 0] 34)
 have c1 := D1.cell
 have hnc : n ≤ cap := by omega
 have R0 := Blk.new w w.heap.size #[.int .i64 0, .int .i64 0, .int .i64 0, .int .i64 0] 34 rfl
 generalize pagesR (l.take n) = ps at *
 have hdl := D.lt
 go_enter Tryz.func172, Tryz.ntmps172
 go_wp2_with fail
 refine (H _ E1).mono ?_
 rintro e w1 ⟨rfl, hw⟩
 have E2 := E1.trans hw
 have R1 := (R0.ext hw).alloc (.cells #[.int .i64 a0, .int .i64 a1, .int .i64 a2, .int .i64 a3, .int .i64 a4, .int .i64 a5, .int .i64 a6, .int .i64 a7, .int .i64 a8, .int .i64 a9, .int .i64 a10, .int .i64 a11] 35)
 have P1 := Blk.new w1 w1.heap.size #[.int .i64 a0, .int .i64 a1, .int .i64 a2, .int .i64 a3, .int .i64 a4, .int .i64 a5, .int .i64 a6, .int .i64 a7, .int .i64 a8, .int .i64 a9, .int .i64 a10, .int .i64 a11] 35 rfl
 have hsz := E2.size
 have hr1 := R0.lt
 simp at hr1
 have E3 := E2.alloc (.cells #[.int .i64 a0, .int .i64 a1, .int .i64 a2, .int .i64 a3, .int .i64 a4, .int .i64 a5, .int .i64 a6, .int .i64 a7, .int .i64 a8, .int .i64 a9, .int .i64 a10, .int .i64 a11] 35)
 have hne : w.heap.size ≠ w1.heap.size := by have := (R0.ext hw).lt; omega
 clear R0 E1 E2 hw c1 D1 D H
 have hi3 : i = 0 ∨ i = 1 ∨ i = 2 := by omega
 have rc := R1.cell
 have rf := R1.fr
 have pc := P1.cell
 rcases hi3 with rfl | rfl | rfl
 ·go_wp2_with fail
  refine bodyPost_ret (v := .agg #[.int .i64 a0, .int .i64 a1, .int .i64 a2, .int .i64 a3]) (by simp [results, Tryz.results172, go_sem, rc]) rfl ⟨by rw [HP.out]; rfl, ?_⟩
  exact ((((E3.setCell (by simp) _).setCell (by simp) _).setCell (by simp) _).setCell (by simp) _)
 ·go_wp2_with fail
  refine bodyPost_ret (v := .agg #[.int .i64 a4, .int .i64 a5, .int .i64 a6, .int .i64 a7]) (by simp [results, Tryz.results172, go_sem, rc]) rfl ⟨by rw [HP.out]; rfl, ?_⟩
  exact ((((E3.setCell (by simp) _).setCell (by simp) _).setCell (by simp) _).setCell (by simp) _)
 ·go_wp2_with fail
  refine bodyPost_ret (v := .agg #[.int .i64 a8, .int .i64 a9, .int .i64 a10, .int .i64 a11]) (by simp [results, Tryz.results172, go_sem, rc]) rfl ⟨by rw [HP.out]; rfl, ?_⟩
  exact ((((E3.setCell (by simp) _).setCell (by simp) _).setCell (by simp) _).setCell (by simp) _)
theorem untold1 (db pb bd bp : Nat) (p q r d : Pg) (lv : Value) (safe : Int) (w : World) (D : Blk w db (dkCells pb p q r lv safe) 130) (B : Blk w bd #[.pointer (some ⟨db, 0, none⟩)] 121) (P : Blk w bp d.cs 34) :
  Calls Tryz.prog 170 #[.pointer (some ⟨bd, 0, none⟩), .pointer (some ⟨bp, 0, none⟩)] w fun e w' => e = .returned (.bool (out 0 safe [d.last])) ∧ Ext w w' := by
 go_enter Tryz.func170, Tryz.ntmps170
 go_wp2_with fail
 obtain ⟨F, hF⟩ := calm_there w
 have KC : Hid (∀ w', Ext w w' → ∃ v, w' = F v) := fun w' e => ⟨w', (hF.same w' e).symm⟩
 have dc := hF.cell D
 have bc := hF.cell B
 have pc := hF.cell P
 refine wp_region_line (S := fun w' => ∃ v, w' = F v) [6, 0] (by kernel_rfl) (by kernel_rfl) (fun c a d v w h => by cases d <;> exact h) (by kernel_rfl) (KC.out _ (Ext.refl w).drew) ?_
 simp only [cutL, List.drop_succ_cons, List.drop_zero, List.take_succ_cons, List.take_zero]
 have F0 := (Ext.refl w).drew
 refine wpLine_cons ?_
 repeat (go_big_quiet_step (fail))
 refine wpQuiet_nil ?_
 intro K hK
 rw [if_pos (by kernel_rfl)]
 go_simp
 have F1 := F0.alloc (.cells #[.int .i64 d.last] 3)
 refine hK.out _ _ (KC.out _ F1) (fun _ => ?_)
 clear hK K
 refine wpLine_cons ?_
 repeat (go_big_quiet_step (fail))
 refine wpQuiet_nil ?_
 intro K hK
 rw [if_pos (by kernel_rfl)]
 go_simp
 refine (outside_n 1 0 safe _ 0 1 [d.last] _ rfl (by decide) (cells1 (by simp [go_sem]))).mono ?_
 rintro e w2 ⟨rfl, rfl⟩
 go_wp2_with fail
 refine hK.out _ _ (KC.out _ F1) (fun _ => ?_)
 clear hK K
 refine wpLine_nil ?_
 repeat (go_big_quiet_step (fail))
 refine wpQuiet_nil ?_
 go_wp2_with fail
 go_ret
 exact ⟨rfl, F1⟩
theorem untold1_ans (db pb bd bp : Nat) (p q r d : Pg) (lv : Value) (safe : Int) (w : World) (D : Blk w db (dkCells pb p q r lv safe) 130) (B : Blk w bd #[.pointer (some ⟨db, 0, none⟩)] 121) (P : Blk w bp d.cs 34) :
  Ans 170 #[.pointer (some ⟨bd, 0, none⟩), .pointer (some ⟨bp, 0, none⟩)] w (out 0 safe [d.last]) :=
 ⟨fun w => callFunc_enter _ w Tryz.func170 (by kernel_rfl) (by kernel_rfl), fun w' e => untold1 db pb bd bp p q r d lv safe w' (D.ext e) (B.ext e) (P.ext e)⟩
theorem untold2 (db pb bd bp bi : Nat) (p q r d : Pg) (a : Option Addr) (len cap : Nat) (l : List Rc) (safe : Int) (i : Nat) (w : World) (D : Blk w db (dkCells pb p q r (.slice a len cap) safe) 130) (B : Blk w bd #[.pointer (some ⟨db, 0, none⟩)] 121) (P : Blk w bp d.cs 34)
  (I : Blk w bi #[.int .i64 i] 3) (h : Recs w a len l) (hcap : len ≤ cap) (hR : logErr l = 0) (hi : i < 3) (h0 : 0 ≤ d.last) (hn : d.last ≤ len) :
  Calls Tryz.prog 171 #[.pointer (some ⟨bp, 0, none⟩), .pointer (some ⟨bd, 0, none⟩), .pointer (some ⟨bi, 0, none⟩)] w fun e w' => e = .returned (.bool (!eqPg d (pgAt (pagesR (l.take d.last.toNat)) i))) ∧ Ext w w' := by
 obtain ⟨c0, c1, c2, last⟩ := d
 dsimp only at h0 hn ⊢
 obtain ⟨n, rfl⟩ : ∃ n : Nat, last = (n : Int) := ⟨last.toNat, by omega⟩
 have H := fun w' (e : Ext w w') => pageBehind_any db pb p q r a len cap l safe i n w' (D.ext e) (h.ext e) hcap hR hi (by omega)
 rw [Int.toNat_natCast]
 generalize pgAt (pagesR (l.take n)) i = g at *
 have e1 := neq_page ⟨c0, c1, c2, (n : Int)⟩ g
 go_enter Tryz.func171, Tryz.ntmps171
 go_wp2_with fail
 refine wp_region_calm (by kernel_rfl) (by kernel_rfl) (fun F hF => ?_)
 have d1 := hF.cell B
 have d2 := hF.cell P
 have d3 := hF.cell I
 have HC : Hid (∀ y, Calls Tryz.prog 172 #[.pointer (some ⟨db, 0, none⟩), .int .i64 i, .int .i64 n] (F y) fun e w' => e = .returned g.val ∧ Ext (F y) w') := fun y => H (F y) (hF.ext y)
 repeat (go_big_quiet_step ((go_at_call 172; exact hF.call (HC.out _))))
 refine wpQuiet_nil ?_
 rintro _ ⟨v, rfl⟩
 go_wp2_with fail
 go_ret
 exact ⟨rfl, hF.ext v⟩
theorem untold2_ans (db pb bd bp bi : Nat) (p q r d : Pg) (a : Option Addr) (len cap : Nat) (l : List Rc) (safe : Int) (i : Nat) (w : World) (D : Blk w db (dkCells pb p q r (.slice a len cap) safe) 130) (B : Blk w bd #[.pointer (some ⟨db, 0, none⟩)] 121) (P : Blk w bp d.cs 34)
  (I : Blk w bi #[.int .i64 i] 3) (h : Recs w a len l) (hcap : len ≤ cap) (hR : logErr l = 0) (hi : i < 3) (h0 : 0 ≤ d.last) (hn : d.last ≤ len) :
  Ans 171 #[.pointer (some ⟨bp, 0, none⟩), .pointer (some ⟨bd, 0, none⟩), .pointer (some ⟨bi, 0, none⟩)] w (!eqPg d (pgAt (pagesR (l.take d.last.toNat)) i)) :=
 ⟨fun w => callFunc_enter _ w Tryz.func171 (by kernel_rfl) (by kernel_rfl), fun w' e => untold2 db pb bd bp bi p q r d a len cap l safe i w' (D.ext e) (B.ext e) (P.ext e) (I.ext e) (h.ext e) hcap hR hi h0 hn⟩
theorem untold_0 (db pb : Nat) (p q r : Pg) (a : Option Addr) (len cap : Nat) (l : List Rc) (safe : Int) (w : World) (D : Blk w db (dkCells pb p q r (.slice a len cap) safe) 130) (h : Recs w a len l) (hcap : len ≤ cap) (hR : logErr l = 0) (hs : safe ≤ len) :
  Calls Tryz.prog 138 #[.pointer (some ⟨db, 0, none⟩), .int .i64 0] w fun e w' => e = .returned (.bool (untoldB l safe 0 p)) ∧ Ext w w' := by
 have HU : Hid (untoldB l safe 0 p = (out 0 safe [p.last] || !eqPg p (pgAt (pagesR (l.take p.last.toNat)) 0))) := rfl
 go_enter Tryz.func138, Tryz.ntmps138
 go_wp2_with fail
 have C0 := (Blk.new w w.heap.size #[.pointer (some ⟨db, 0, none⟩)] 121 rfl).alloc (.cells #[.int .i64 0] 3)
 have C1 := Blk.new (w.alloc (.cells #[.pointer (some ⟨db, 0, none⟩)] 121)) (w.heap.size + 1) #[.int .i64 0] 3 (by simp)
 have hE := ((Ext.refl w).alloc (.cells #[.pointer (some ⟨db, 0, none⟩)] 121)).alloc (.cells #[.int .i64 0] 3)
 generalize (w.alloc (.cells #[.pointer (some ⟨db, 0, none⟩)] 121)).alloc (.cells #[.int .i64 0] 3) = W at *
 have hD := D.ext hE
 have KC : Hid (∀ w', Ext W w' → (∀ o, w'.cell? ⟨w.heap.size, o, none⟩ = #[.pointer (some ⟨db, 0, none⟩)][o]?) ∧ (∀ o, w'.cell? ⟨w.heap.size + 1, o, none⟩ = #[.int .i64 0][o]?) ∧ (∀ o, w'.cell? ⟨db, o, none⟩ = (dkCells pb p q r (.slice a len cap) safe)[o]?)) := fun w' e => ⟨(C0.ext e).cell, (C1.ext e).cell, (hD.ext e).cell⟩
 go_cut [5] (fun s5 wx => ∃ b5 : Nat, s5 = .pointer (some ⟨b5, 0, none⟩) ∧ Blk wx b5 p.cs 34 ∧ Ext W wx)
 case first =>
  go_region_held3 (fun w' => Ext W w' ∧ ((∀ o, w'.cell? ⟨w.heap.size, o, none⟩ = #[.pointer (some ⟨db, 0, none⟩)][o]?) ∧ (∀ o, w'.cell? ⟨w.heap.size + 1, o, none⟩ = #[.int .i64 0][o]?) ∧ (∀ o, w'.cell? ⟨db, o, none⟩ = (dkCells pb p q r (.slice a len cap) safe)[o]?)))
   ((refine (fun e => ⟨e, KC.out _ e⟩ : Ext W _ → _) ?_; first | exact (Ext.refl W).drew | exact ((Ext.refl W).alloc _).drew | exact hy | exact hy.alloc _ | exact (hy.setCell hbx _).setCell hbx _))
   (first
   | (fail)
   | (fail))
  all_goals (go_wp2_with fail; go_meet; case rel => exact ⟨_, rfl, Blk.new _ _ _ _ rfl, ((Ext.refl W).alloc _).drew⟩)
 case rest =>
  obtain ⟨b5, rfl, C2, hx5⟩ := hcut
  have D0 := C0.ext hx5
  have D1 := C1.ext hx5
  have D2 := hD.ext hx5
  have hE2 := hE.trans hx5
  have h2 := h.ext hE2
  clear C0 C1 hD hE hx5 KC D h
  go_wp2_with fail
  refine (any2 170 171 #[.pointer (some ⟨w.heap.size, 0, none⟩), .pointer (some ⟨b5, 0, none⟩)] #[.pointer (some ⟨b5, 0, none⟩), .pointer (some ⟨w.heap.size, 0, none⟩), .pointer (some ⟨w.heap.size + 1, 0, none⟩)] (out 0 safe [p.last]) (!eqPg p (pgAt (pagesR (l.take p.last.toNat)) 0)) (by simp [go_sem]) (by simp [go_sem])
   (untold1_ans db pb _ _ p q r p (.slice a len cap) safe _ (D2.alloc _) (D0.alloc _) (C2.alloc _)) (fun ho => untold2_ans db pb _ _ _ p q r p a len cap l safe 0 _ (D2.alloc _) (D0.alloc _) (C2.alloc _) (D1.alloc _) (h2.ext ((Ext.refl _).alloc _)) hcap hR (by decide) (out1_false ho).1 (by have := (out1_false ho).2; omega))).mono ?_
  rintro e w2 ⟨rfl, hw2⟩
  go_wp2_with fail
  go_ret
  exact ⟨by rw [HU.out]; rfl, (hE2.alloc _).trans hw2⟩
theorem untold_1 (db pb : Nat) (p q r : Pg) (a : Option Addr) (len cap : Nat) (l : List Rc) (safe : Int) (w : World) (D : Blk w db (dkCells pb p q r (.slice a len cap) safe) 130) (h : Recs w a len l) (hcap : len ≤ cap) (hR : logErr l = 0) (hs : safe ≤ len) :
  Calls Tryz.prog 138 #[.pointer (some ⟨db, 0, none⟩), .int .i64 1] w fun e w' => e = .returned (.bool (untoldB l safe 1 q)) ∧ Ext w w' := by
 have HU : Hid (untoldB l safe 1 q = (out 0 safe [q.last] || !eqPg q (pgAt (pagesR (l.take q.last.toNat)) 1))) := rfl
 go_enter Tryz.func138, Tryz.ntmps138
 go_wp2_with fail
 have C0 := (Blk.new w w.heap.size #[.pointer (some ⟨db, 0, none⟩)] 121 rfl).alloc (.cells #[.int .i64 1] 3)
 have C1 := Blk.new (w.alloc (.cells #[.pointer (some ⟨db, 0, none⟩)] 121)) (w.heap.size + 1) #[.int .i64 1] 3 (by simp)
 have hE := ((Ext.refl w).alloc (.cells #[.pointer (some ⟨db, 0, none⟩)] 121)).alloc (.cells #[.int .i64 1] 3)
 generalize (w.alloc (.cells #[.pointer (some ⟨db, 0, none⟩)] 121)).alloc (.cells #[.int .i64 1] 3) = W at *
 have hD := D.ext hE
 have KC : Hid (∀ w', Ext W w' → (∀ o, w'.cell? ⟨w.heap.size, o, none⟩ = #[.pointer (some ⟨db, 0, none⟩)][o]?) ∧ (∀ o, w'.cell? ⟨w.heap.size + 1, o, none⟩ = #[.int .i64 1][o]?) ∧ (∀ o, w'.cell? ⟨db, o, none⟩ = (dkCells pb p q r (.slice a len cap) safe)[o]?)) := fun w' e => ⟨(C0.ext e).cell, (C1.ext e).cell, (hD.ext e).cell⟩
 go_cut [5] (fun s5 wx => ∃ b5 : Nat, s5 = .pointer (some ⟨b5, 0, none⟩) ∧ Blk wx b5 q.cs 34 ∧ Ext W wx)
 case first =>
  go_region_held3 (fun w' => Ext W w' ∧ ((∀ o, w'.cell? ⟨w.heap.size, o, none⟩ = #[.pointer (some ⟨db, 0, none⟩)][o]?) ∧ (∀ o, w'.cell? ⟨w.heap.size + 1, o, none⟩ = #[.int .i64 1][o]?) ∧ (∀ o, w'.cell? ⟨db, o, none⟩ = (dkCells pb p q r (.slice a len cap) safe)[o]?)))
   ((refine (fun e => ⟨e, KC.out _ e⟩ : Ext W _ → _) ?_; first | exact (Ext.refl W).drew | exact ((Ext.refl W).alloc _).drew | exact hy | exact hy.alloc _ | exact (hy.setCell hbx _).setCell hbx _))
   (first
   | (fail)
   | (fail))
  all_goals (go_wp2_with fail; go_meet; case rel => exact ⟨_, rfl, Blk.new _ _ _ _ rfl, ((Ext.refl W).alloc _).drew⟩)
 case rest =>
  obtain ⟨b5, rfl, C2, hx5⟩ := hcut
  have D0 := C0.ext hx5
  have D1 := C1.ext hx5
  have D2 := hD.ext hx5
  have hE2 := hE.trans hx5
  have h2 := h.ext hE2
  clear C0 C1 hD hE hx5 KC D h
  go_wp2_with fail
  refine (any2 170 171 #[.pointer (some ⟨w.heap.size, 0, none⟩), .pointer (some ⟨b5, 0, none⟩)] #[.pointer (some ⟨b5, 0, none⟩), .pointer (some ⟨w.heap.size, 0, none⟩), .pointer (some ⟨w.heap.size + 1, 0, none⟩)] (out 0 safe [q.last]) (!eqPg q (pgAt (pagesR (l.take q.last.toNat)) 1)) (by simp [go_sem]) (by simp [go_sem])
   (untold1_ans db pb _ _ p q r q (.slice a len cap) safe _ (D2.alloc _) (D0.alloc _) (C2.alloc _)) (fun ho => untold2_ans db pb _ _ _ p q r q a len cap l safe 1 _ (D2.alloc _) (D0.alloc _) (C2.alloc _) (D1.alloc _) (h2.ext ((Ext.refl _).alloc _)) hcap hR (by decide) (out1_false ho).1 (by have := (out1_false ho).2; omega))).mono ?_
  rintro e w2 ⟨rfl, hw2⟩
  go_wp2_with fail
  go_ret
  exact ⟨by rw [HU.out]; rfl, (hE2.alloc _).trans hw2⟩
theorem untold_2 (db pb : Nat) (p q r : Pg) (a : Option Addr) (len cap : Nat) (l : List Rc) (safe : Int) (w : World) (D : Blk w db (dkCells pb p q r (.slice a len cap) safe) 130) (h : Recs w a len l) (hcap : len ≤ cap) (hR : logErr l = 0) (hs : safe ≤ len) :
  Calls Tryz.prog 138 #[.pointer (some ⟨db, 0, none⟩), .int .i64 2] w fun e w' => e = .returned (.bool (untoldB l safe 2 r)) ∧ Ext w w' := by
 have HU : Hid (untoldB l safe 2 r = (out 0 safe [r.last] || !eqPg r (pgAt (pagesR (l.take r.last.toNat)) 2))) := rfl
 go_enter Tryz.func138, Tryz.ntmps138
 go_wp2_with fail
 have C0 := (Blk.new w w.heap.size #[.pointer (some ⟨db, 0, none⟩)] 121 rfl).alloc (.cells #[.int .i64 2] 3)
 have C1 := Blk.new (w.alloc (.cells #[.pointer (some ⟨db, 0, none⟩)] 121)) (w.heap.size + 1) #[.int .i64 2] 3 (by simp)
 have hE := ((Ext.refl w).alloc (.cells #[.pointer (some ⟨db, 0, none⟩)] 121)).alloc (.cells #[.int .i64 2] 3)
 generalize (w.alloc (.cells #[.pointer (some ⟨db, 0, none⟩)] 121)).alloc (.cells #[.int .i64 2] 3) = W at *
 have hD := D.ext hE
 have KC : Hid (∀ w', Ext W w' → (∀ o, w'.cell? ⟨w.heap.size, o, none⟩ = #[.pointer (some ⟨db, 0, none⟩)][o]?) ∧ (∀ o, w'.cell? ⟨w.heap.size + 1, o, none⟩ = #[.int .i64 2][o]?) ∧ (∀ o, w'.cell? ⟨db, o, none⟩ = (dkCells pb p q r (.slice a len cap) safe)[o]?)) := fun w' e => ⟨(C0.ext e).cell, (C1.ext e).cell, (hD.ext e).cell⟩
 go_cut [5] (fun s5 wx => ∃ b5 : Nat, s5 = .pointer (some ⟨b5, 0, none⟩) ∧ Blk wx b5 r.cs 34 ∧ Ext W wx)
 case first =>
  go_region_held3 (fun w' => Ext W w' ∧ ((∀ o, w'.cell? ⟨w.heap.size, o, none⟩ = #[.pointer (some ⟨db, 0, none⟩)][o]?) ∧ (∀ o, w'.cell? ⟨w.heap.size + 1, o, none⟩ = #[.int .i64 2][o]?) ∧ (∀ o, w'.cell? ⟨db, o, none⟩ = (dkCells pb p q r (.slice a len cap) safe)[o]?)))
   ((refine (fun e => ⟨e, KC.out _ e⟩ : Ext W _ → _) ?_; first | exact (Ext.refl W).drew | exact ((Ext.refl W).alloc _).drew | exact hy | exact hy.alloc _ | exact (hy.setCell hbx _).setCell hbx _))
   (first
   | (fail)
   | (fail))
  all_goals (go_wp2_with fail; go_meet; case rel => exact ⟨_, rfl, Blk.new _ _ _ _ rfl, ((Ext.refl W).alloc _).drew⟩)
 case rest =>
  obtain ⟨b5, rfl, C2, hx5⟩ := hcut
  have D0 := C0.ext hx5
  have D1 := C1.ext hx5
  have D2 := hD.ext hx5
  have hE2 := hE.trans hx5
  have h2 := h.ext hE2
  clear C0 C1 hD hE hx5 KC D h
  go_wp2_with fail
  refine (any2 170 171 #[.pointer (some ⟨w.heap.size, 0, none⟩), .pointer (some ⟨b5, 0, none⟩)] #[.pointer (some ⟨b5, 0, none⟩), .pointer (some ⟨w.heap.size, 0, none⟩), .pointer (some ⟨w.heap.size + 1, 0, none⟩)] (out 0 safe [r.last]) (!eqPg r (pgAt (pagesR (l.take r.last.toNat)) 2)) (by simp [go_sem]) (by simp [go_sem])
   (untold1_ans db pb _ _ p q r r (.slice a len cap) safe _ (D2.alloc _) (D0.alloc _) (C2.alloc _)) (fun ho => untold2_ans db pb _ _ _ p q r r a len cap l safe 2 _ (D2.alloc _) (D0.alloc _) (C2.alloc _) (D1.alloc _) (h2.ext ((Ext.refl _).alloc _)) hcap hR (by decide) (out1_false ho).1 (by have := (out1_false ho).2; omega))).mono ?_
  rintro e w2 ⟨rfl, hw2⟩
  go_wp2_with fail
  go_ret
  exact ⟨by rw [HU.out]; rfl, (hE2.alloc _).trans hw2⟩
theorem BookOk.low {w : World} {base base' pb mt mh : Nat} {l : List Rc} {tx : List TxE} {ho : List HE} (h : BookOk w base pb mt mh l tx ho) (hb : base' ≤ base) : BookOk w base' pb mt mh l tx ho :=
 ⟨h.blk, h.txs, h.hos, fun t ht => own_base (h.own t ht) hb, h.apart, ⟨by have := h.ge; omega, by have := h.ge; omega, by have := h.ge; omega⟩, h.ne, h.right, h.tells, h.all, h.hold, h.held, h.once⟩
theorem worldErr_log {p q r : Pg} {l : List Rc} {safe : Int} (h : logErr l ≠ 0) : worldErr p q r l safe = logErr l := by unfold worldErr; rw [if_neg h]
theorem worldErr_safe {p q r : Pg} {l : List Rc} {safe : Int} (h : logErr l = 0) (ho : out 0 (l.length : Nat) [safe] = true) : worldErr p q r l safe = 3 := by unfold worldErr; rw [if_pos h, ho]; rfl
theorem worldErr_disk {p q r : Pg} {l : List Rc} {safe : Int} (h : logErr l = 0) (ho : out 0 (l.length : Nat) [safe] = false) (hu : untoldTo l safe p q r 3 = true) : worldErr p q r l safe = 1 := by unfold worldErr; rw [if_pos h, ho, hu]; rfl
theorem worldErr_none {p q r : Pg} {l : List Rc} {safe : Int} (h : logErr l = 0) (ho : out 0 (l.length : Nat) [safe] = false) (hu : untoldTo l safe p q r 3 = false) : worldErr p q r l safe = 0 := by unfold worldErr; rw [if_pos h, ho, hu]; rfl
theorem open_any (p q r : Pg) (a : Option Addr) (len cap : Nat) (l : List Rc) (safe : Int) (w : World) (h : Recs w a len l) (hnil : a = none → cap = 0) (hm : len ≤ maxLen) :
  Calls Tryz.prog 114 #[wdVal p q r (.slice a len cap) safe] w fun e w' => ∃ v, e = .returned (.tuple #[v, .int .i64 (worldErr p q r l safe)]) ∧ Ext w w' ∧
   ((worldErr p q r l safe = 0 ∧ ∃ db pb mt mh tx ho lv, v = .pointer (some ⟨db, 0, none⟩) ∧ DeskOk w' w.heap.size db pb mt mh l tx ho p q r lv safe) ∨ (worldErr p q r l safe ≠ 0 ∧ v = .pointer none)) := by
 have E0 := (Ext.refl w).alloc (.cells (wdCells p q r (.slice a len cap) safe) 38)
 have B0 := Blk.new w w.heap.size (wdCells p q r (.slice a len cap) safe) 38 rfl
 have H := read_any a len cap l (w.alloc (.cells (wdCells p q r (.slice a len cap) safe) 38)) (h.ext E0) hm
 have hlen := h.len
 have X1 : Hid (logErr l ≠ 0 → worldErr p q r l safe = logErr l) := worldErr_log
 have X2 : Hid (logErr l = 0 → out 0 (len : Nat) [safe] = true → worldErr p q r l safe = 3) := fun h0 ho => worldErr_safe h0 (by rw [hlen]; exact ho)
 have X3 : Hid (logErr l = 0 → out 0 (len : Nat) [safe] = false → untoldTo l safe p q r 3 = true → worldErr p q r l safe = 1) := fun h0 ho hu => worldErr_disk h0 (by rw [hlen]; exact ho) hu
 have X4 : Hid (logErr l = 0 → out 0 (len : Nat) [safe] = false → untoldTo l safe p q r 3 = false → worldErr p q r l safe = 0) := fun h0 ho hu => worldErr_none h0 (by rw [hlen]; exact ho) hu
 have HLog : Hid (logErr l = 0 → len ≤ 60 ∧ logErr l = 0) := fun h0 => ⟨by have := (logErr_zero h0).1; omega, h0⟩
 generalize worldErr p q r l safe = we at *
 generalize hx : logErr l = x at H X1 X2 X3 X4 HLog
 have HX := (show Hid (logErr l = x) from hx)
 clear hx
 go_enter Tryz.func114, Tryz.ntmps114
 go_wp2_with fail
 refine H.mono ?_
 rintro e w1 ⟨v1, rfl, hE1, ⟨h0, pb, mt, mh, tx, ho, rfl, hB⟩ | ⟨h0, rfl⟩⟩
 ·subst h0
  obtain ⟨hl60, _⟩ := HLog.out rfl
  have B1 := B0.ext hE1
  have E1 := E0.trans hE1
  have hB' : BookOk w1 w.heap.size pb mt mh l tx ho := hB.low (by simp)
  clear H X1 HLog hE1 B0 E0 hB
  have b1 := B1.cell
  have S2 := B1.alloc (.cells #[.int .i64 safe] 3)
  have E2 := E1.alloc (.cells #[.int .i64 safe] 3)
  go_wp2_with fail
  refine (outside_n 1 0 (len : Nat) _ 0 1 [safe] _ rfl (by decide) (cells1 (by simp [go_sem]))).mono ?_
  rintro e w2 ⟨rfl, rfl⟩
  have hB2 := hB'.ext ((Ext.refl w1).alloc (.cells #[.int .i64 safe] 3))
  clear b1 B1 E1 hB'
  cases hout : out 0 (len : Nat) [safe]
  ·have HO := (show Hid (out 0 (len : Nat) [safe] = false) from hout)
   have hsafe := (out1_false hout).2
   clear X2 hout
   generalize w1.alloc (.cells #[.int .i64 safe] 3) = W at *
   go_wp2_with fail
   have F0 := (Ext.refl W).drew
   refine wp_region_held_drew (S := fun w' => ∀ o, w'.cell? ⟨w.heap.size, o, none⟩ = (wdCells p q r (.slice a len cap) safe)[o]?) (by kernel_rfl) (S2.ext F0).cell (fun hHeld => ?_)
   refine tkn 0 rfl hHeld ?_
   simp only [Act.put]
   refine tkn 1 rfl hHeld ?_
   simp only [Act.put]
   refine tkn 2 rfl hHeld ?_
   simp only [Act.put]
   refine tkn 3 rfl hHeld ?_
   simp only [Act.put]
   refine tkn 4 rfl hHeld ?_
   simp only [Act.put]
   refine tkn 6 rfl hHeld ?_
   simp only [Act.put]
   refine tkn 7 rfl hHeld ?_
   simp only [Act.put]
   refine exn 5 rfl fun K hK => ?_
   go_simp
   refine (clone_any a len cap l _ (h.ext (E2.trans F0)) hnil hl60).mono ?_
   rintro e v2 ⟨lv, rfl, hown, hw⟩
   have F1 := F0.trans hw
   have hown2 : v2.ownsRow W.heap.size 81 8 lv l.length (flat l) := hown
   clear hown hw
   obtain ⟨la, lcap, rfl, hrl, hlc, hln⟩ := recs_own' hown2
   rw [hlen] at hrl hlc ⊢
   go_wp2_with fail
   clear hHeld
   refine hK.out _ _ (S2.ext F1).cell (fun hHeld => ?_)
   clear hK K
   refine tkn 8 rfl hHeld ?_
   simp only [Act.put]
   refine exn 9 rfl fun K hK => ?_
   go_simp
   have D3 := Blk.new v2 v2.heap.size (dkCells pb p q r (.slice la len lcap) safe) 130 rfl
   have F2 := F1.alloc (.cells (dkCells pb p q r (.slice la len lcap) safe) 130)
   have hx3 := (Ext.refl v2).alloc (.cells (dkCells pb p q r (.slice la len lcap) safe) 130)
   have hown3 := own_ext hown2 hx3
   have hrl3 := hrl.ext hx3
   have hdb : w.heap.size ≤ v2.heap.size := Nat.le_trans E2.size F1.size
   clear hHeld
   refine hK.out _ _ (S2.ext F2).cell (fun hHeld => ?_)
   clear hK K
   refine tkn 10 rfl hHeld ?_
   simp only [Act.put]
   refine wpAnyH_done (by kernel_rfl) ?_ _
   clear hHeld
   have hB3 := hB2.ext F2
   have E3 := E2.trans F2
   have HFree : Hid (∀ g, (Value.slice la len lcap).ownBlock = some g → ∀ t ∈ tx, t.sv.ownBlock ≠ some g) := fun g hg t ht e => by
    have h1 := own_lt (hB2.own t ht) g e
    have h2 := own_from hown2 g (by rw [hlen]; exact hg)
    omega
   have hown4 := own_base hown3 E2.size
   generalize v2.alloc (.cells (dkCells pb p q r (.slice la len lcap) safe) 130) = V at *
   generalize v2.heap.size = db at *
   clear F0 F1 F2 E2 hB2 S2 hown2 hown3 hrl hx3
   go_wp2_with fail
   go_loopw [34] (fun i wr => ∃ k : Nat, k ≤ 3 ∧ i = .int .i64 k ∧ Ext V wr ∧ untoldTo l safe p q r k = false) (fun i _ => 3 - (intOf i).toNat)
   case atStart => exact ⟨0, by omega, rfl, Ext.refl _, rfl⟩
   case round =>
    obtain ⟨k, hk, rfl, hE, hu⟩ := hrel
    have HU := (show Hid (untoldTo l safe p q r k = false) from hu)
    clear hu
    have E4 := E3.trans hE
    have hkc : k = 0 ∨ k = 1 ∨ k = 2 ∨ k = 3 := by omega
    rcases hkc with rfl | rfl | rfl | rfl
    ·have HN : Hid (untoldTo l safe p q r (0 + 1) = (untoldTo l safe p q r 0 || untoldB l safe 0 p)) := rfl
     go_wp2_with fail
     refine (untold_0 db pb p q r la len lcap l safe _ (D3.ext hE) (hrl3.ext hE) hlc HX.out hsafe).mono ?_
     rintro e w5 ⟨rfl, hw5⟩
     have hE5 := hE.trans hw5
     cases hb : untoldB l safe 0 p
     ·have HB := (show Hid (untoldB l safe 0 p = false) from hb)
      go_wp2_with fail
      go_roundw
      case rel => exact ⟨0 + 1, by omega, by go_num, hE5, by rw [HN.out, HU.out, HB.out]; rfl⟩
      case measure => simp [intOf]
     ·have HB := (show Hid (untoldB l safe 0 p = true) from hb)
      have hwe := X3.out (by trivial) HO.out (by have := untoldTo_mono (k := 0 + 1) (by rw [HN.out, HB.out]; exact Bool.or_true _) 2; exact this)
      subst hwe
      go_wp2_with fail
      go_ret2
      exact ⟨_, rfl, E4.trans hw5, Or.inr ⟨by decide, rfl⟩⟩
    ·have HN : Hid (untoldTo l safe p q r (1 + 1) = (untoldTo l safe p q r 1 || untoldB l safe 1 q)) := rfl
     go_wp2_with fail
     refine (untold_1 db pb p q r la len lcap l safe _ (D3.ext hE) (hrl3.ext hE) hlc HX.out hsafe).mono ?_
     rintro e w5 ⟨rfl, hw5⟩
     have hE5 := hE.trans hw5
     cases hb : untoldB l safe 1 q
     ·have HB := (show Hid (untoldB l safe 1 q = false) from hb)
      go_wp2_with fail
      go_roundw
      case rel => exact ⟨1 + 1, by omega, by go_num, hE5, by rw [HN.out, HU.out, HB.out]; rfl⟩
      case measure => simp [intOf]
     ·have HB := (show Hid (untoldB l safe 1 q = true) from hb)
      have hwe := X3.out (by trivial) HO.out (by have := untoldTo_mono (k := 1 + 1) (by rw [HN.out, HB.out]; exact Bool.or_true _) 1; exact this)
      subst hwe
      go_wp2_with fail
      go_ret2
      exact ⟨_, rfl, E4.trans hw5, Or.inr ⟨by decide, rfl⟩⟩
    ·have HN : Hid (untoldTo l safe p q r (2 + 1) = (untoldTo l safe p q r 2 || untoldB l safe 2 r)) := rfl
     go_wp2_with fail
     refine (untold_2 db pb p q r la len lcap l safe _ (D3.ext hE) (hrl3.ext hE) hlc HX.out hsafe).mono ?_
     rintro e w5 ⟨rfl, hw5⟩
     have hE5 := hE.trans hw5
     cases hb : untoldB l safe 2 r
     ·have HB := (show Hid (untoldB l safe 2 r = false) from hb)
      go_wp2_with fail
      go_roundw
      case rel => exact ⟨2 + 1, by omega, by go_num, hE5, by rw [HN.out, HU.out, HB.out]; rfl⟩
      case measure => simp [intOf]
     ·have HB := (show Hid (untoldB l safe 2 r = true) from hb)
      have hwe := X3.out (by trivial) HO.out (by have := untoldTo_mono (k := 2 + 1) (by rw [HN.out, HB.out]; exact Bool.or_true _) 0; exact this)
      subst hwe
      go_wp2_with fail
      go_ret2
      exact ⟨_, rfl, E4.trans hw5, Or.inr ⟨by decide, rfl⟩⟩
    ·have hwe := X4.out (by trivial) HO.out HU.out
     subst hwe
     go_wp2_with fail
     go_ret2
     exact ⟨_, rfl, E4, db, rfl, pb, mt, mh, tx, ho, .slice la len lcap, ⟨D3.ext hE, hB3.ext hE, own_ext (by rw [hlen] at hown4 ⊢; exact hown4) hE, hdb, HFree.out⟩⟩
  ·have HO := (show Hid (out 0 (len : Nat) [safe] = true) from hout)
   have hwe := X2.out (by trivial) HO.out
   subst hwe
   go_wp2_with fail
   go_ret2
   exact ⟨_, rfl, E2, Or.inr ⟨by decide, rfl⟩⟩
 ·have hb : (x != 0) = true := by simpa using h0
  have hwe := X1.out h0
  subst hwe
  go_wp2_with fail
  go_ret2
  exact ⟨_, rfl, E0.trans hE1, Or.inr ⟨h0, rfl⟩⟩
end Go.Proofs.YtibfgbmhmdggmaaGreatDoor.B
