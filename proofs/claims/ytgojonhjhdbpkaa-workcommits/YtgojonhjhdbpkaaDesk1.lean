/- Worlds, as plain data; the desk in memory; the contracts of slices.Clone, and of the desk's pageBehind and untold. -/
import Derived.Test.YtgojonhjhdbpkaaBook14
import Derived.Test.YtgojonhjhdbpkaaLine
import Derived.Test.YtgojonhjhdbpkaaChain2
import Derived.Lib.SliceRun
namespace Go.Proofs.Ytgojonhjhdbpkaa.B
set_option maxRecDepth 100000
open Go.ChangeShapes Go.WideShapes Go.ChangeAt Go.RowKit

/-- One of three pages. -/
def selPg (p q r : Pg) : Nat → Pg
  | 0 => p
  | 1 => q
  | _ => r
/-- One page of twelve numbers. -/
def pgAt (ps : List Int) (i : Nat) : Pg := ⟨ps.getD (i * 4) 0, ps.getD (i * 4 + 1) 0, ps.getD (i * 4 + 2) 0, ps.getD (i * 4 + 3) 0⟩
/-- Is that page not what the safe log tells of it? -/
def untoldB (l : List Rc) (safe : Int) (i : Nat) (d : Pg) : Bool := out 0 safe [d.last] || !eqPg d (pgAt (pagesR (l.take d.last.toNat)) i)
/-- Is one of the first k pages not? -/
def untoldTo (l : List Rc) (safe : Int) (p q r : Pg) : Nat → Bool
  | 0 => false
  | k + 1 => untoldTo l safe p q r k || untoldB l safe k (selPg p q r k)
/-- The document's error of a world. -/
def worldErr (p q r : Pg) (l : List Rc) (safe : Int) : Int := if logErr l = 0 then (if out 0 (l.length : Nat) [safe] then 3 else if untoldTo l safe p q r 3 then 1 else 0) else logErr l
theorem untoldTo_mono {l : List Rc} {safe : Int} {p q r : Pg} {k : Nat} (h : untoldTo l safe p q r k = true) : ∀ i, untoldTo l safe p q r (k + i) = true := by
  intro i
  induction i with
  | zero => exact h
  | succ i ih => show (untoldTo l safe p q r (k + i) || _) = true; rw [ih]; rfl
abbrev wdVal (p q r : Pg) (lv : Value) (safe : Int) : Value := .agg #[.int .i64 p.c0, .int .i64 p.c1, .int .i64 p.c2, .int .i64 p.last, .int .i64 q.c0, .int .i64 q.c1, .int .i64 q.c2, .int .i64 q.last, .int .i64 r.c0, .int .i64 r.c1, .int .i64 r.c2, .int .i64 r.last, lv, .int .i64 safe]
abbrev wdCells (p q r : Pg) (lv : Value) (safe : Int) : Array Value := #[.int .i64 p.c0, .int .i64 p.c1, .int .i64 p.c2, .int .i64 p.last, .int .i64 q.c0, .int .i64 q.c1, .int .i64 q.c2, .int .i64 q.last, .int .i64 r.c0, .int .i64 r.c1, .int .i64 r.c2, .int .i64 r.last, lv, .int .i64 safe]
abbrev dkCells (pb : Nat) (p q r : Pg) (lv : Value) (safe : Int) : Array Value := #[.pointer (some ⟨pb, 0, none⟩), .int .i64 p.c0, .int .i64 p.c1, .int .i64 p.c2, .int .i64 p.last, .int .i64 q.c0, .int .i64 q.c1, .int .i64 q.c2, .int .i64 q.last, .int .i64 r.c0, .int .i64 r.c1, .int .i64 r.c2, .int .i64 r.last, lv, .int .i64 safe]
abbrev Pg.cs (p : Pg) : Array Value := #[.int .i64 p.c0, .int .i64 p.c1, .int .i64 p.c2, .int .i64 p.last]
/-- The desk of a right world, as it lies in memory from block base on. -/
structure DeskOk (w : World) (base db pb mt mh : Nat) (l : List Rc) (tx : List TxE) (ho : List HE) (p q r : Pg) (lv : Value) (safe : Int) : Prop where
  blk : Blk w db (dkCells pb p q r lv safe) 84
  book : BookOk w base pb mt mh l tx ho
  own : w.ownsRow base 39 8 lv l.length (flat l)
  ge : base ≤ db
  free : ∀ g, lv.ownBlock = some g → ∀ t ∈ tx, t.sv.ownBlock ≠ some g
theorem DeskOk.ext {w w' : World} {base db pb mt mh : Nat} {l : List Rc} {tx : List TxE} {ho : List HE} {p q r : Pg} {lv : Value} {safe : Int} (h : DeskOk w base db pb mt mh l tx ho p q r lv safe) (e : Ext w w') : DeskOk w' base db pb mt mh l tx ho p q r lv safe :=
  ⟨h.blk.ext e, h.book.ext e, own_ext h.own e, h.ge, h.free⟩
theorem recs_own' {w : World} {base : Nat} {v : Value} {st : List Rc} (h : w.ownsRow base 39 8 v st.length (flat st)) : ∃ a cap, v = .slice a st.length cap ∧ Recs w a st.length st ∧ st.length ≤ cap ∧ (a = none → cap = 0) := by
  rcases h.2 with ⟨rfl, h0⟩ | ⟨g, cap, cur, rfl, hg, hb, hc, hm, hs, ht⟩
  · exact ⟨none, 0, by rw [h0], ⟨rfl, Or.inl ⟨rfl, h0⟩⟩, by omega, fun _ => rfl⟩
  · refine ⟨_, _, rfl, ⟨rfl, Or.inr ⟨g, 0, rfl, fun i hi => ?_⟩⟩, by omega, fun h => by cases h⟩
    rw [Nat.zero_add]
    exact own_rec hb ht i hi
/-- The cells of records, one by one. -/
theorem recs_cells {w : World} {b off len : Nat} {l : List Rc} (h : Recs w (some ⟨b, off, none⟩) len l) : ∀ (j : Nat) (u : Value), (flat l)[j]? = some u → w.cell? ((⟨b, off, none⟩ : Addr).add j) = some u := by
  intro j u hj
  have hlt : j < l.length * 8 := by
    have := (List.getElem?_eq_some_iff.1 hj).1
    rw [flat_len] at this; exact this
  have hi : j / 8 < l.length := by omega
  obtain ⟨b', off', e, hl, hr⟩ := h.at (k := j / 8) (by rw [← h.len]; exact hi)
  simp only [Option.some.injEq, Addr.mk.injEq, and_true] at e
  obtain ⟨rfl, rfl⟩ := e
  have hf := flat_get l (j / 8) (j % 8) hi (by omega)
  rw [show j / 8 * 8 + j % 8 = j from by omega] at hf
  rw [hf] at hj
  rw [Addr.add_lit, show off + j = off + j / 8 * 8 + j % 8 from by omega]
  obtain ⟨c0, c1, c2, c3, c4, c5, c6, c7⟩ := hr
  have h8 : j % 8 = 0 ∨ j % 8 = 1 ∨ j % 8 = 2 ∨ j % 8 = 3 ∨ j % 8 = 4 ∨ j % 8 = 5 ∨ j % 8 = 6 ∨ j % 8 = 7 := by omega
  rcases h8 with e | e | e | e | e | e | e | e <;> rw [e] at hj ⊢ <;> simp at hj <;> subst hj <;> assumption
theorem flat_one (l : List Rc) : ∀ u ∈ flat l, u.oneCell' = true := by
  intro u hu
  unfold flat at hu
  obtain ⟨r, _, hr⟩ := List.mem_flatMap.1 hu
  exact cs_oneCell r u hr
set_option maxHeartbeats 400000 in
theorem clone_any (a : Option Addr) (len cap : Nat) (l : List Rc) (w : World) (h : Recs w a len l) (hnil : a = none → cap = 0) (hl : len ≤ 60) :
    Calls Try.prog 75 #[.slice a len cap] w fun e w' => ∃ v, e = .returned v ∧ w'.ownsRow w.heap.size 39 8 v l.length (flat l) ∧ Ext w w' := by
  obtain ⟨i0, hi, hz0, hz1, hz2⟩ := info_parts infoRec
  have HI := (show Hid _ from hi)
  have Z0 := (show Hid _ from hz0)
  have Z1 := (show Hid _ from hz1)
  have Z2 := (show Hid _ from hz2)
  clear hi hz0 hz1 hz2
  cases a with
  | none =>
    obtain rfl := hnil rfl
    have hl0 : len = 0 := by
      rcases h.2 with ⟨_, h0⟩ | ⟨b, off, e, _⟩
      · exact h0
      · cases e
    subst hl0
    have hl1 : Hid (l = []) := List.length_eq_zero_iff.1 h.len
    have hn := fun w => Lib.run_eql_slice_nil (P := Try.prog) w 22 39 none 0 0 0 0 Try.underlying22
    simp only [Option.isNone_none] at hn
    go_enter Try.func75, Try.ntmps75
    go_wp2_with fail
    go_ret
    exact ⟨_, rfl, by rw [hl1.out]; exact ⟨rfl, Or.inl ⟨rfl, rfl⟩⟩, Ext.refl w⟩
  | some ad =>
    obtain ⟨b, off, rfl⟩ : ∃ b off, ad = ⟨b, off, none⟩ := by
      rcases h.2 with ⟨e, _⟩ | ⟨b, off, e, _⟩
      · cases e
      · injection e with e; exact ⟨b, off, e⟩
    have hll := h.len
    have hN : (w.alloc (.cells #[] 39)).ownsRow w.heap.size 39 8 (.slice (some ⟨w.heap.size, 0, none⟩) 0 0) 0 [] := ⟨rfl, Or.inr ⟨w.heap.size, 0, #[], rfl, Nat.le_refl _, by unfold World.alloc; simp, Nat.le_refl _, Nat.zero_le _, rfl, rfl⟩⟩
    have hE := (Ext.refl w).alloc (.cells #[] 39)
    have hcl := recs_cells (h.ext hE)
    have HLen : Hid ((flat l).length = len * 8) := by rw [Hid, flat_len, hll]
    have hn := fun w => Lib.run_eql_slice_nil (P := Try.prog) w 22 39 (some ⟨b, off, none⟩) len cap 0 0 Try.underlying22
    simp only [Option.isNone_some] at hn
    go_enter Try.func75, Try.ntmps75
    go_wp2_with (at_builtin; refine wpList_append_own _ rfl _ _ 22 rfl w.heap.size 39 i0 (.agg #[.int .i64 0, .int .i64 0, .int .i64 0, .int .i64 0, .int .i64 0, .int .i64 0, .int .i64 0, .int .i64 0]) 8 64 Try.underlying22 HI.out Z0.out Z1.out Z2.out rfl (by decide) (.slice (some ⟨w.heap.size, 0, none⟩) 0 0) 0 [] rfl hN ⟨b, off, none⟩ len cap (flat l) rfl HLen.out hcl (flat_one l) (by unfold maxLen; omega) (by omega) (by simp) ?_; intro v' w3 hown' hgrow hnil3)
    have hE3 : Ext w w3 := hE.grown hN hgrow
    go_ret
    rw [Nat.zero_add, List.nil_append, ← hll] at hown'
    exact ⟨_, rfl, hown', hE3⟩
theorem neq_page (p q : Pg) : ∀ w, (binOp .neq 29 p.val q.val).run Try.prog w = .ok (.bool (!eqPg p q)) w := by
  intro w; rw [run_neq_struct]; rw [show (10000 : Nat) = 9997 + 3 from rfl, eq_page 9997 w p q]; rfl
set_option maxHeartbeats 1000000 in
theorem pageBehind_any (db pb : Nat) (p q r : Pg) (a : Option Addr) (len cap : Nat) (l : List Rc) (safe : Int) (i n : Nat) (w : World) (D : Blk w db (dkCells pb p q r (.slice a len cap) safe) 84) (h : Recs w a len l) (hcap : len ≤ cap) (hR : logErr l = 0) (hi : i < 3) (hn : n ≤ len) :
    Calls Try.prog 89 #[.pointer (some ⟨db, 0, none⟩), .int .i64 i, .int .i64 n] w fun e w' => e = .returned (pgAt (pagesR (l.take n)) i).val ∧ Ext w w' := by
  have hz := logErr_pre hR n
  have h60 := (logErr_zero hR).1
  have hlen := h.len
  have H := fun w' (e : Ext w w') => logPages_any a n cap (l.take n) w' ((h.ext e).take n hn) (by unfold maxLen; omega)
  rw [hz, show pagesOrNone (l.take n) = pagesR (l.take n) from by unfold pagesOrNone; rw [if_pos hz]] at H
  obtain ⟨a0, a1, a2, a3, a4, a5, a6, a7, a8, a9, a10, a11, hps⟩ := list12 _ (pagesR_len (l.take n))
  rw [hps] at H
  have HP : Hid (pagesR (l.take n) = [a0, a1, a2, a3, a4, a5, a6, a7, a8, a9, a10, a11]) := hps
  clear hps hz hR
  rw [show ints [a0, a1, a2, a3, a4, a5, a6, a7, a8, a9, a10, a11] = #[.int .i64 a0, .int .i64 a1, .int .i64 a2, .int .i64 a3, .int .i64 a4, .int .i64 a5, .int .i64 a6, .int .i64 a7, .int .i64 a8, .int .i64 a9, .int .i64 a10, .int .i64 a11] from rfl] at H
  have D1 := D.alloc (.cells #[.int .i64 0, .int .i64 0, .int .i64 0, .int .i64 0] 29)
  have E1 := (Ext.refl w).alloc (.cells #[.int .i64 0, .int .i64 0, .int .i64 0, .int .i64 0] 29)
  have c1 := D1.cell
  have hnc : n ≤ cap := by omega
  have R0 := Blk.new w w.heap.size #[.int .i64 0, .int .i64 0, .int .i64 0, .int .i64 0] 29 rfl
  generalize pagesR (l.take n) = ps at *
  have hdl := D.lt
  go_enter Try.func89, Try.ntmps89
  go_wp2_with fail
  refine (H _ E1).mono ?_
  rintro e w1 ⟨rfl, hw⟩
  have E2 := E1.trans hw
  have R1 := (R0.ext hw).alloc (.cells #[.int .i64 a0, .int .i64 a1, .int .i64 a2, .int .i64 a3, .int .i64 a4, .int .i64 a5, .int .i64 a6, .int .i64 a7, .int .i64 a8, .int .i64 a9, .int .i64 a10, .int .i64 a11] 30)
  have P1 := Blk.new w1 w1.heap.size #[.int .i64 a0, .int .i64 a1, .int .i64 a2, .int .i64 a3, .int .i64 a4, .int .i64 a5, .int .i64 a6, .int .i64 a7, .int .i64 a8, .int .i64 a9, .int .i64 a10, .int .i64 a11] 30 rfl
  have hsz := E2.size
  have hr1 := R0.lt
  simp at hr1
  have E3 := E2.alloc (.cells #[.int .i64 a0, .int .i64 a1, .int .i64 a2, .int .i64 a3, .int .i64 a4, .int .i64 a5, .int .i64 a6, .int .i64 a7, .int .i64 a8, .int .i64 a9, .int .i64 a10, .int .i64 a11] 30)
  have hne : w.heap.size ≠ w1.heap.size := by have := (R0.ext hw).lt; omega
  clear R0 E1 E2 hw c1 D1 D H
  have hi3 : i = 0 ∨ i = 1 ∨ i = 2 := by omega
  have rc := R1.cell
  have rf := R1.fr
  have pc := P1.cell
  rcases hi3 with rfl | rfl | rfl
  · go_wp2_with fail
    refine bodyPost_ret (v := .agg #[.int .i64 a0, .int .i64 a1, .int .i64 a2, .int .i64 a3]) (by simp [results, Try.results89, go_sem, rc]) rfl ⟨by rw [HP.out]; rfl, ?_⟩
    exact ((((E3.setCell (by simp) _).setCell (by simp) _).setCell (by simp) _).setCell (by simp) _)
  · go_wp2_with fail
    refine bodyPost_ret (v := .agg #[.int .i64 a4, .int .i64 a5, .int .i64 a6, .int .i64 a7]) (by simp [results, Try.results89, go_sem, rc]) rfl ⟨by rw [HP.out]; rfl, ?_⟩
    exact ((((E3.setCell (by simp) _).setCell (by simp) _).setCell (by simp) _).setCell (by simp) _)
  · go_wp2_with fail
    refine bodyPost_ret (v := .agg #[.int .i64 a8, .int .i64 a9, .int .i64 a10, .int .i64 a11]) (by simp [results, Try.results89, go_sem, rc]) rfl ⟨by rw [HP.out]; rfl, ?_⟩
    exact ((((E3.setCell (by simp) _).setCell (by simp) _).setCell (by simp) _).setCell (by simp) _)
set_option maxHeartbeats 1000000 in
theorem untold1 (db pb bd bp : Nat) (p q r d : Pg) (lv : Value) (safe : Int) (w : World) (D : Blk w db (dkCells pb p q r lv safe) 84) (B : Blk w bd #[.pointer (some ⟨db, 0, none⟩)] 80) (P : Blk w bp d.cs 29) :
    Calls Try.prog 87 #[.pointer (some ⟨bd, 0, none⟩), .pointer (some ⟨bp, 0, none⟩)] w fun e w' => e = .returned (.bool (out 0 safe [d.last])) ∧ Ext w w' := by
  go_enter Try.func87, Try.ntmps87
  go_wp2_with fail
  obtain ⟨F, hF⟩ := calm_there w
  have KC : Hid (∀ w', Ext w w' → ∃ v, w' = F v) := fun w' e => ⟨w', (hF.same w' e).symm⟩
  have dc := hF.cell D
  have bc := hF.cell B
  have pc := hF.cell P
  refine wp_region_line (S := fun w' => ∃ v, w' = F v) [6, 0] (by kernel_rfl) (by kernel_rfl) (fun c a d v w h => by cases d <;> exact h) (by kernel_rfl) (KC.out _ (Ext.refl w).drew) ?_
  simp only [cutL, List.drop_succ_cons, List.drop_zero, List.take_succ_cons, List.take_zero]
  have F0 := (Ext.refl w).drew
  refine wpLine_cons ?_
  repeat (go_big_quiet_step (fail))
  refine wpQuiet_nil ?_
  intro K hK
  rw [if_pos (by kernel_rfl)]
  go_simp
  have F1 := F0.alloc (.cells #[.int .i64 d.last] 3)
  refine hK.out _ _ (KC.out _ F1) (fun _ => ?_)
  clear hK K
  refine wpLine_cons ?_
  repeat (go_big_quiet_step (fail))
  refine wpQuiet_nil ?_
  intro K hK
  rw [if_pos (by kernel_rfl)]
  go_simp
  refine (outside_n 1 0 safe _ 0 1 [d.last] _ rfl (by decide) (cells1 (by simp [go_sem]))).mono ?_
  rintro e w2 ⟨rfl, rfl⟩
  go_wp2_with fail
  refine hK.out _ _ (KC.out _ F1) (fun _ => ?_)
  clear hK K
  refine wpLine_nil ?_
  repeat (go_big_quiet_step (fail))
  refine wpQuiet_nil ?_
  go_wp2_with fail
  go_ret
  exact ⟨rfl, F1⟩
theorem untold1_ans (db pb bd bp : Nat) (p q r d : Pg) (lv : Value) (safe : Int) (w : World) (D : Blk w db (dkCells pb p q r lv safe) 84) (B : Blk w bd #[.pointer (some ⟨db, 0, none⟩)] 80) (P : Blk w bp d.cs 29) :
    Ans 87 #[.pointer (some ⟨bd, 0, none⟩), .pointer (some ⟨bp, 0, none⟩)] w (out 0 safe [d.last]) :=
  ⟨fun w => callFunc_enter _ w Try.func87 (by kernel_rfl) (by kernel_rfl), fun w' e => untold1 db pb bd bp p q r d lv safe w' (D.ext e) (B.ext e) (P.ext e)⟩
set_option maxHeartbeats 1000000 in
theorem untold2 (db pb bd bp bi : Nat) (p q r d : Pg) (a : Option Addr) (len cap : Nat) (l : List Rc) (safe : Int) (i : Nat) (w : World) (D : Blk w db (dkCells pb p q r (.slice a len cap) safe) 84) (B : Blk w bd #[.pointer (some ⟨db, 0, none⟩)] 80) (P : Blk w bp d.cs 29)
    (I : Blk w bi #[.int .i64 i] 3) (h : Recs w a len l) (hcap : len ≤ cap) (hR : logErr l = 0) (hi : i < 3) (h0 : 0 ≤ d.last) (hn : d.last ≤ len) :
    Calls Try.prog 88 #[.pointer (some ⟨bp, 0, none⟩), .pointer (some ⟨bd, 0, none⟩), .pointer (some ⟨bi, 0, none⟩)] w fun e w' => e = .returned (.bool (!eqPg d (pgAt (pagesR (l.take d.last.toNat)) i))) ∧ Ext w w' := by
  obtain ⟨c0, c1, c2, last⟩ := d
  dsimp only at h0 hn ⊢
  obtain ⟨n, rfl⟩ : ∃ n : Nat, last = (n : Int) := ⟨last.toNat, by omega⟩
  have H := fun w' (e : Ext w w') => pageBehind_any db pb p q r a len cap l safe i n w' (D.ext e) (h.ext e) hcap hR hi (by omega)
  rw [Int.toNat_natCast]
  generalize pgAt (pagesR (l.take n)) i = g at *
  have e1 := neq_page ⟨c0, c1, c2, (n : Int)⟩ g
  go_enter Try.func88, Try.ntmps88
  go_wp2_with fail
  refine wp_region_calm (by kernel_rfl) (by kernel_rfl) (fun F hF => ?_)
  have d1 := hF.cell B
  have d2 := hF.cell P
  have d3 := hF.cell I
  have HC : Hid (∀ y, Calls Try.prog 89 #[.pointer (some ⟨db, 0, none⟩), .int .i64 i, .int .i64 n] (F y) fun e w' => e = .returned g.val ∧ Ext (F y) w') := fun y => H (F y) (hF.ext y)
  repeat (go_big_quiet_step ((go_at_call 89; exact hF.call (HC.out _))))
  refine wpQuiet_nil ?_
  rintro _ ⟨v, rfl⟩
  go_wp2_with fail
  go_ret
  exact ⟨rfl, hF.ext v⟩
theorem untold2_ans (db pb bd bp bi : Nat) (p q r d : Pg) (a : Option Addr) (len cap : Nat) (l : List Rc) (safe : Int) (i : Nat) (w : World) (D : Blk w db (dkCells pb p q r (.slice a len cap) safe) 84) (B : Blk w bd #[.pointer (some ⟨db, 0, none⟩)] 80) (P : Blk w bp d.cs 29)
    (I : Blk w bi #[.int .i64 i] 3) (h : Recs w a len l) (hcap : len ≤ cap) (hR : logErr l = 0) (hi : i < 3) (h0 : 0 ≤ d.last) (hn : d.last ≤ len) :
    Ans 88 #[.pointer (some ⟨bp, 0, none⟩), .pointer (some ⟨bd, 0, none⟩), .pointer (some ⟨bi, 0, none⟩)] w (!eqPg d (pgAt (pagesR (l.take d.last.toNat)) i)) :=
  ⟨fun w => callFunc_enter _ w Try.func88 (by kernel_rfl) (by kernel_rfl), fun w' e => untold2 db pb bd bp bi p q r d a len cap l safe i w' (D.ext e) (B.ext e) (P.ext e) (I.ext e) (h.ext e) hcap hR hi h0 hn⟩
end Go.Proofs.Ytgojonhjhdbpkaa.B
