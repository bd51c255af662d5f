/- The drawn region of MendOften's loop, in three theorems. -/
import Derived.Test.YtlpodahldpaniaaMend2
import Derived.Test.YtlpodahldpaniaaAnsB
import Derived.Test.YtlpodahldpaniaaChoose
namespace Go.Proofs.Ytlpodahldpaniaa.B
set_option maxRecDepth 100000
open Go.ChangeShapes Go.WideShapes Go.ChangeAt Go.RowKit

/-- A region of a function's code, taken out of the translation. -/
def findReg (n : Nat) : Code → Option Code
  | .region i ops d => if i = n then some (.region i ops d) else none
  | .seq a b => match findReg n a with
    | some c => some c
    | none => findReg n b
  | .block _ c => findReg n c
  | .loop c => findReg n c
  | .scope c => findReg n c
  | .cond _ a b => match findReg n a with
    | some c => some c
    | none => findReg n b
  | _ => none
def opsIn : Code → Array Oper
  | .region _ ops _ => ops
  | _ => #[]
noncomputable def oftenReg : Code := (Try.f8.body.bind (findReg 9)).getD .skip
noncomputable def oftenOps : Array Oper := opsIn oftenReg
theorem LogIn.gr2 {row : Option Nat} {w w' : World} {a : Option Addr} {len cap : Nat} {l : List Rc} (h : LogIn w a len cap l) (g : Gr row w w') (hn : ∀ ad, a = some ad → l ≠ [] → some ad.block ≠ row) : LogIn w' a len cap l := by
  by_cases hl : l = []
  · subst hl
    refine ⟨⟨h.recs.1, ?_⟩, h.le, h.max, h.nil⟩
    rcases h.recs.2 with h0 | ⟨b, off, rfl, _⟩
    · exact Or.inl h0
    · exact Or.inr ⟨b, off, rfl, fun i hi => absurd hi (Nat.not_lt_zero i)⟩
  · exact h.gr g (fun ad e => hn ad e hl)
theorem LogIn.lt {w : World} {a : Option Addr} {len cap : Nat} {l : List Rc} (h : LogIn w a len cap l) : ∀ ad, a = some ad → l ≠ [] → ad.block < w.heap.size := by
  intro ad e hl
  rcases h.recs.2 with ⟨h0, _⟩ | ⟨b, off, e2, hc⟩
  · rw [h0] at e; cases e
  · rw [e] at e2
    injection e2 with e2
    subst e2
    have := hc 0 (by cases l; exact absurd rfl hl; simp)
    exact cell_lt this.1
/-- A right world that comes, when it is mended, to the log m. -/
structure Comes (p q r : Pg) (l : List Rc) (safe : Int) (m : List Rc) : Prop where
  right : worldErr p q r l safe = 0
  room : mendErr (l.take safe.toNat) = 0
  same : mendR (l.take safe.toNat) = m
theorem Comes.half {p q r : Pg} {l : List Rc} {safe : Int} {m : List Rc} (h : Comes p q r l safe m) (n : Nat) (b0 b1 b2 : Bool) :
    errOf (worldErr p q r l safe) (halfX (n : Nat) 3 (l.take safe.toNat)) = 0 ∧ Comes (laidPg (mendN n (l.take safe.toNat)) b0 0 p) (laidPg (mendN n (l.take safe.toNat)) b1 1 q) (laidPg (mendN n (l.take safe.toNat)) b2 2 r) (mendN n (l.take safe.toNat)) ((mendN n (l.take safe.toNat)).length : Nat) m ∧ (mendN n (l.take safe.toNat)).length ≤ 60 := by
  obtain ⟨g1, g2, g3, g4, g5, g6⟩ := mend_half h.right h.room n b0 b1 b2
  refine ⟨?_, ⟨g1, by rw [g3]; exact g4, by rw [g3, g5]; exact h.same⟩, g2⟩
  rw [errOf_good h.right]
  have := mendErr_zero.1 h.room
  exact halfX_0 (by rw [Int.toNat_natCast]; exact (half_ok (by omega)).1) (by omega)
theorem Comes.all {p q r : Pg} {l : List Rc} {safe : Int} {m : List Rc} (h : Comes p q r l safe m) : errOf (worldErr p q r l safe) (mendErr (l.take safe.toNat)) = 0 := by rw [errOf_good h.right]; exact h.room
set_option maxRecDepth 1000000 in
set_option maxHeartbeats 32000000 in
theorem often_2 (K : Act → World → Prop) (Q0 : Exit → Act → World → Prop) (hQ0 : ∀ c (a : Act) d v w, Q0 (.panic c) (a.put d v) w → Q0 (.panic c) a w) (w3 : World) (P Q R P' Q' R' : Pg) (L m' : List Rc) (S s' sk : Int) (a' : Option Addr) (cap' by_ sb soff slen scap k cn ck : Nat) (c0 c2 c3 c4 c5 c6 c7 c8 c9 c14 c15 c16 c17 c18 c19 c20 c21 c22 c23 c24 c25 c26 c27 c28 c29 c30 c31 c32 c33 c34 c35 c36 c37 c38 c39 c40 c41 c42 c43 c44 c45 c46 c47 c48 c49 c50 c51 c53 c54 c55 c56 c58 c59 c60 c61 c62 c63 c64 c65 c66 c67 c68 c70 c71 c72 c73 c74 c75 c76 c77 c78 c79 c80 c81 c82 c83 c84 c85 c86 c87 c88 c89 c90 c91 : Value) (bt bz : Nat) (W : World) (hK : ∀ (s13 s14 u51 u52 u53 u54 u55 u56 u57 u58 u59 u60 u61 u62 u63 u64 u65 u66 u67 u68 u69 u70 u71 u72 : Value) (wx : World), (∃ (bz : Nat) (az : Option Addr) (cz : Nat), s13 = .pointer (some ⟨bz, 0, none⟩) ∧ s14 = .int .i64 0 ∧ Blk wx bz (wdCells P' Q' R' (.slice az m'.length cz) s') 28 ∧ LogIn wx az m'.length cz m' ∧ Ext w3 wx ∧ (∀ ad, az = some ad → w3.heap.size ≤ ad.block) ∧ w3.heap.size ≤ bz) → K ⟨#[c0, .slice (some ⟨sb, soff, none⟩) slen scap, c2, c3, c4, c5, c6, c7, c8, c9, .pointer (some ⟨by_, 0, none⟩), .int .i64 (k : Nat), .int .i64 (((cn : Nat) : Int) + ((k : Nat) : Int)), s13, s14, c15, c16, c17, c18, c19, c20, c21, c22, c23, c24, c25, c26, c27, c28, c29, c30, c31, c32, c33, c34, c35, c36, c37, c38, c39, c40, c41, c42, c43, c44, c45, c46, c47, c48, c49, c50, u51, u52, u53, u54, u55, u56, u57, u58, u59, u60, u61, u62, u63, u64, u65, u66, u67, u68, u69, u70, u71, u72, c73, c74, c75, c76, c77, c78, c79, c80, c81, c82, c83, c84, c85, c86, c87, c88, c89, c90, c91], []⟩ wx) (KC : ∀ W', Ext w3 W' → (∀ o, W'.cell? ⟨by_, o, none⟩ = (wdCells P Q R (.slice a' L.length cap') S)[o]?) ∧ W'.cell? ⟨sb, soff + k, none⟩ = some (.int .i64 sk)) (HHalf : ∀ W', Ext w3 W' → ∀ bt, Bools W' (some ⟨bt, 0, none⟩) 3 [((((cn : Nat) : Int) + ((k : Nat) : Int)).tmod 2 == 0), ((IntKind.i64.wrap ((((cn : Nat) : Int) + ((k : Nat) : Int)).tdiv 2)).tmod 2 == 0), ((IntKind.i64.wrap ((((cn : Nat) : Int) + ((k : Nat) : Int)).tdiv 4)).tmod 2 == 0)] → Calls Try.prog 25 #[wdVal P Q R (.slice a' L.length cap') S, .int .i64 (ck : Nat), .slice (some ⟨bt, 0, none⟩) 3 3] W' fun e w' => Ext W' w' ∧ ∃ a3 cap3, e = .returned (.tuple #[wdVal P' Q' R' (.slice a3 m'.length cap3) s', .int .i64 0]) ∧ LogIn w' a3 m'.length cap3 m' ∧ ∀ ad, a3 = some ad → W'.heap.size ≤ ad.block)
    (E : Ext w3 W) (Tb : Blk W bt #[.bool ((((cn : Nat) : Int) + ((k : Nat) : Int)).tmod 2 == 0), .bool ((IntKind.i64.wrap ((((cn : Nat) : Int) + ((k : Nat) : Int)).tdiv 2)).tmod 2 == 0), .bool ((IntKind.i64.wrap ((((cn : Nat) : Int) + ((k : Nat) : Int)).tdiv 4)).tmod 2 == 0)] 4) (Zb : Blk W bz #[.int .i64 0, .int .i64 0, .int .i64 0, .int .i64 0, .int .i64 0, .int .i64 0, .int .i64 0, .int .i64 0, .int .i64 0, .int .i64 0, .int .i64 0, .int .i64 0, .slice none 0 0, .int .i64 0] 28) (hbz : w3.heap.size ≤ bz) :
    wpAnyH Try.prog .any oftenOps (Exit.then K Q0) (fun W' => (∀ o, W'.cell? ⟨by_, o, none⟩ = (wdCells P Q R (.slice a' L.length cap') S)[o]?) ∧ W'.cell? ⟨sb, soff + k, none⟩ = some (.int .i64 sk)) 6 #[true, true, true, true, true, true, true, true, true, true, true, true, true, true, true, true, true, true, false, false, false, false, true, false, false] ⟨#[c0, .slice (some ⟨sb, soff, none⟩) slen scap, c2, c3, c4, c5, c6, c7, c8, c9, .pointer (some ⟨by_, 0, none⟩), .int .i64 (k : Nat), .int .i64 (((cn : Nat) : Int) + ((k : Nat) : Int)), .pointer (some ⟨bz, 0, none⟩), c14, c15, c16, c17, c18, c19, c20, c21, c22, c23, c24, c25, c26, c27, c28, c29, c30, c31, c32, c33, c34, c35, c36, c37, c38, c39, c40, c41, c42, c43, c44, c45, c46, c47, c48, c49, c50, c51, (.agg #[.int .i64 P.c0, .int .i64 P.c1, .int .i64 P.c2, .int .i64 P.last, .int .i64 Q.c0, .int .i64 Q.c1, .int .i64 Q.c2, .int .i64 Q.last, .int .i64 R.c0, .int .i64 R.c1, .int .i64 R.c2, .int .i64 R.last, .slice a' L.length cap', .int .i64 S]), c53, c54, c55, c56, .int .i64 (ck : Nat), c58, c59, c60, c61, c62, c63, c64, c65, c66, c67, c68, .slice (some ⟨bt, 0, none⟩) 3 3, c70, c71, c72, c73, c74, c75, c76, c77, c78, c79, c80, c81, c82, c83, c84, c85, c86, c87, c88, c89, c90, c91], []⟩ W := by
  have HKC : Hid _ := KC
  have HHf : Hid _ := HHalf
  have HKK : Hid _ := hK
  have hHeld := KC W E
  clear hK HHalf KC
  conv => arg 3; whnf
  refine wpAnyH_ready (rs := [18]) (by kernel_rfl) (by simp) ?_
  refine AllReadyH.cons rfl (fun K hK => ?_) AllReadyH.nil
  go_simp
  refine (HHf.out _ E _ (bools_blk Tb)).mono ?_
  rintro e v3 ⟨hw, a3, cap3, rfl, L3, hfr3⟩
  have E3 := E.trans hw
  have HF3 : Hid (∀ ad, a3 = some ad → w3.heap.size ≤ ad.block) := fun ad e => Nat.le_trans E.size (hfr3 ad e)
  have HNE : Hid (∀ ad, a3 = some ad → m' ≠ [] → bz = ad.block → False) := fun ad e _ e2 => by have h1 := hfr3 ad e; have h2 := Zb.lt; omega
  have Zb := Zb.ext hw
  go_wp2_with fail
  refine hK.out _ _ (HKC.out _ E3) (fun hHeld => ?_)
  clear hK K hw hfr3
  refine wpAnyH_take (i := 19) (v := ?v1) rfl (by kernel_rfl) (by kernel_rfl) (by kernel_rfl) (fun _ _ _ h => hQ0 _ _ _ _ _ h) (Or.inl ⟨by rfl, ?hy1⟩) hHeld ?r1
  case hy1 => first | (intro w hSw; (try dsimp only at hSw); go_simp; done) | (intro w hSw; (try dsimp only at hSw); go_simp; with_reducible rfl)
  simp only [Act.put]
  refine wpAnyH_take (i := 20) (v := ?v2) rfl (by kernel_rfl) (by kernel_rfl) (by kernel_rfl) (fun _ _ _ h => hQ0 _ _ _ _ _ h) (Or.inl ⟨by rfl, ?hy2⟩) hHeld ?r2
  case hy2 => first | (intro w hSw; (try dsimp only at hSw); go_simp; done) | (intro w hSw; (try dsimp only at hSw); go_simp; with_reducible rfl)
  simp only [Act.put]
  refine wpAnyH_take (i := 21) (v := ?v3) rfl (by kernel_rfl) (by kernel_rfl) (by kernel_rfl) (fun _ _ _ h => hQ0 _ _ _ _ _ h) (Or.inl ⟨by rfl, ?hy3⟩) hHeld ?r3
  case hy3 => first | (intro w hSw; (try dsimp only at hSw); go_simp; done) | (intro w hSw; (try dsimp only at hSw); go_simp; with_reducible rfl)
  simp only [Act.put]
  have z3 := Zb.cell
  have f3 := Zb.fr
  have X4 := put14_ext E3 bz hbz (.int .i64 P'.c0) (.int .i64 P'.c1) (.int .i64 P'.c2) (.int .i64 P'.last) (.int .i64 Q'.c0) (.int .i64 Q'.c1) (.int .i64 Q'.c2) (.int .i64 Q'.last) (.int .i64 R'.c0) (.int .i64 R'.c1) (.int .i64 R'.c2) (.int .i64 R'.last) (.slice a3 m'.length cap3) (.int .i64 s')
  have Z4 := put14_blk Zb (.int .i64 P'.c0) (.int .i64 P'.c1) (.int .i64 P'.c2) (.int .i64 P'.last) (.int .i64 Q'.c0) (.int .i64 Q'.c1) (.int .i64 Q'.c2) (.int .i64 Q'.last) (.int .i64 R'.c0) (.int .i64 R'.c1) (.int .i64 R'.c2) (.int .i64 R'.last) (.slice a3 m'.length cap3) (.int .i64 s')
  have G4 := put14_gr v3 bz (.int .i64 P'.c0) (.int .i64 P'.c1) (.int .i64 P'.c2) (.int .i64 P'.last) (.int .i64 Q'.c0) (.int .i64 Q'.c1) (.int .i64 Q'.c2) (.int .i64 Q'.last) (.int .i64 R'.c0) (.int .i64 R'.c1) (.int .i64 R'.c2) (.int .i64 R'.last) (.slice a3 m'.length cap3) (.int .i64 s')
  have HL4 : Hid (LogIn (put14 v3 bz (.int .i64 P'.c0) (.int .i64 P'.c1) (.int .i64 P'.c2) (.int .i64 P'.last) (.int .i64 Q'.c0) (.int .i64 Q'.c1) (.int .i64 Q'.c2) (.int .i64 Q'.last) (.int .i64 R'.c0) (.int .i64 R'.c1) (.int .i64 R'.c2) (.int .i64 R'.last) (.slice a3 m'.length cap3) (.int .i64 s')) a3 m'.length cap3 m') := L3.gr2 G4 (fun ad e hm e2 => by injection e2 with e2; exact HNE.out ad e hm e2.symm)
  refine wpAnyH_ready (rs := [23]) (by kernel_rfl) (by simp) ?_
  refine AllReadyH.cons rfl (fun K hK => ?_) AllReadyH.nil
  go_simp
  refine hK.out _ _ (HKC.out _ X4) (fun hHeld => ?_)
  clear hK K
  refine wpAnyH_ready (rs := [24]) (by kernel_rfl) (by simp) ?_
  refine AllReadyH.cons rfl (fun K hK => ?_) AllReadyH.nil
  go_simp
  refine hK.out _ _ (HKC.out _ X4) (fun hHeld => ?_)
  clear hK K hHeld
  refine wpAnyH_done (by kernel_rfl) ?_ _
  simp only [Exit.then]
  exact HKK.out _ _ _ _ _ _ _ _ _ _ _ _ _ _ _ _ _ _ _ _ _ _ _ _ _ ⟨bz, a3, cap3, rfl, rfl, Z4, HL4.out, X4, HF3.out, hbz⟩
set_option maxRecDepth 1000000 in
set_option maxHeartbeats 32000000 in
theorem often_1 (K : Act → World → Prop) (Q0 : Exit → Act → World → Prop) (hQ0 : ∀ c (a : Act) d v w, Q0 (.panic c) (a.put d v) w → Q0 (.panic c) a w) (w3 : World) (P Q R P' Q' R' : Pg) (L m' : List Rc) (S s' sk : Int) (a' : Option Addr) (cap' by_ sb soff slen scap k cn ck : Nat) (c0 c2 c3 c4 c5 c6 c7 c8 c9 c13 c14 c15 c16 c17 c18 c19 c20 c21 c22 c23 c24 c25 c26 c27 c28 c29 c30 c31 c32 c33 c34 c35 c36 c37 c38 c39 c40 c41 c42 c43 c44 c45 c46 c47 c48 c49 c50 c51 c53 c54 c55 c56 c58 c59 c60 c61 c62 c63 c64 c65 c66 c67 c68 c70 c71 c72 c73 c74 c75 c76 c77 c78 c79 c80 c81 c82 c83 c84 c85 c86 c87 c88 c89 c90 c91 : Value) (bt : Nat) (W : World) (hK : ∀ (s13 s14 u51 u52 u53 u54 u55 u56 u57 u58 u59 u60 u61 u62 u63 u64 u65 u66 u67 u68 u69 u70 u71 u72 : Value) (wx : World), (∃ (bz : Nat) (az : Option Addr) (cz : Nat), s13 = .pointer (some ⟨bz, 0, none⟩) ∧ s14 = .int .i64 0 ∧ Blk wx bz (wdCells P' Q' R' (.slice az m'.length cz) s') 28 ∧ LogIn wx az m'.length cz m' ∧ Ext w3 wx ∧ (∀ ad, az = some ad → w3.heap.size ≤ ad.block) ∧ w3.heap.size ≤ bz) → K ⟨#[c0, .slice (some ⟨sb, soff, none⟩) slen scap, c2, c3, c4, c5, c6, c7, c8, c9, .pointer (some ⟨by_, 0, none⟩), .int .i64 (k : Nat), .int .i64 (((cn : Nat) : Int) + ((k : Nat) : Int)), s13, s14, c15, c16, c17, c18, c19, c20, c21, c22, c23, c24, c25, c26, c27, c28, c29, c30, c31, c32, c33, c34, c35, c36, c37, c38, c39, c40, c41, c42, c43, c44, c45, c46, c47, c48, c49, c50, u51, u52, u53, u54, u55, u56, u57, u58, u59, u60, u61, u62, u63, u64, u65, u66, u67, u68, u69, u70, u71, u72, c73, c74, c75, c76, c77, c78, c79, c80, c81, c82, c83, c84, c85, c86, c87, c88, c89, c90, c91], []⟩ wx) (KC : ∀ W', Ext w3 W' → (∀ o, W'.cell? ⟨by_, o, none⟩ = (wdCells P Q R (.slice a' L.length cap') S)[o]?) ∧ W'.cell? ⟨sb, soff + k, none⟩ = some (.int .i64 sk)) (HHalf : ∀ W', Ext w3 W' → ∀ bt, Bools W' (some ⟨bt, 0, none⟩) 3 [((((cn : Nat) : Int) + ((k : Nat) : Int)).tmod 2 == 0), ((IntKind.i64.wrap ((((cn : Nat) : Int) + ((k : Nat) : Int)).tdiv 2)).tmod 2 == 0), ((IntKind.i64.wrap ((((cn : Nat) : Int) + ((k : Nat) : Int)).tdiv 4)).tmod 2 == 0)] → Calls Try.prog 25 #[wdVal P Q R (.slice a' L.length cap') S, .int .i64 (ck : Nat), .slice (some ⟨bt, 0, none⟩) 3 3] W' fun e w' => Ext W' w' ∧ ∃ a3 cap3, e = .returned (.tuple #[wdVal P' Q' R' (.slice a3 m'.length cap3) s', .int .i64 0]) ∧ LogIn w' a3 m'.length cap3 m' ∧ ∀ ad, a3 = some ad → W'.heap.size ≤ ad.block)
    (E : Ext w3 W) (Tb : Blk W bt #[.bool ((((cn : Nat) : Int) + ((k : Nat) : Int)).tmod 2 == 0), .bool ((IntKind.i64.wrap ((((cn : Nat) : Int) + ((k : Nat) : Int)).tdiv 2)).tmod 2 == 0), .bool ((IntKind.i64.wrap ((((cn : Nat) : Int) + ((k : Nat) : Int)).tdiv 4)).tmod 2 == 0)] 4) :
    wpAnyH Try.prog .any oftenOps (Exit.then K Q0) (fun W' => (∀ o, W'.cell? ⟨by_, o, none⟩ = (wdCells P Q R (.slice a' L.length cap') S)[o]?) ∧ W'.cell? ⟨sb, soff + k, none⟩ = some (.int .i64 sk)) 7 #[true, true, true, true, true, true, true, true, true, true, true, true, true, true, true, true, true, true, false, false, false, false, false, false, false] ⟨#[c0, .slice (some ⟨sb, soff, none⟩) slen scap, c2, c3, c4, c5, c6, c7, c8, c9, .pointer (some ⟨by_, 0, none⟩), .int .i64 (k : Nat), .int .i64 (((cn : Nat) : Int) + ((k : Nat) : Int)), c13, c14, c15, c16, c17, c18, c19, c20, c21, c22, c23, c24, c25, c26, c27, c28, c29, c30, c31, c32, c33, c34, c35, c36, c37, c38, c39, c40, c41, c42, c43, c44, c45, c46, c47, c48, c49, c50, c51, (.agg #[.int .i64 P.c0, .int .i64 P.c1, .int .i64 P.c2, .int .i64 P.last, .int .i64 Q.c0, .int .i64 Q.c1, .int .i64 Q.c2, .int .i64 Q.last, .int .i64 R.c0, .int .i64 R.c1, .int .i64 R.c2, .int .i64 R.last, .slice a' L.length cap', .int .i64 S]), c53, c54, c55, c56, .int .i64 (ck : Nat), c58, c59, c60, c61, c62, c63, c64, c65, c66, c67, c68, .slice (some ⟨bt, 0, none⟩) 3 3, c70, c71, c72, c73, c74, c75, c76, c77, c78, c79, c80, c81, c82, c83, c84, c85, c86, c87, c88, c89, c90, c91], []⟩ W := by
  have HKC : Hid _ := KC
  have HHf : Hid _ := HHalf
  have HKK : Hid _ := hK
  have hHeld := KC W E
  have HT2 : Hid _ := often_2 K Q0 hQ0 w3 P Q R P' Q' R' L m' S s' sk a' cap' by_ sb soff slen scap k cn ck
  clear hK HHalf KC
  conv => arg 3; whnf
  refine wpAnyH_ready (rs := [18, 22]) (by kernel_rfl) (by simp) ?_
  refine AllReadyH.cons rfl (fun K hK => ?_) (AllReadyH.cons rfl (fun K hK => ?_) AllReadyH.nil)
  · go_simp
    refine (HHf.out _ E _ (bools_blk Tb)).mono ?_
    rintro e v3 ⟨hw, a3, cap3, rfl, L3, hfr3⟩
    have E3 := E.trans hw
    have HF3 : Hid (∀ ad, a3 = some ad → w3.heap.size ≤ ad.block) := fun ad e => Nat.le_trans E.size (hfr3 ad e)
    go_wp2_with fail
    refine hK.out _ _ (HKC.out _ E3) (fun hHeld => ?_)
    clear hK K hw hfr3
    refine wpAnyH_take (i := 19) (v := ?v4) rfl (by kernel_rfl) (by kernel_rfl) (by kernel_rfl) (fun _ _ _ h => hQ0 _ _ _ _ _ h) (Or.inl ⟨by rfl, ?hy4⟩) hHeld ?r4
    case hy4 => first | (intro w hSw; (try dsimp only at hSw); go_simp; done) | (intro w hSw; (try dsimp only at hSw); go_simp; with_reducible rfl)
    simp only [Act.put]
    refine wpAnyH_take (i := 20) (v := ?v5) rfl (by kernel_rfl) (by kernel_rfl) (by kernel_rfl) (fun _ _ _ h => hQ0 _ _ _ _ _ h) (Or.inl ⟨by rfl, ?hy5⟩) hHeld ?r5
    case hy5 => first | (intro w hSw; (try dsimp only at hSw); go_simp; done) | (intro w hSw; (try dsimp only at hSw); go_simp; with_reducible rfl)
    simp only [Act.put]
    refine wpAnyH_take (i := 21) (v := ?v6) rfl (by kernel_rfl) (by kernel_rfl) (by kernel_rfl) (fun _ _ _ h => hQ0 _ _ _ _ _ h) (Or.inl ⟨by rfl, ?hy6⟩) hHeld ?r6
    case hy6 => first | (intro w hSw; (try dsimp only at hSw); go_simp; done) | (intro w hSw; (try dsimp only at hSw); go_simp; with_reducible rfl)
    simp only [Act.put]
    refine wpAnyH_ready (rs := [22]) (by kernel_rfl) (by simp) ?_
    refine AllReadyH.cons rfl (fun K hK => ?_) AllReadyH.nil
    go_simp
    have e4 := (Ext.refl v3).alloc (.cells #[.int .i64 0, .int .i64 0, .int .i64 0, .int .i64 0, .int .i64 0, .int .i64 0, .int .i64 0, .int .i64 0, .int .i64 0, .int .i64 0, .int .i64 0, .int .i64 0, .slice none 0 0, .int .i64 0] 28)
    have Zb : Blk (v3.alloc (.cells #[.int .i64 0, .int .i64 0, .int .i64 0, .int .i64 0, .int .i64 0, .int .i64 0, .int .i64 0, .int .i64 0, .int .i64 0, .int .i64 0, .int .i64 0, .int .i64 0, .slice none 0 0, .int .i64 0] 28)) v3.heap.size #[.int .i64 0, .int .i64 0, .int .i64 0, .int .i64 0, .int .i64 0, .int .i64 0, .int .i64 0, .int .i64 0, .int .i64 0, .int .i64 0, .int .i64 0, .int .i64 0, .slice none 0 0, .int .i64 0] 28 := Blk.new v3 _ _ _ rfl
    have E4 := E3.trans e4
    have HNE : Hid (∀ ad, a3 = some ad → m' ≠ [] → v3.heap.size = ad.block → False) := fun ad e hm e2 => by have := LogIn.lt L3 ad e hm; omega
    have L3 := L3.ext e4
    refine hK.out _ _ (HKC.out _ E4) (fun hHeld => ?_)
    clear hK K
    obtain ⟨bz, hb⟩ : ∃ x, v3.heap.size = x := ⟨_, rfl⟩
    rw [hb] at Zb HNE ⊢
    have hbz : w3.heap.size ≤ bz := by rw [← hb]; exact E3.size
    obtain ⟨c4', hc⟩ : ∃ c, v3.alloc (.cells #[.int .i64 0, .int .i64 0, .int .i64 0, .int .i64 0, .int .i64 0, .int .i64 0, .int .i64 0, .int .i64 0, .int .i64 0, .int .i64 0, .int .i64 0, .int .i64 0, .slice none 0 0, .int .i64 0] 28) = c := ⟨_, rfl⟩
    rw [hc] at Zb E4 L3 ⊢
    clear hc e4 hb
    have z3 := Zb.cell
    have f3 := Zb.fr
    have X4 := put14_ext E4 bz hbz (.int .i64 P'.c0) (.int .i64 P'.c1) (.int .i64 P'.c2) (.int .i64 P'.last) (.int .i64 Q'.c0) (.int .i64 Q'.c1) (.int .i64 Q'.c2) (.int .i64 Q'.last) (.int .i64 R'.c0) (.int .i64 R'.c1) (.int .i64 R'.c2) (.int .i64 R'.last) (.slice a3 m'.length cap3) (.int .i64 s')
    have Z4 := put14_blk Zb (.int .i64 P'.c0) (.int .i64 P'.c1) (.int .i64 P'.c2) (.int .i64 P'.last) (.int .i64 Q'.c0) (.int .i64 Q'.c1) (.int .i64 Q'.c2) (.int .i64 Q'.last) (.int .i64 R'.c0) (.int .i64 R'.c1) (.int .i64 R'.c2) (.int .i64 R'.last) (.slice a3 m'.length cap3) (.int .i64 s')
    have G4 := put14_gr c4' bz (.int .i64 P'.c0) (.int .i64 P'.c1) (.int .i64 P'.c2) (.int .i64 P'.last) (.int .i64 Q'.c0) (.int .i64 Q'.c1) (.int .i64 Q'.c2) (.int .i64 Q'.last) (.int .i64 R'.c0) (.int .i64 R'.c1) (.int .i64 R'.c2) (.int .i64 R'.last) (.slice a3 m'.length cap3) (.int .i64 s')
    have HL4 : Hid (LogIn (put14 c4' bz (.int .i64 P'.c0) (.int .i64 P'.c1) (.int .i64 P'.c2) (.int .i64 P'.last) (.int .i64 Q'.c0) (.int .i64 Q'.c1) (.int .i64 Q'.c2) (.int .i64 Q'.last) (.int .i64 R'.c0) (.int .i64 R'.c1) (.int .i64 R'.c2) (.int .i64 R'.last) (.slice a3 m'.length cap3) (.int .i64 s')) a3 m'.length cap3 m') := L3.gr2 G4 (fun ad e hm e2 => by injection e2 with e2; exact HNE.out ad e hm e2.symm)
    refine wpAnyH_ready (rs := [23]) (by kernel_rfl) (by simp) ?_
    refine AllReadyH.cons rfl (fun K hK => ?_) AllReadyH.nil
    go_simp
    refine hK.out _ _ (HKC.out _ X4) (fun hHeld => ?_)
    clear hK K
    refine wpAnyH_ready (rs := [24]) (by kernel_rfl) (by simp) ?_
    refine AllReadyH.cons rfl (fun K hK => ?_) AllReadyH.nil
    go_simp
    refine hK.out _ _ (HKC.out _ X4) (fun hHeld => ?_)
    clear hK K hHeld
    refine wpAnyH_done (by kernel_rfl) ?_ _
    simp only [Exit.then]
    exact HKK.out _ _ _ _ _ _ _ _ _ _ _ _ _ _ _ _ _ _ _ _ _ _ _ _ _ ⟨bz, a3, cap3, rfl, rfl, Z4, HL4.out, X4, HF3.out, hbz⟩
  · go_simp
    have e4 := (Ext.refl W).alloc (.cells #[.int .i64 0, .int .i64 0, .int .i64 0, .int .i64 0, .int .i64 0, .int .i64 0, .int .i64 0, .int .i64 0, .int .i64 0, .int .i64 0, .int .i64 0, .int .i64 0, .slice none 0 0, .int .i64 0] 28)
    have E4 := E.trans e4
    refine hK.out _ _ (HKC.out _ E4) (fun hHeld => ?_)
    clear hK K
    exact HT2.out _ _ _ _ _ _ _ _ _ _ _ _ _ _ _ _ _ _ _ _ _ _ _ _ _ _ _ _ _ _ _ _ _ _ _ _ _ _ _ _ _ _ _ _ _ _ _ _ _ _ _ _ _ _ _ _ _ _ _ _ _ _ _ _ _ _ _ _ _ _ _ _ _ _ _ _ _ _ _ _ _ _ _ _ bt W.heap.size _ HKK.out HKC.out HHf.out E4 (Tb.ext e4) (Blk.new W _ _ _ rfl) E.size
set_option maxRecDepth 1000000 in
set_option maxHeartbeats 32000000 in
theorem often_0 (K : Act → World → Prop) (Q0 : Exit → Act → World → Prop) (hQ0 : ∀ c (a : Act) d v w, Q0 (.panic c) (a.put d v) w → Q0 (.panic c) a w) (w3 : World) (P Q R P' Q' R' : Pg) (L m' : List Rc) (S s' sk : Int) (a' : Option Addr) (cap' by_ sb soff slen scap k cn ck : Nat) (c0 c2 c3 c4 c5 c6 c7 c8 c9 c13 c14 c15 c16 c17 c18 c19 c20 c21 c22 c23 c24 c25 c26 c27 c28 c29 c30 c31 c32 c33 c34 c35 c36 c37 c38 c39 c40 c41 c42 c43 c44 c45 c46 c47 c48 c49 c50 c51 c52 c53 c54 c55 c56 c57 c58 c59 c60 c61 c62 c63 c64 c65 c66 c67 c68 c69 c70 c71 c72 c73 c74 c75 c76 c77 c78 c79 c80 c81 c82 c83 c84 c85 c86 c87 c88 c89 c90 c91 : Value) (hK : ∀ (s13 s14 u51 u52 u53 u54 u55 u56 u57 u58 u59 u60 u61 u62 u63 u64 u65 u66 u67 u68 u69 u70 u71 u72 : Value) (wx : World), (∃ (bz : Nat) (az : Option Addr) (cz : Nat), s13 = .pointer (some ⟨bz, 0, none⟩) ∧ s14 = .int .i64 0 ∧ Blk wx bz (wdCells P' Q' R' (.slice az m'.length cz) s') 28 ∧ LogIn wx az m'.length cz m' ∧ Ext w3 wx ∧ (∀ ad, az = some ad → w3.heap.size ≤ ad.block) ∧ w3.heap.size ≤ bz) → K ⟨#[c0, .slice (some ⟨sb, soff, none⟩) slen scap, c2, c3, c4, c5, c6, c7, c8, c9, .pointer (some ⟨by_, 0, none⟩), .int .i64 (k : Nat), .int .i64 (((cn : Nat) : Int) + ((k : Nat) : Int)), s13, s14, c15, c16, c17, c18, c19, c20, c21, c22, c23, c24, c25, c26, c27, c28, c29, c30, c31, c32, c33, c34, c35, c36, c37, c38, c39, c40, c41, c42, c43, c44, c45, c46, c47, c48, c49, c50, u51, u52, u53, u54, u55, u56, u57, u58, u59, u60, u61, u62, u63, u64, u65, u66, u67, u68, u69, u70, u71, u72, c73, c74, c75, c76, c77, c78, c79, c80, c81, c82, c83, c84, c85, c86, c87, c88, c89, c90, c91], []⟩ wx) (KC : ∀ W', Ext w3 W' → (∀ o, W'.cell? ⟨by_, o, none⟩ = (wdCells P Q R (.slice a' L.length cap') S)[o]?) ∧ W'.cell? ⟨sb, soff + k, none⟩ = some (.int .i64 sk)) (HHalf : ∀ W', Ext w3 W' → ∀ bt, Bools W' (some ⟨bt, 0, none⟩) 3 [((((cn : Nat) : Int) + ((k : Nat) : Int)).tmod 2 == 0), ((IntKind.i64.wrap ((((cn : Nat) : Int) + ((k : Nat) : Int)).tdiv 2)).tmod 2 == 0), ((IntKind.i64.wrap ((((cn : Nat) : Int) + ((k : Nat) : Int)).tdiv 4)).tmod 2 == 0)] → Calls Try.prog 25 #[wdVal P Q R (.slice a' L.length cap') S, .int .i64 (ck : Nat), .slice (some ⟨bt, 0, none⟩) 3 3] W' fun e w' => Ext W' w' ∧ ∃ a3 cap3, e = .returned (.tuple #[wdVal P' Q' R' (.slice a3 m'.length cap3) s', .int .i64 0]) ∧ LogIn w' a3 m'.length cap3 m' ∧ ∀ ad, a3 = some ad → W'.heap.size ≤ ad.block) (HCh : ∀ W', Calls Try.prog 26 #[.int .i64 sk, .int .i64 4] W' fun e w' => e = .returned (.int .i64 (ck : Nat)) ∧ w' = W') (_ : k < slen) :
    Code.wp Try.prog oftenReg (Exit.then K Q0) ⟨#[c0, .slice (some ⟨sb, soff, none⟩) slen scap, c2, c3, c4, c5, c6, c7, c8, c9, .pointer (some ⟨by_, 0, none⟩), .int .i64 (k : Nat), .int .i64 (((cn : Nat) : Int) + ((k : Nat) : Int)), c13, c14, c15, c16, c17, c18, c19, c20, c21, c22, c23, c24, c25, c26, c27, c28, c29, c30, c31, c32, c33, c34, c35, c36, c37, c38, c39, c40, c41, c42, c43, c44, c45, c46, c47, c48, c49, c50, c51, c52, c53, c54, c55, c56, c57, c58, c59, c60, c61, c62, c63, c64, c65, c66, c67, c68, c69, c70, c71, c72, c73, c74, c75, c76, c77, c78, c79, c80, c81, c82, c83, c84, c85, c86, c87, c88, c89, c90, c91], []⟩ w3 := by
  have HKC : Hid _ := KC
  have HHf : Hid _ := HHalf
  have HKK : Hid _ := hK
  have HCc : Hid _ := HCh
  have HT1 : Hid _ := often_1 K Q0 hQ0 w3 P Q R P' Q' R' L m' S s' sk a' cap' by_ sb soff slen scap k cn ck
  have HT2 : Hid _ := often_2 K Q0 hQ0 w3 P Q R P' Q' R' L m' S s' sk a' cap' by_ sb soff slen scap k cn ck
  have hKC0 := KC _ (Ext.refl w3).drew
  clear hK HHalf KC HCh
  conv => arg 2; whnf
  refine wp_region_held_drew (S := (fun W' => (∀ o, W'.cell? ⟨by_, o, none⟩ = (wdCells P Q R (.slice a' L.length cap') S)[o]?) ∧ W'.cell? ⟨sb, soff + k, none⟩ = some (.int .i64 sk))) (by kernel_rfl) hKC0 (fun hHeld => ?_)
  refine wpAnyH_take (i := 0) (v := ?v7) rfl (by kernel_rfl) (by kernel_rfl) (by kernel_rfl) (fun _ _ _ h => hQ0 _ _ _ _ _ h) (Or.inl ⟨by rfl, ?hy7⟩) hHeld ?r7
  case hy7 => first | (intro w hSw; (try dsimp only at hSw); go_simp; done) | (intro w hSw; (try dsimp only at hSw); go_simp; with_reducible rfl)
  simp only [Act.put]
  refine wpAnyH_take (i := 1) (v := ?v8) rfl (by kernel_rfl) (by kernel_rfl) (by kernel_rfl) (fun _ _ _ h => hQ0 _ _ _ _ _ h) (Or.inl ⟨by rfl, ?hy8⟩) hHeld ?r8
  case hy8 => first | (intro w hSw; (try dsimp only at hSw); go_simp; done) | (intro w hSw; (try dsimp only at hSw); go_simp; with_reducible rfl)
  simp only [Act.put]
  refine wpAnyH_take (i := 2) (v := ?v9) rfl (by kernel_rfl) (by kernel_rfl) (by kernel_rfl) (fun _ _ _ h => hQ0 _ _ _ _ _ h) (Or.inl ⟨by rfl, ?hy9⟩) hHeld ?r9
  case hy9 => first | (intro w hSw; (try dsimp only at hSw); go_simp; done) | (intro w hSw; (try dsimp only at hSw); go_simp; with_reducible rfl)
  simp only [Act.put]
  refine wpAnyH_take (i := 3) (v := ?v10) rfl (by kernel_rfl) (by kernel_rfl) (by kernel_rfl) (fun _ _ _ h => hQ0 _ _ _ _ _ h) (Or.inl ⟨by rfl, ?hy10⟩) hHeld ?r10
  case hy10 => first | (intro w hSw; (try dsimp only at hSw); go_simp; done) | (intro w hSw; (try dsimp only at hSw); go_simp; with_reducible rfl)
  simp only [Act.put]
  refine wpAnyH_take (i := 4) (v := ?v11) rfl (by kernel_rfl) (by kernel_rfl) (by kernel_rfl) (fun _ _ _ h => hQ0 _ _ _ _ _ h) (Or.inl ⟨by rfl, ?hy11⟩) hHeld ?r11
  case hy11 => first | (intro w hSw; (try dsimp only at hSw); go_simp; done) | (intro w hSw; (try dsimp only at hSw); go_simp; with_reducible rfl)
  simp only [Act.put]
  refine wpAnyH_take (i := 6) (v := ?v12) rfl (by kernel_rfl) (by kernel_rfl) (by kernel_rfl) (fun _ _ _ h => hQ0 _ _ _ _ _ h) (Or.inl ⟨by rfl, ?hy12⟩) hHeld ?r12
  case hy12 => first | (intro w hSw; (try dsimp only at hSw); go_simp; done) | (intro w hSw; (try dsimp only at hSw); go_simp; with_reducible rfl)
  simp only [Act.put]
  refine wpAnyH_take (i := 7) (v := ?v13) rfl (by kernel_rfl) (by kernel_rfl) (by kernel_rfl) (fun _ _ _ h => hQ0 _ _ _ _ _ h) (Or.inl ⟨by rfl, ?hy13⟩) hHeld ?r13
  case hy13 => first | (intro w hSw; (try dsimp only at hSw); go_simp; done) | (intro w hSw; (try dsimp only at hSw); go_simp; with_reducible rfl)
  simp only [Act.put]
  refine wpAnyH_take (i := 8) (v := ?v14) rfl (by kernel_rfl) (by kernel_rfl) (by kernel_rfl) (fun _ _ _ h => hQ0 _ _ _ _ _ h) (Or.inl ⟨by rfl, ?hy14⟩) hHeld ?r14
  case hy14 => first | (intro w hSw; (try dsimp only at hSw); go_simp; done) | (intro w hSw; (try dsimp only at hSw); go_simp; with_reducible rfl)
  simp only [Act.put]
  refine wpAnyH_take (i := 9) (v := ?v15) rfl (by kernel_rfl) (by kernel_rfl) (by kernel_rfl) (fun _ _ _ h => hQ0 _ _ _ _ _ h) (Or.inl ⟨by rfl, ?hy15⟩) hHeld ?r15
  case hy15 => first | (intro w hSw; (try dsimp only at hSw); go_simp; done) | (intro w hSw; (try dsimp only at hSw); go_simp; with_reducible rfl)
  simp only [Act.put]
  refine wpAnyH_take (i := 10) (v := ?v16) rfl (by kernel_rfl) (by kernel_rfl) (by kernel_rfl) (fun _ _ _ h => hQ0 _ _ _ _ _ h) (Or.inl ⟨by rfl, ?hy16⟩) hHeld ?r16
  case hy16 => first | (intro w hSw; (try dsimp only at hSw); go_simp; done) | (intro w hSw; (try dsimp only at hSw); go_simp; with_reducible rfl)
  simp only [Act.put]
  refine wpAnyH_take (i := 11) (v := ?v17) rfl (by kernel_rfl) (by kernel_rfl) (by kernel_rfl) (fun _ _ _ h => hQ0 _ _ _ _ _ h) (Or.inl ⟨by rfl, ?hy17⟩) hHeld ?r17
  case hy17 => first | (intro w hSw; (try dsimp only at hSw); go_simp; done) | (intro w hSw; (try dsimp only at hSw); go_simp; with_reducible rfl)
  simp only [Act.put]
  refine wpAnyH_take (i := 12) (v := ?v18) rfl (by kernel_rfl) (by kernel_rfl) (by kernel_rfl) (fun _ _ _ h => hQ0 _ _ _ _ _ h) (Or.inl ⟨by rfl, ?hy18⟩) hHeld ?r18
  case hy18 => first | (intro w hSw; (try dsimp only at hSw); go_simp; done) | (intro w hSw; (try dsimp only at hSw); go_simp; with_reducible rfl)
  simp only [Act.put]
  refine wpAnyH_take (i := 13) (v := ?v19) rfl (by kernel_rfl) (by kernel_rfl) (by kernel_rfl) (fun _ _ _ h => hQ0 _ _ _ _ _ h) (Or.inl ⟨by rfl, ?hy19⟩) hHeld ?r19
  case hy19 => first | (intro w hSw; (try dsimp only at hSw); go_simp; done) | (intro w hSw; (try dsimp only at hSw); go_simp; with_reducible rfl)
  simp only [Act.put]
  refine wpAnyH_take (i := 14) (v := ?v20) rfl (by kernel_rfl) (by kernel_rfl) (by kernel_rfl) (fun _ _ _ h => hQ0 _ _ _ _ _ h) (Or.inl ⟨by rfl, ?hy20⟩) hHeld ?r20
  case hy20 => first | (intro w hSw; (try dsimp only at hSw); go_simp; done) | (intro w hSw; (try dsimp only at hSw); go_simp; with_reducible rfl)
  simp only [Act.put]
  refine wpAnyH_take (i := 15) (v := ?v21) rfl (by kernel_rfl) (by kernel_rfl) (by kernel_rfl) (fun _ _ _ h => hQ0 _ _ _ _ _ h) (Or.inl ⟨by rfl, ?hy21⟩) hHeld ?r21
  case hy21 => first | (intro w hSw; (try dsimp only at hSw); go_simp; done) | (intro w hSw; (try dsimp only at hSw); go_simp; with_reducible rfl)
  simp only [Act.put]
  refine wpAnyH_take (i := 16) (v := ?v22) rfl (by kernel_rfl) (by kernel_rfl) (by kernel_rfl) (fun _ _ _ h => hQ0 _ _ _ _ _ h) (Or.inl ⟨by rfl, ?hy22⟩) hHeld ?r22
  case hy22 => first | (intro w hSw; (try dsimp only at hSw); go_simp; done) | (intro w hSw; (try dsimp only at hSw); go_simp; with_reducible rfl)
  simp only [Act.put]
  refine wpAnyH_ready (rs := [5, 17, 22]) (by kernel_rfl) (by simp) ?_
  refine AllReadyH.cons rfl (fun K hK => ?_) (AllReadyH.cons rfl (fun K hK => ?_) (AllReadyH.cons rfl (fun K hK => ?_) AllReadyH.nil))
  · go_simp
    refine (HCc.out _).mono ?_
    rintro e u1 ⟨rfl, hu⟩
    rw [hu]
    clear hu
    go_wp2_with fail
    refine hK.out _ _ (HKC.out _ ((Ext.refl w3).drew)) (fun hHeld => ?_)
    clear hK K
    refine wpAnyH_ready (rs := [17, 22]) (by kernel_rfl) (by simp) ?_
    refine AllReadyH.cons rfl (fun K hK => ?_) (AllReadyH.cons rfl (fun K hK => ?_) AllReadyH.nil)
    · go_simp
      have e2 : Ext w3 ((w3.alloc (.cells #[.bool ((((cn : Nat) : Int) + ((k : Nat) : Int)).tmod 2 == 0), .bool ((IntKind.i64.wrap ((((cn : Nat) : Int) + ((k : Nat) : Int)).tdiv 2)).tmod 2 == 0), .bool ((IntKind.i64.wrap ((((cn : Nat) : Int) + ((k : Nat) : Int)).tdiv 4)).tmod 2 == 0)] 4)).drew) := ((Ext.refl w3).alloc (.cells #[.bool ((((cn : Nat) : Int) + ((k : Nat) : Int)).tmod 2 == 0), .bool ((IntKind.i64.wrap ((((cn : Nat) : Int) + ((k : Nat) : Int)).tdiv 2)).tmod 2 == 0), .bool ((IntKind.i64.wrap ((((cn : Nat) : Int) + ((k : Nat) : Int)).tdiv 4)).tmod 2 == 0)] 4)).drew
      have Tb : Blk ((w3.alloc (.cells #[.bool ((((cn : Nat) : Int) + ((k : Nat) : Int)).tmod 2 == 0), .bool ((IntKind.i64.wrap ((((cn : Nat) : Int) + ((k : Nat) : Int)).tdiv 2)).tmod 2 == 0), .bool ((IntKind.i64.wrap ((((cn : Nat) : Int) + ((k : Nat) : Int)).tdiv 4)).tmod 2 == 0)] 4)).drew) w3.heap.size #[.bool ((((cn : Nat) : Int) + ((k : Nat) : Int)).tmod 2 == 0), .bool ((IntKind.i64.wrap ((((cn : Nat) : Int) + ((k : Nat) : Int)).tdiv 2)).tmod 2 == 0), .bool ((IntKind.i64.wrap ((((cn : Nat) : Int) + ((k : Nat) : Int)).tdiv 4)).tmod 2 == 0)] 4 := Blk.drew (Blk.new w3 w3.heap.size #[.bool ((((cn : Nat) : Int) + ((k : Nat) : Int)).tmod 2 == 0), .bool ((IntKind.i64.wrap ((((cn : Nat) : Int) + ((k : Nat) : Int)).tdiv 2)).tmod 2 == 0), .bool ((IntKind.i64.wrap ((((cn : Nat) : Int) + ((k : Nat) : Int)).tdiv 4)).tmod 2 == 0)] 4 rfl)
      have E2 := (Ext.refl w3).trans e2
      refine hK.out _ _ (HKC.out _ E2) (fun hHeld => ?_)
      clear hK K
      obtain ⟨bt, hb2⟩ : ∃ x, w3.heap.size = x := ⟨_, rfl⟩
      rw [hb2] at Tb ⊢
      obtain ⟨c'2, hc2⟩ : ∃ c, ((w3.alloc (.cells #[.bool ((((cn : Nat) : Int) + ((k : Nat) : Int)).tmod 2 == 0), .bool ((IntKind.i64.wrap ((((cn : Nat) : Int) + ((k : Nat) : Int)).tdiv 2)).tmod 2 == 0), .bool ((IntKind.i64.wrap ((((cn : Nat) : Int) + ((k : Nat) : Int)).tdiv 4)).tmod 2 == 0)] 4)).drew) = c := ⟨_, rfl⟩
      rw [hc2] at Tb E2  ⊢
      clear hc2 e2 hb2
      exact HT1.out _ _ _ _ _ _ _ _ _ _ _ _ _ _ _ _ _ _ _ _ _ _ _ _ _ _ _ _ _ _ _ _ _ _ _ _ _ _ _ _ _ _ _ _ _ _ _ _ _ _ _ _ _ _ _ _ _ _ _ _ _ _ _ _ _ _ _ _ _ _ _ _ _ _ _ _ _ _ _ _ _ _ _ _ _ bt _ HKK.out HKC.out HHf.out E2 Tb
    · go_simp
      have e3 : Ext w3 ((w3.alloc (.cells #[.int .i64 0, .int .i64 0, .int .i64 0, .int .i64 0, .int .i64 0, .int .i64 0, .int .i64 0, .int .i64 0, .int .i64 0, .int .i64 0, .int .i64 0, .int .i64 0, .slice none 0 0, .int .i64 0] 28)).drew) := ((Ext.refl w3).alloc (.cells #[.int .i64 0, .int .i64 0, .int .i64 0, .int .i64 0, .int .i64 0, .int .i64 0, .int .i64 0, .int .i64 0, .int .i64 0, .int .i64 0, .int .i64 0, .int .i64 0, .slice none 0 0, .int .i64 0] 28)).drew
      have Zb : Blk ((w3.alloc (.cells #[.int .i64 0, .int .i64 0, .int .i64 0, .int .i64 0, .int .i64 0, .int .i64 0, .int .i64 0, .int .i64 0, .int .i64 0, .int .i64 0, .int .i64 0, .int .i64 0, .slice none 0 0, .int .i64 0] 28)).drew) w3.heap.size #[.int .i64 0, .int .i64 0, .int .i64 0, .int .i64 0, .int .i64 0, .int .i64 0, .int .i64 0, .int .i64 0, .int .i64 0, .int .i64 0, .int .i64 0, .int .i64 0, .slice none 0 0, .int .i64 0] 28 := Blk.drew (Blk.new w3 w3.heap.size #[.int .i64 0, .int .i64 0, .int .i64 0, .int .i64 0, .int .i64 0, .int .i64 0, .int .i64 0, .int .i64 0, .int .i64 0, .int .i64 0, .int .i64 0, .int .i64 0, .slice none 0 0, .int .i64 0] 28 rfl)
      have E3 := (Ext.refl w3).trans e3
      refine hK.out _ _ (HKC.out _ E3) (fun hHeld => ?_)
      clear hK K
      obtain ⟨bz, hb3⟩ : ∃ x, w3.heap.size = x := ⟨_, rfl⟩
      rw [hb3] at Zb ⊢
      have hbz : w3.heap.size ≤ bz := by rw [← hb3]; exact (Ext.refl w3).size
      obtain ⟨c'3, hc3⟩ : ∃ c, ((w3.alloc (.cells #[.int .i64 0, .int .i64 0, .int .i64 0, .int .i64 0, .int .i64 0, .int .i64 0, .int .i64 0, .int .i64 0, .int .i64 0, .int .i64 0, .int .i64 0, .int .i64 0, .slice none 0 0, .int .i64 0] 28)).drew) = c := ⟨_, rfl⟩
      rw [hc3] at Zb E3  ⊢
      clear hc3 e3 hb3
      refine wpAnyH_ready (rs := [17]) (by kernel_rfl) (by simp) ?_
      refine AllReadyH.cons rfl (fun K hK => ?_) AllReadyH.nil
      go_simp
      have e4 : Ext c'3 (c'3.alloc (.cells #[.bool ((((cn : Nat) : Int) + ((k : Nat) : Int)).tmod 2 == 0), .bool ((IntKind.i64.wrap ((((cn : Nat) : Int) + ((k : Nat) : Int)).tdiv 2)).tmod 2 == 0), .bool ((IntKind.i64.wrap ((((cn : Nat) : Int) + ((k : Nat) : Int)).tdiv 4)).tmod 2 == 0)] 4)) := (Ext.refl c'3).alloc (.cells #[.bool ((((cn : Nat) : Int) + ((k : Nat) : Int)).tmod 2 == 0), .bool ((IntKind.i64.wrap ((((cn : Nat) : Int) + ((k : Nat) : Int)).tdiv 2)).tmod 2 == 0), .bool ((IntKind.i64.wrap ((((cn : Nat) : Int) + ((k : Nat) : Int)).tdiv 4)).tmod 2 == 0)] 4)
      have Tb : Blk (c'3.alloc (.cells #[.bool ((((cn : Nat) : Int) + ((k : Nat) : Int)).tmod 2 == 0), .bool ((IntKind.i64.wrap ((((cn : Nat) : Int) + ((k : Nat) : Int)).tdiv 2)).tmod 2 == 0), .bool ((IntKind.i64.wrap ((((cn : Nat) : Int) + ((k : Nat) : Int)).tdiv 4)).tmod 2 == 0)] 4)) c'3.heap.size #[.bool ((((cn : Nat) : Int) + ((k : Nat) : Int)).tmod 2 == 0), .bool ((IntKind.i64.wrap ((((cn : Nat) : Int) + ((k : Nat) : Int)).tdiv 2)).tmod 2 == 0), .bool ((IntKind.i64.wrap ((((cn : Nat) : Int) + ((k : Nat) : Int)).tdiv 4)).tmod 2 == 0)] 4 := Blk.new c'3 c'3.heap.size #[.bool ((((cn : Nat) : Int) + ((k : Nat) : Int)).tmod 2 == 0), .bool ((IntKind.i64.wrap ((((cn : Nat) : Int) + ((k : Nat) : Int)).tdiv 2)).tmod 2 == 0), .bool ((IntKind.i64.wrap ((((cn : Nat) : Int) + ((k : Nat) : Int)).tdiv 4)).tmod 2 == 0)] 4 rfl
      have E4 := (E3).trans e4
      have Zb := Zb.ext e4
      refine hK.out _ _ (HKC.out _ E4) (fun hHeld => ?_)
      clear hK K
      obtain ⟨bt, hb4⟩ : ∃ x, c'3.heap.size = x := ⟨_, rfl⟩
      rw [hb4] at Tb ⊢
      obtain ⟨c'4, hc4⟩ : ∃ c, (c'3.alloc (.cells #[.bool ((((cn : Nat) : Int) + ((k : Nat) : Int)).tmod 2 == 0), .bool ((IntKind.i64.wrap ((((cn : Nat) : Int) + ((k : Nat) : Int)).tdiv 2)).tmod 2 == 0), .bool ((IntKind.i64.wrap ((((cn : Nat) : Int) + ((k : Nat) : Int)).tdiv 4)).tmod 2 == 0)] 4)) = c := ⟨_, rfl⟩
      rw [hc4] at Tb E4 Zb ⊢
      clear hc4 e4 hb4
      exact HT2.out _ _ _ _ _ _ _ _ _ _ _ _ _ _ _ _ _ _ _ _ _ _ _ _ _ _ _ _ _ _ _ _ _ _ _ _ _ _ _ _ _ _ _ _ _ _ _ _ _ _ _ _ _ _ _ _ _ _ _ _ _ _ _ _ _ _ _ _ _ _ _ _ _ _ _ _ _ _ _ _ _ _ _ _ bt bz _ HKK.out HKC.out HHf.out E4 Tb Zb hbz
  · go_simp
    have e5 : Ext w3 ((w3.alloc (.cells #[.bool ((((cn : Nat) : Int) + ((k : Nat) : Int)).tmod 2 == 0), .bool ((IntKind.i64.wrap ((((cn : Nat) : Int) + ((k : Nat) : Int)).tdiv 2)).tmod 2 == 0), .bool ((IntKind.i64.wrap ((((cn : Nat) : Int) + ((k : Nat) : Int)).tdiv 4)).tmod 2 == 0)] 4)).drew) := ((Ext.refl w3).alloc (.cells #[.bool ((((cn : Nat) : Int) + ((k : Nat) : Int)).tmod 2 == 0), .bool ((IntKind.i64.wrap ((((cn : Nat) : Int) + ((k : Nat) : Int)).tdiv 2)).tmod 2 == 0), .bool ((IntKind.i64.wrap ((((cn : Nat) : Int) + ((k : Nat) : Int)).tdiv 4)).tmod 2 == 0)] 4)).drew
    have Tb : Blk ((w3.alloc (.cells #[.bool ((((cn : Nat) : Int) + ((k : Nat) : Int)).tmod 2 == 0), .bool ((IntKind.i64.wrap ((((cn : Nat) : Int) + ((k : Nat) : Int)).tdiv 2)).tmod 2 == 0), .bool ((IntKind.i64.wrap ((((cn : Nat) : Int) + ((k : Nat) : Int)).tdiv 4)).tmod 2 == 0)] 4)).drew) w3.heap.size #[.bool ((((cn : Nat) : Int) + ((k : Nat) : Int)).tmod 2 == 0), .bool ((IntKind.i64.wrap ((((cn : Nat) : Int) + ((k : Nat) : Int)).tdiv 2)).tmod 2 == 0), .bool ((IntKind.i64.wrap ((((cn : Nat) : Int) + ((k : Nat) : Int)).tdiv 4)).tmod 2 == 0)] 4 := Blk.drew (Blk.new w3 w3.heap.size #[.bool ((((cn : Nat) : Int) + ((k : Nat) : Int)).tmod 2 == 0), .bool ((IntKind.i64.wrap ((((cn : Nat) : Int) + ((k : Nat) : Int)).tdiv 2)).tmod 2 == 0), .bool ((IntKind.i64.wrap ((((cn : Nat) : Int) + ((k : Nat) : Int)).tdiv 4)).tmod 2 == 0)] 4 rfl)
    have E5 := (Ext.refl w3).trans e5
    refine hK.out _ _ (HKC.out _ E5) (fun hHeld => ?_)
    clear hK K
    obtain ⟨bt, hb5⟩ : ∃ x, w3.heap.size = x := ⟨_, rfl⟩
    rw [hb5] at Tb ⊢
    obtain ⟨c'5, hc5⟩ : ∃ c, ((w3.alloc (.cells #[.bool ((((cn : Nat) : Int) + ((k : Nat) : Int)).tmod 2 == 0), .bool ((IntKind.i64.wrap ((((cn : Nat) : Int) + ((k : Nat) : Int)).tdiv 2)).tmod 2 == 0), .bool ((IntKind.i64.wrap ((((cn : Nat) : Int) + ((k : Nat) : Int)).tdiv 4)).tmod 2 == 0)] 4)).drew) = c := ⟨_, rfl⟩
    rw [hc5] at Tb E5  ⊢
    clear hc5 e5 hb5
    refine wpAnyH_ready (rs := [5, 22]) (by kernel_rfl) (by simp) ?_
    refine AllReadyH.cons rfl (fun K hK => ?_) (AllReadyH.cons rfl (fun K hK => ?_) AllReadyH.nil)
    · go_simp
      refine (HCc.out _).mono ?_
      rintro e u6 ⟨rfl, hu⟩
      rw [hu]
      clear hu
      go_wp2_with fail
      refine hK.out _ _ (HKC.out _ (E5)) (fun hHeld => ?_)
      clear hK K
      exact HT1.out _ _ _ _ _ _ _ _ _ _ _ _ _ _ _ _ _ _ _ _ _ _ _ _ _ _ _ _ _ _ _ _ _ _ _ _ _ _ _ _ _ _ _ _ _ _ _ _ _ _ _ _ _ _ _ _ _ _ _ _ _ _ _ _ _ _ _ _ _ _ _ _ _ _ _ _ _ _ _ _ _ _ _ _ _ bt _ HKK.out HKC.out HHf.out E5 Tb
    · go_simp
      have e7 : Ext c'5 (c'5.alloc (.cells #[.int .i64 0, .int .i64 0, .int .i64 0, .int .i64 0, .int .i64 0, .int .i64 0, .int .i64 0, .int .i64 0, .int .i64 0, .int .i64 0, .int .i64 0, .int .i64 0, .slice none 0 0, .int .i64 0] 28)) := (Ext.refl c'5).alloc (.cells #[.int .i64 0, .int .i64 0, .int .i64 0, .int .i64 0, .int .i64 0, .int .i64 0, .int .i64 0, .int .i64 0, .int .i64 0, .int .i64 0, .int .i64 0, .int .i64 0, .slice none 0 0, .int .i64 0] 28)
      have Zb : Blk (c'5.alloc (.cells #[.int .i64 0, .int .i64 0, .int .i64 0, .int .i64 0, .int .i64 0, .int .i64 0, .int .i64 0, .int .i64 0, .int .i64 0, .int .i64 0, .int .i64 0, .int .i64 0, .slice none 0 0, .int .i64 0] 28)) c'5.heap.size #[.int .i64 0, .int .i64 0, .int .i64 0, .int .i64 0, .int .i64 0, .int .i64 0, .int .i64 0, .int .i64 0, .int .i64 0, .int .i64 0, .int .i64 0, .int .i64 0, .slice none 0 0, .int .i64 0] 28 := Blk.new c'5 c'5.heap.size #[.int .i64 0, .int .i64 0, .int .i64 0, .int .i64 0, .int .i64 0, .int .i64 0, .int .i64 0, .int .i64 0, .int .i64 0, .int .i64 0, .int .i64 0, .int .i64 0, .slice none 0 0, .int .i64 0] 28 rfl
      have E7 := (E5).trans e7
      have Tb := Tb.ext e7
      refine hK.out _ _ (HKC.out _ E7) (fun hHeld => ?_)
      clear hK K
      obtain ⟨bz, hb7⟩ : ∃ x, c'5.heap.size = x := ⟨_, rfl⟩
      rw [hb7] at Zb ⊢
      have hbz : w3.heap.size ≤ bz := by rw [← hb7]; exact (E5).size
      obtain ⟨c'7, hc7⟩ : ∃ c, (c'5.alloc (.cells #[.int .i64 0, .int .i64 0, .int .i64 0, .int .i64 0, .int .i64 0, .int .i64 0, .int .i64 0, .int .i64 0, .int .i64 0, .int .i64 0, .int .i64 0, .int .i64 0, .slice none 0 0, .int .i64 0] 28)) = c := ⟨_, rfl⟩
      rw [hc7] at Zb E7 Tb ⊢
      clear hc7 e7 hb7
      refine wpAnyH_ready (rs := [5]) (by kernel_rfl) (by simp) ?_
      refine AllReadyH.cons rfl (fun K hK => ?_) AllReadyH.nil
      go_simp
      refine (HCc.out _).mono ?_
      rintro e u8 ⟨rfl, hu⟩
      rw [hu]
      clear hu
      go_wp2_with fail
      refine hK.out _ _ (HKC.out _ (E7)) (fun hHeld => ?_)
      clear hK K
      exact HT2.out _ _ _ _ _ _ _ _ _ _ _ _ _ _ _ _ _ _ _ _ _ _ _ _ _ _ _ _ _ _ _ _ _ _ _ _ _ _ _ _ _ _ _ _ _ _ _ _ _ _ _ _ _ _ _ _ _ _ _ _ _ _ _ _ _ _ _ _ _ _ _ _ _ _ _ _ _ _ _ _ _ _ _ _ bt bz _ HKK.out HKC.out HHf.out E7 Tb Zb hbz
  · go_simp
    have e9 : Ext w3 ((w3.alloc (.cells #[.int .i64 0, .int .i64 0, .int .i64 0, .int .i64 0, .int .i64 0, .int .i64 0, .int .i64 0, .int .i64 0, .int .i64 0, .int .i64 0, .int .i64 0, .int .i64 0, .slice none 0 0, .int .i64 0] 28)).drew) := ((Ext.refl w3).alloc (.cells #[.int .i64 0, .int .i64 0, .int .i64 0, .int .i64 0, .int .i64 0, .int .i64 0, .int .i64 0, .int .i64 0, .int .i64 0, .int .i64 0, .int .i64 0, .int .i64 0, .slice none 0 0, .int .i64 0] 28)).drew
    have Zb : Blk ((w3.alloc (.cells #[.int .i64 0, .int .i64 0, .int .i64 0, .int .i64 0, .int .i64 0, .int .i64 0, .int .i64 0, .int .i64 0, .int .i64 0, .int .i64 0, .int .i64 0, .int .i64 0, .slice none 0 0, .int .i64 0] 28)).drew) w3.heap.size #[.int .i64 0, .int .i64 0, .int .i64 0, .int .i64 0, .int .i64 0, .int .i64 0, .int .i64 0, .int .i64 0, .int .i64 0, .int .i64 0, .int .i64 0, .int .i64 0, .slice none 0 0, .int .i64 0] 28 := Blk.drew (Blk.new w3 w3.heap.size #[.int .i64 0, .int .i64 0, .int .i64 0, .int .i64 0, .int .i64 0, .int .i64 0, .int .i64 0, .int .i64 0, .int .i64 0, .int .i64 0, .int .i64 0, .int .i64 0, .slice none 0 0, .int .i64 0] 28 rfl)
    have E9 := (Ext.refl w3).trans e9
    refine hK.out _ _ (HKC.out _ E9) (fun hHeld => ?_)
    clear hK K
    obtain ⟨bz, hb9⟩ : ∃ x, w3.heap.size = x := ⟨_, rfl⟩
    rw [hb9] at Zb ⊢
    have hbz : w3.heap.size ≤ bz := by rw [← hb9]; exact (Ext.refl w3).size
    obtain ⟨c'9, hc9⟩ : ∃ c, ((w3.alloc (.cells #[.int .i64 0, .int .i64 0, .int .i64 0, .int .i64 0, .int .i64 0, .int .i64 0, .int .i64 0, .int .i64 0, .int .i64 0, .int .i64 0, .int .i64 0, .int .i64 0, .slice none 0 0, .int .i64 0] 28)).drew) = c := ⟨_, rfl⟩
    rw [hc9] at Zb E9  ⊢
    clear hc9 e9 hb9
    refine wpAnyH_ready (rs := [5, 17]) (by kernel_rfl) (by simp) ?_
    refine AllReadyH.cons rfl (fun K hK => ?_) (AllReadyH.cons rfl (fun K hK => ?_) AllReadyH.nil)
    · go_simp
      refine (HCc.out _).mono ?_
      rintro e u10 ⟨rfl, hu⟩
      rw [hu]
      clear hu
      go_wp2_with fail
      refine hK.out _ _ (HKC.out _ (E9)) (fun hHeld => ?_)
      clear hK K
      refine wpAnyH_ready (rs := [17]) (by kernel_rfl) (by simp) ?_
      refine AllReadyH.cons rfl (fun K hK => ?_) AllReadyH.nil
      go_simp
      have e11 : Ext c'9 (c'9.alloc (.cells #[.bool ((((cn : Nat) : Int) + ((k : Nat) : Int)).tmod 2 == 0), .bool ((IntKind.i64.wrap ((((cn : Nat) : Int) + ((k : Nat) : Int)).tdiv 2)).tmod 2 == 0), .bool ((IntKind.i64.wrap ((((cn : Nat) : Int) + ((k : Nat) : Int)).tdiv 4)).tmod 2 == 0)] 4)) := (Ext.refl c'9).alloc (.cells #[.bool ((((cn : Nat) : Int) + ((k : Nat) : Int)).tmod 2 == 0), .bool ((IntKind.i64.wrap ((((cn : Nat) : Int) + ((k : Nat) : Int)).tdiv 2)).tmod 2 == 0), .bool ((IntKind.i64.wrap ((((cn : Nat) : Int) + ((k : Nat) : Int)).tdiv 4)).tmod 2 == 0)] 4)
      have Tb : Blk (c'9.alloc (.cells #[.bool ((((cn : Nat) : Int) + ((k : Nat) : Int)).tmod 2 == 0), .bool ((IntKind.i64.wrap ((((cn : Nat) : Int) + ((k : Nat) : Int)).tdiv 2)).tmod 2 == 0), .bool ((IntKind.i64.wrap ((((cn : Nat) : Int) + ((k : Nat) : Int)).tdiv 4)).tmod 2 == 0)] 4)) c'9.heap.size #[.bool ((((cn : Nat) : Int) + ((k : Nat) : Int)).tmod 2 == 0), .bool ((IntKind.i64.wrap ((((cn : Nat) : Int) + ((k : Nat) : Int)).tdiv 2)).tmod 2 == 0), .bool ((IntKind.i64.wrap ((((cn : Nat) : Int) + ((k : Nat) : Int)).tdiv 4)).tmod 2 == 0)] 4 := Blk.new c'9 c'9.heap.size #[.bool ((((cn : Nat) : Int) + ((k : Nat) : Int)).tmod 2 == 0), .bool ((IntKind.i64.wrap ((((cn : Nat) : Int) + ((k : Nat) : Int)).tdiv 2)).tmod 2 == 0), .bool ((IntKind.i64.wrap ((((cn : Nat) : Int) + ((k : Nat) : Int)).tdiv 4)).tmod 2 == 0)] 4 rfl
      have E11 := (E9).trans e11
      have Zb := Zb.ext e11
      refine hK.out _ _ (HKC.out _ E11) (fun hHeld => ?_)
      clear hK K
      obtain ⟨bt, hb11⟩ : ∃ x, c'9.heap.size = x := ⟨_, rfl⟩
      rw [hb11] at Tb ⊢
      obtain ⟨c'11, hc11⟩ : ∃ c, (c'9.alloc (.cells #[.bool ((((cn : Nat) : Int) + ((k : Nat) : Int)).tmod 2 == 0), .bool ((IntKind.i64.wrap ((((cn : Nat) : Int) + ((k : Nat) : Int)).tdiv 2)).tmod 2 == 0), .bool ((IntKind.i64.wrap ((((cn : Nat) : Int) + ((k : Nat) : Int)).tdiv 4)).tmod 2 == 0)] 4)) = c := ⟨_, rfl⟩
      rw [hc11] at Tb E11 Zb ⊢
      clear hc11 e11 hb11
      exact HT2.out _ _ _ _ _ _ _ _ _ _ _ _ _ _ _ _ _ _ _ _ _ _ _ _ _ _ _ _ _ _ _ _ _ _ _ _ _ _ _ _ _ _ _ _ _ _ _ _ _ _ _ _ _ _ _ _ _ _ _ _ _ _ _ _ _ _ _ _ _ _ _ _ _ _ _ _ _ _ _ _ _ _ _ _ bt bz _ HKK.out HKC.out HHf.out E11 Tb Zb hbz
    · go_simp
      have e12 : Ext c'9 (c'9.alloc (.cells #[.bool ((((cn : Nat) : Int) + ((k : Nat) : Int)).tmod 2 == 0), .bool ((IntKind.i64.wrap ((((cn : Nat) : Int) + ((k : Nat) : Int)).tdiv 2)).tmod 2 == 0), .bool ((IntKind.i64.wrap ((((cn : Nat) : Int) + ((k : Nat) : Int)).tdiv 4)).tmod 2 == 0)] 4)) := (Ext.refl c'9).alloc (.cells #[.bool ((((cn : Nat) : Int) + ((k : Nat) : Int)).tmod 2 == 0), .bool ((IntKind.i64.wrap ((((cn : Nat) : Int) + ((k : Nat) : Int)).tdiv 2)).tmod 2 == 0), .bool ((IntKind.i64.wrap ((((cn : Nat) : Int) + ((k : Nat) : Int)).tdiv 4)).tmod 2 == 0)] 4)
      have Tb : Blk (c'9.alloc (.cells #[.bool ((((cn : Nat) : Int) + ((k : Nat) : Int)).tmod 2 == 0), .bool ((IntKind.i64.wrap ((((cn : Nat) : Int) + ((k : Nat) : Int)).tdiv 2)).tmod 2 == 0), .bool ((IntKind.i64.wrap ((((cn : Nat) : Int) + ((k : Nat) : Int)).tdiv 4)).tmod 2 == 0)] 4)) c'9.heap.size #[.bool ((((cn : Nat) : Int) + ((k : Nat) : Int)).tmod 2 == 0), .bool ((IntKind.i64.wrap ((((cn : Nat) : Int) + ((k : Nat) : Int)).tdiv 2)).tmod 2 == 0), .bool ((IntKind.i64.wrap ((((cn : Nat) : Int) + ((k : Nat) : Int)).tdiv 4)).tmod 2 == 0)] 4 := Blk.new c'9 c'9.heap.size #[.bool ((((cn : Nat) : Int) + ((k : Nat) : Int)).tmod 2 == 0), .bool ((IntKind.i64.wrap ((((cn : Nat) : Int) + ((k : Nat) : Int)).tdiv 2)).tmod 2 == 0), .bool ((IntKind.i64.wrap ((((cn : Nat) : Int) + ((k : Nat) : Int)).tdiv 4)).tmod 2 == 0)] 4 rfl
      have E12 := (E9).trans e12
      have Zb := Zb.ext e12
      refine hK.out _ _ (HKC.out _ E12) (fun hHeld => ?_)
      clear hK K
      obtain ⟨bt, hb12⟩ : ∃ x, c'9.heap.size = x := ⟨_, rfl⟩
      rw [hb12] at Tb ⊢
      obtain ⟨c'12, hc12⟩ : ∃ c, (c'9.alloc (.cells #[.bool ((((cn : Nat) : Int) + ((k : Nat) : Int)).tmod 2 == 0), .bool ((IntKind.i64.wrap ((((cn : Nat) : Int) + ((k : Nat) : Int)).tdiv 2)).tmod 2 == 0), .bool ((IntKind.i64.wrap ((((cn : Nat) : Int) + ((k : Nat) : Int)).tdiv 4)).tmod 2 == 0)] 4)) = c := ⟨_, rfl⟩
      rw [hc12] at Tb E12 Zb ⊢
      clear hc12 e12 hb12
      refine wpAnyH_ready (rs := [5]) (by kernel_rfl) (by simp) ?_
      refine AllReadyH.cons rfl (fun K hK => ?_) AllReadyH.nil
      go_simp
      refine (HCc.out _).mono ?_
      rintro e u13 ⟨rfl, hu⟩
      rw [hu]
      clear hu
      go_wp2_with fail
      refine hK.out _ _ (HKC.out _ (E12)) (fun hHeld => ?_)
      clear hK K
      exact HT2.out _ _ _ _ _ _ _ _ _ _ _ _ _ _ _ _ _ _ _ _ _ _ _ _ _ _ _ _ _ _ _ _ _ _ _ _ _ _ _ _ _ _ _ _ _ _ _ _ _ _ _ _ _ _ _ _ _ _ _ _ _ _ _ _ _ _ _ _ _ _ _ _ _ _ _ _ _ _ _ _ _ _ _ _ bt bz _ HKK.out HKC.out HHf.out E12 Tb Zb hbz
end Go.Proofs.Ytlpodahldpaniaa.B
