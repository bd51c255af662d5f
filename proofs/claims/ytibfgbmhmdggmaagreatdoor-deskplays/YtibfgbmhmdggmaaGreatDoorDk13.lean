/- What obey does with a line's words. · The desk's answer: a line that is left is told by its error. · What a line gives is short, and its error is a small number. No Go in sight. · The desk's answer to a line. · The contract of desk.Play. -/
import Derived.Test.YtibfgbmhmdggmaaGreatDoorDk9
import Derived.Recover
namespace Go.Proofs.YtibfgbmhmdggmaaGreatDoor.B
set_option maxHeartbeats 32000000
set_option maxRecDepth 100000
open Go.ChangeShapes Go.WideShapes Go.ChangeAt Go.RowKit
theorem find_none {x : List UInt8} (n0 : x ≠ sWrite) (n1 : x ≠ sCommit) (n2 : x ≠ sAbort) (n3 : x ≠ sSync) (n4 : x ≠ sFlush) (n5 : x ≠ sCrash) (n6 : x ≠ sNow) (n7 : x ≠ sDisk) (n8 : x ≠ sMust) (n9 : x ≠ sLog) (n10 : x ≠ sState) (bc : Nat) : findI (fun q => x == q) (ordersL bc) 0 = none := by
 unfold ordersL
 simp [findI, n0, n1, n2, n3, n4, n5, n6, n7, n8, n9, n10]
theorem own_ints {w : World} {base n : Nat} {v : Value} {ns : List Int} (h : w.ownsRow base 3 1 v n (ivs ns)) (hn : 0 < n) : ∃ g cap, v = .slice (some ⟨g, 0, none⟩) n cap ∧ base ≤ g ∧ ∀ i, (h : i < ns.length) → w.cell? ⟨g, i, none⟩ = some (.int .i64 ns[i]) := by
 rcases h.2 with ⟨_, h0⟩ | ⟨g, cap, cur, rfl, hg, hb, hc, hm, hs, ht⟩
 ·omega
 ·exact ⟨g, cap, rfl, hg, fun i hi => own_cell hb ht (by simp [ivs, hi])⟩
theorem obey_any (cb wb : Nat) (x : List UInt8) (rest : List (List UInt8)) (W : Wd) (hW : W.err = 0) (w : World) (C : Ck w cb W) (hws : Txts w wb (x :: rest)) (hrl : rest.length ≤ 5000) (hwl : ∀ s ∈ rest, s.length ≤ 5000) :
  Calls Tryz.prog 21 #[.pointer (some ⟨cb, 0, none⟩), .slice (some ⟨wb, 0, none⟩) (rest.length + 1) (rest.length + 1)] w fun e w' => OrdAns cb W (wordsT W x rest) w w' e := by
 have hcl := C.lt
 have H := fun k n f hn5 hfind hen T HF => obey_some cb wb (rest.length + 1) x rest W w C hws hrl hwl rfl k n f hn5 hfind hen T HF
 have HT : ∀ i, ordNo x = some i → wordsT W x rest = ordR W (ordN i) (ordT W i (rest.map numR)) rest := fun i hi => by unfold wordsT ordR numsB; rw [hi]
 have zero : ∀ {i}, rest.length = 0 → ordT W i (rest.map numR) = ordT W i [] := fun h => by rw [List.length_eq_zero_iff.1 h]; rfl
 have one : rest.length = 1 → ∃ n0, rest.map numR = [n0] := fun h => by
  match rest, h with
  | [s], _ => exact ⟨numR s, rfl⟩
 have four : rest.length = 4 → ∃ n0 n1 n2 n3, rest.map numR = [n0, n1, n2, n3] := fun h => by
  match rest, h with
  | [s0, s1, s2, s3], _ => exact ⟨_, _, _, _, rfl⟩
 rcases ord_cases x with ⟨rfl, ho⟩ | ⟨rfl, ho⟩ | ⟨rfl, ho⟩ | ⟨rfl, ho⟩ | ⟨rfl, ho⟩ | ⟨rfl, ho⟩ | ⟨rfl, ho⟩ | ⟨rfl, ho⟩ | ⟨rfl, ho⟩ | ⟨rfl, ho⟩ | ⟨rfl, ho⟩ | ⟨n0, n1, n2, n3, n4, n5, n6, n7, n8, n9, n10, ho⟩
 ·rw [HT 0 ho]
  refine H 0 4 62 (by decide) (fun bc => rfl) (fun args w => callFunc_enter args w Tryz.func62 (by kernel_rfl) (by kernel_rfl)) _ (fun hl _ W' bc v E hp hbc hown => ?_)
  obtain ⟨n0, n1, n2, n3, hns⟩ := four hl
  rw [hns] at hown ⊢
  rw [hl] at hown
  obtain ⟨g, cap, rfl, hg, hc⟩ := own_ints hown (by decide)
  exact ord1_any cb bc g cap n0 n1 n2 n3 W W' (C.ext E) hp (hc 0 (by simp)) (hc 1 (by simp)) (hc 2 (by simp)) (hc 3 (by simp)) (by omega) (by omega)
 ·rw [HT 1 ho]
  refine H 1 1 65 (by decide) (fun bc => rfl) (fun args w => callFunc_enter args w Tryz.func65 (by kernel_rfl) (by kernel_rfl)) _ (fun hl _ W' bc v E hp hbc hown => ?_)
  obtain ⟨n0, hns⟩ := one hl
  rw [hns] at hown ⊢
  rw [hl] at hown
  obtain ⟨g, cap, rfl, hg, hc⟩ := own_ints hown (by decide)
  exact ord2_any cb bc g cap n0 W W' (C.ext E) hp (hc 0 (by simp)) (by omega) (by omega)
 ·rw [HT 2 ho]
  refine H 2 1 67 (by decide) (fun bc => rfl) (fun args w => callFunc_enter args w Tryz.func67 (by kernel_rfl) (by kernel_rfl)) _ (fun hl _ W' bc v E hp hbc hown => ?_)
  obtain ⟨n0, hns⟩ := one hl
  rw [hns] at hown ⊢
  rw [hl] at hown
  obtain ⟨g, cap, rfl, hg, hc⟩ := own_ints hown (by decide)
  exact ord3_any cb bc g cap n0 W W' (C.ext E) hp (hc 0 (by simp)) (by omega) (by omega)
 ·rw [HT 3 ho]
  refine H 3 1 69 (by decide) (fun bc => rfl) (fun args w => callFunc_enter args w Tryz.func69 (by kernel_rfl) (by kernel_rfl)) _ (fun hl _ W' bc v E hp hbc hown => ?_)
  obtain ⟨n0, hns⟩ := one hl
  rw [hns] at hown ⊢
  rw [hl] at hown
  obtain ⟨g, cap, rfl, hg, hc⟩ := own_ints hown (by decide)
  exact ord4_any cb bc g cap n0 W W' (C.ext E) hp (hc 0 (by simp)) (by omega) (by omega)
 ·rw [HT 4 ho]
  refine H 4 1 71 (by decide) (fun bc => rfl) (fun args w => callFunc_enter args w Tryz.func71 (by kernel_rfl) (by kernel_rfl)) _ (fun hl _ W' bc v E hp hbc hown => ?_)
  obtain ⟨n0, hns⟩ := one hl
  rw [hns] at hown ⊢
  rw [hl] at hown
  obtain ⟨g, cap, rfl, hg, hc⟩ := own_ints hown (by decide)
  exact ord5_any cb bc g cap n0 W W' (C.ext E) hp (hc 0 (by simp)) (by omega) (by omega)
 ·rw [HT 5 ho]
  refine H 5 0 73 (by decide) (fun bc => rfl) (fun args w => callFunc_enter args w Tryz.func73 (by kernel_rfl) (by kernel_rfl)) _ (fun hl _ W' bc v E hp hbc hown => ?_)
  rw [zero hl]
  exact ord6_any cb bc v W W' (C.ext E) hp
 ·rw [HT 6 ho]
  refine H 6 0 75 (by decide) (fun bc => rfl) (fun args w => callFunc_enter args w Tryz.func75 (by kernel_rfl) (by kernel_rfl)) _ (fun hl _ W' bc v E hp hbc hown => ?_)
  rw [zero hl]
  exact ord7_any cb bc v W hW W' (C.ext E) hp
 ·rw [HT 7 ho]
  refine H 7 0 77 (by decide) (fun bc => rfl) (fun args w => callFunc_enter args w Tryz.func77 (by kernel_rfl) (by kernel_rfl)) _ (fun hl _ W' bc v E hp hbc hown => ?_)
  rw [zero hl]
  exact ord8_any cb bc v W hW W' (C.ext E) hp
 ·rw [HT 8 ho]
  refine H 8 0 78 (by decide) (fun bc => rfl) (fun args w => callFunc_enter args w Tryz.func78 (by kernel_rfl) (by kernel_rfl)) _ (fun hl _ W' bc v E hp hbc hown => ?_)
  rw [zero hl]
  exact ord9_any cb bc v W hW W' (C.ext E) hp
 ·rw [HT 9 ho]
  refine H 9 0 80 (by decide) (fun bc => rfl) (fun args w => callFunc_enter args w Tryz.func80 (by kernel_rfl) (by kernel_rfl)) _ (fun hl _ W' bc v E hp hbc hown => ?_)
  rw [zero hl]
  exact ord10_any cb bc v W hW W' (C.ext E) hp
 ·rw [HT 10 ho]
  refine H 10 1 81 (by decide) (fun bc => rfl) (fun args w => callFunc_enter args w Tryz.func81 (by kernel_rfl) (by kernel_rfl)) _ (fun hl _ W' bc v E hp hbc hown => ?_)
  obtain ⟨n0, hns⟩ := one hl
  rw [hns] at hown ⊢
  rw [hl] at hown
  obtain ⟨g, cap, rfl, hg, hc⟩ := own_ints hown (by decide)
  exact ord11_any cb bc g cap n0 W hW W' (C.ext E) hp (hc 0 (by simp))
 ·have : wordsT W x rest = formT W := by unfold wordsT; rw [ho]
  rw [this]
  exact obey_none cb wb (rest.length + 1) x rest W w C hws (find_none n0 n1 n2 n3 n4 n5 n6 n7 n8 n9 n10)
theorem as_nil : ∀ (xT : TypeId) w, (Instr.typeAssert .nilIface xT 22 true).run Tryz.prog w = .ok (.tuple #[.int .i64 0, .bool false]) w := by
 intro xT w
 simp [Instr.typeAssert, go_sem]
theorem catch_idle (p : Addr) (w : World) :
  CallsD Tryz.prog 19 #[.pointer (some p)] .returning w fun e u' w' => e = .returned (.tuple #[]) ∧ u' = .returning ∧ w' = w := by
 refine callsD_of_wpS Tryz.func19 rfl fun c₀ cs hu => ?_
 simp only [Tryz.ntmps19, List.size_toArray, List.length_cons, List.length_nil, Nat.reduceAdd, Nat.reduceSub, Array.replicate_succ, Array.replicate_zero, List.push_toArray, List.append_toArray, List.nil_append, List.cons_append]
 apply wpS_seq
 apply wpS_region
 simp [wpOpsS, go_sem, recoverD, hu, as_nil, Exit.thenS]
 apply wpS_of_wp
 go_wp2_with fail
 refine ⟨rfl, .returning, ?_, .tuple #[], results_none rfl _ _ _, rfl, rfl, rfl⟩
 cases c₀
 simp_all
theorem catch_left (b : Nat) (x : Int) (h0 : 0 ≤ x) (h1 : x < 100) (v : Value) (w : World) (B : Blk w b #[v] 9) :
  CallsD Tryz.prog 19 #[.pointer (some ⟨b, 0, none⟩)] (.panicking [{ v := .iface 22 (.int .i64 x), recovered := false }]) w fun e u' w' =>
   e = .returned (.tuple #[]) ∧ u' = .panicking [{ v := .iface 22 (.int .i64 x), recovered := true }] ∧ ∃ w2, Ext w w2 ∧ w' = w2.setCell ⟨b, 0, none⟩ (tx (sError ++ digitsR x.toNat)) := by
 refine callsD_of_wpS Tryz.func19 rfl fun c₀ cs hu => ?_
 simp only [Tryz.ntmps19, List.size_toArray, List.length_cons, List.length_nil, Nat.reduceAdd, Nat.reduceSub, Array.replicate_succ, Array.replicate_zero, List.push_toArray, List.append_toArray, List.nil_append, List.cons_append]
 apply wpS_seq
 apply wpS_region
 have q0 := is_errno (.int .i64 x)
 simp [wpOpsS, go_sem, recoverD, hu, q0, Exit.thenS]
 apply wpS_of_wp
 go_wp2_with fail
 refine (tell_err x h0 h1 w).mono ?_
 rintro e w2 ⟨rfl, hw⟩
 have B2 := B.ext hw
 have c_ := B2.cell
 have f_ := B2.fr
 go_wp2_with fail
 exact ⟨rfl, _, rfl, .tuple #[], results_none rfl _ _ _, rfl, rfl, w2, hw, rfl⟩
end Go.Proofs.YtibfgbmhmdggmaaGreatDoor.B
namespace Go.Proofs.YtibfgbmhmdggmaaGreatDoor.B
set_option maxHeartbeats 32000000
set_option maxRecDepth 100000
def SmallE (x : Int) : Prop := 0 ≤ x ∧ x < 100
theorem act_small {w : Wd} (h : w.err = 0) (x : Ac) : SmallE (doErr w x) := by
 unfold doErr errOf writeErr commitErr abortErr rollErr syncErr pageErr mendErr SmallE
 simp only [h]
 repeat' split
 all_goals first | omega | (exfalso; omega)
theorem told_small {w : Wd} (h : w.err = 0) (s : List UInt8) : SmallE (toldR w s).err ∧ (toldR w s).text.length ≤ 200 := by
 have hd := fun n => digits_len n
 have form : SmallE (formT w).err ∧ (formT w).text.length ≤ 200 := by unfold formT SmallE; simp
 have act : ∀ x, SmallE (actT w x).err ∧ (actT w x).text.length ≤ 200 := fun x => ⟨act_small h x, (by decide : (2 : Nat) ≤ 200)⟩
 have cmd : ∀ x l, SmallE (cmdR w x l).err ∧ (cmdR w x l).text.length ≤ 200 := fun x l => by
  unfold cmdR
  split
  ·split
   ·exact act _
   ·exact form
  ·split
   ·exact act _
   ·split
    ·exact act _
    ·split
     ·exact act _
     ·split
      ·exact act _
      ·split
       ·exact ⟨by unfold SmallE; dsimp only; split <;> omega, by have := hd (stateR w.l ‹Int›).toNat; dsimp only; omega⟩
       ·exact form
  ·exact form
 have zero : SmallE 0 := ⟨by decide, by decide⟩
 unfold toldR
 split
 ·exact ⟨act_small h ⟨6, 0, 0, 0, 0⟩, by have := hd (needR w.cut); dsimp only; omega⟩
 ·split
  ·exact ⟨zero, Nat.le_trans (listed_len _) (by simp [cellsOfPgs])⟩
  ·split
   ·exact ⟨zero, Nat.le_trans (listed_len _) (by simp [cellsOfPgs])⟩
   ·split
    ·exact ⟨zero, Nat.le_trans (listed_len _) (by have : (cellsR w.cut).length = 9 := cellsBy_len _ _; omega)⟩
    ·split
     ·exact ⟨zero, by have h1 := hd w.l.length; have h2 := hd w.safe.toNat; simp only [List.length_append, List.length_cons]; omega⟩
     ·split
      ·exact form
      ·split
       ·exact cmd _ _
       ·exact form
def lineU (w : Wd) (s : List UInt8) : List UInt8 := if (toldR w s).err = 0 then (toldR w s).text else sError ++ digitsR (toldR w s).err.toNat
theorem lineT_eq (w : Wd) (s : List UInt8) : lineT w s = lineU w s ++ [10] := rfl
theorem lineU_len {w : Wd} (h : w.err = 0) (s : List UInt8) : (lineU w s).length ≤ 200 := by
 unfold lineU
 have h1 := (told_small h s).2
 have h2 := digits_len (toldR w s).err.toNat
 split
 ·exact h1
 ·rw [List.length_append]
  have : sError.length = 6 := rfl
  omega
theorem playL_len : ∀ (ss : List (List UInt8)) {w : Wd}, w.err = 0 → (playL w ss).length ≤ 201 * ss.length
 | [], _, _ => by simp [playL]
 | s :: ss, w, h => by
  have h1 := lineU_len h s
  have h2 := playL_len ss (line_right h s)
  simp only [playL, lineT_eq, List.length_append, List.length_cons, List.length_nil] at h2 ⊢
  omega
end Go.Proofs.YtibfgbmhmdggmaaGreatDoor.B
namespace Go.Proofs.YtibfgbmhmdggmaaGreatDoor.B
set_option maxHeartbeats 32000000
set_option maxRecDepth 100000
open Go.ChangeShapes Go.WideShapes Go.ChangeAt Go.RowKit
theorem txts_map (c : UInt8) (s : List UInt8) : (Lib.splitB ⟨[c].toArray⟩ 0 (Lib.countB ⟨s.toArray⟩ ⟨[c].toArray⟩) ⟨s.toArray⟩).map Value.string = (splitAt' c s).map tx := by
 have hd : (Lib.splitB ⟨[c].toArray⟩ 0 (Lib.countB ⟨s.toArray⟩ ⟨[c].toArray⟩) ⟨s.toArray⟩).map (·.data.toList) = splitAt' c s := by rw [Lib.splitB_data]; exact split_lib c s.length s (Nat.le_refl _)
 rw [← hd, List.map_map]
 refine List.map_congr_left fun a _ => ?_
 simp
theorem split_txt (c : UInt8) (s : List UInt8) (m : Int) (w : World) (hs : s.length < 4294967281) (hm : w.cell? ⟨0, 0, none⟩ = some (.int .i64 m)) :
  Calls Tryz.prog 9 #[tx s, tx [c]] w fun e w' => e = .returned (.slice (some ⟨w.heap.size, 0, none⟩) (splitAt' c s).length (splitAt' c s).length) ∧ w' = w.alloc (.cells ((splitAt' c s).map tx).toArray 9) := by
 have hn : Lib.countB ⟨s.toArray⟩ ⟨[c].toArray⟩ + 1 = (splitAt' c s).length := by
  have h1 := Lib.splitB_all ⟨[c].toArray⟩ (by simp [ByteArray.size]) 0 _ ⟨s.toArray⟩ rfl
  have h2 := congrArg List.length (txts_map c s)
  rw [List.length_map, List.length_map, h1] at h2
  exact h2
 refine (Tryz.strings_Split ⟨s.toArray⟩ ⟨[c].toArray⟩ m w (by simpa [ByteArray.size] using hs) hm (by simp [ByteArray.size])).mono ?_
 rintro e w' ⟨rfl, rfl⟩
 rw [hn, txts_map]
 exact ⟨rfl, rfl⟩
theorem split_small (c : UInt8) : ∀ s : List UInt8, (splitAt' c s).length ≤ s.length + 1 ∧ ∀ x ∈ splitAt' c s, x.length ≤ s.length
 | [] => by simp [splitAt']
 | b :: l => by
  obtain ⟨h1, h2⟩ := split_small c l
  rw [splitAt']
  split
  ·refine ⟨by simp; omega, fun x hx => ?_⟩
   rcases List.mem_cons.1 hx with rfl | hx
   ·simp
   ·have := h2 x hx; simp; omega
  ·cases hs : splitAt' c l with
   | nil => exact absurd hs (splitAt_ne c l)
   | cons y ys =>
    rw [hs] at h1 h2
    refine ⟨by simp at h1 ⊢; omega, fun x hx => ?_⟩
    rcases List.mem_cons.1 hx with rfl | hx
    ·have := h2 y (by simp); simp; omega
    ·have := h2 x (by simp [hx]); simp; omega
theorem txts_new (w : World) (xs : List (List UInt8)) : Txts (w.alloc (.cells (xs.map tx).toArray 9)) w.heap.size xs := fun j hj => by
 rw [(Blk.new w _ _ _ rfl).cell]
 simp [hj]
theorem Ck.str {w : World} {cb b : Nat} {W : Wd} {t : List UInt8} {ty : TypeId} (h : Ck w cb W) (B : Blk w b #[tx t] ty) (hn : cb ≠ b) (v : Value) : Ck (w.setCell ⟨b, 0, none⟩ v) cb W := by
 obtain ⟨a, cap, hB, hL, hne⟩ := h
 refine ⟨a, cap, hB.other _ _ hn, ?_, hne⟩
 by_cases h0 : W.l.length = 0
 ·refine ⟨⟨rfl, ?_⟩, hL.le, hL.max, hL.nil, fun ad e i hi => by omega⟩
  rcases hL.recs.2 with h1 | ⟨b, off, rfl, _⟩
  ·exact Or.inl h1
  ·exact Or.inr ⟨b, off, rfl, fun i hi => by omega⟩
 ·refine hL.gr ((Gr.refl (some b) w).set (Or.inr rfl) v) fun ad e e2 => ?_
  obtain ⟨b2, off, ha, hk, hr⟩ := hL.recs.at (show 0 < W.l.length by omega)
  rw [ha] at e
  obtain rfl := Option.some.inj e
  have : b2 = b := by injection e2
  subst this
  have h1 := hr.1
  rw [B.cell, Nat.zero_mul, Nat.add_zero] at h1
  cases off with
  | zero => simp at h1
  | succ k => simp at h1
theorem answer_any (cb : Nat) (s : List UInt8) (hs : s.length ≤ 4096) (W : Wd) (hW : W.err = 0) (m : Int) (w : World) (hm : w.cell? ⟨0, 0, none⟩ = some (.int .i64 m)) (C : Ck w cb W) :
  Calls Tryz.prog 11 #[.pointer (some ⟨cb, 0, none⟩), tx s] w fun e w' => e = .returned (tx (lineU W s)) ∧ Gr (some cb) w w' ∧ Ck w' cb (lineW W s) := by
 have hmf : ∀ (fn : Fn) (first cap : Array Value) (w : World), (Instr.makeFunc fn first cap).run Tryz.prog w = .ok (.func fn first cap) w := fun _ _ _ _ => rfl
 have hcl := C.lt
 have E1 := (Ext.refl w).alloc (.cells #[tx []] 9)
 have HS := split_txt 32 s m (w.alloc (.cells #[tx []] 9)) (by omega) (E1.cell hm)
 obtain ⟨x, ws, hws⟩ := words_ne s
 have htold := told_eq W s x ws hws
 have hsm := split_small 32 s
 unfold wordsR at hws
 rw [hws] at hsm HS
 have E2 := E1.alloc (.cells ((x :: ws).map tx).toArray 9)
 have HO := obey_any cb (w.heap.size + 1) x ws W hW ((w.alloc (.cells #[tx []] 9)).alloc (.cells ((x :: ws).map tx).toArray 9)) (C.ext E2) (by
  have := txts_new (w.alloc (.cells #[tx []] 9)) (x :: ws)
  rw [show (w.alloc (.cells #[tx []] 9)).heap.size = w.heap.size + 1 from by simp] at this
  exact this) (by have := hsm.1; simp at this; omega) (fun y hy => by have := hsm.2 y (by simp [hy]); omega)
 have B2 : Blk ((w.alloc (.cells #[tx []] 9)).alloc (.cells ((x :: ws).map tx).toArray 9)) w.heap.size #[tx []] 9 := (Blk.new w _ _ _ rfl).alloc _
 rw [← htold] at HO
 have hsmall := (told_small hW s).1
 have HU : Hid (lineU W s = if (toldR W s).err = 0 then (toldR W s).text else sError ++ digitsR (toldR W s).err.toNat) := rfl
 have HLW : Hid (lineW W s = if (toldR W s).err = 0 then (toldR W s).wd else W) := rfl
 generalize lineU W s = U at *
 generalize lineW W s = LW at *
 generalize toldR W s = T at *
 have HS' := fun (_ : True) => HS
 have HO' := fun (_ : True) => HO
 clear HS HO htold hsm hws
 simp only [show (w.alloc (.cells #[tx []] 9)).heap.size = w.heap.size + 1 from by simp, List.length_cons] at HS'
 generalize hw2 : ((w.alloc (.cells #[tx []] 9)).alloc (.cells ((x :: ws).map tx).toArray 9)) = w2 at *
 clear hw2
 go_enter_defers Tryz.func11, Tryz.ntmps11
 go_wp2_with fail
 refine (HS' trivial).mono ?_
 rintro e w2' ⟨rfl, hw2'⟩
 subst w2'
 go_wp2_with fail
 refine (HO' trivial).mono ?_
 rintro e w3 ⟨G3, ⟨h0, v, rfl, ht, C3⟩ | ⟨h0, rfl, C3⟩⟩
 ·have B3 := B2.gr G3 (by simp; omega)
  go_wp2_with fail
  refine (ht w3 (Ext.refl _)).mono ?_
  rintro e w4 ⟨rfl, E4⟩
  have B4 := B3.ext E4
  have C4 := (C3.ext E4).str B4 (by omega) (tx T.text)
  have c4 := B4.cell
  have f4 := B4.fr
  have B5 := B4.set 0 (tx T.text)
  have c5 := B5.cell 0
  have G5 := ((Gr.of_ext E2).trans (G3.ext E4)).set (p := ⟨w.heap.size, 0, none⟩) (Or.inl (Nat.le_refl _)) (tx T.text)
  have h0' : Hid (T.err = 0) := h0
  clear hsmall h0
  go_wp2_with fail
  refine leaves_cons (f := 19) (args := #[.pointer (some ⟨w.heap.size, 0, none⟩)]) (by simp) (by simp [go_sem]) ?_
  refine (catch_idle ⟨w.heap.size, 0, none⟩ _).mono ?_
  rintro e u' w9 ⟨rfl, rfl, rfl⟩
  refine ⟨tx T.text, ?_, ?_, G5, ?_⟩
  ·simp [results, Tryz.results11, go_sem, c5]
  ·rw [HU.out, if_pos h0'.out]
  ·rw [HLW.out, if_pos h0'.out]; exact C4
 ·have B3 := B2.gr G3 (by simp; omega)
  have h0' : Hid (T.err ≠ 0) := h0
  clear h0
  go_wp2_with fail
  refine leaves_cons (f := 19) (args := #[.pointer (some ⟨w.heap.size, 0, none⟩)]) (by simp) (by simp [go_sem]) ?_
  refine (catch_left w.heap.size T.err hsmall.1 hsmall.2 (tx []) _ B3).mono ?_
  rintro e u' w9 ⟨rfl, rfl, w4, E4, rfl⟩
  have B4 := B3.ext E4
  have B5 := B4.set 0 (tx (sError ++ digitsR T.err.toNat))
  have c5 := B5.cell 0
  refine ⟨tx (sError ++ digitsR T.err.toNat), ?_, ?_, ?_, ?_⟩
  ·simp [results, Tryz.results11, go_sem, c5]
  ·rw [HU.out, if_neg h0'.out]
  ·exact ((Gr.of_ext E2).trans (G3.ext E4)).set (p := ⟨w.heap.size, 0, none⟩) (Or.inl (Nat.le_refl _)) _
  ·rw [HLW.out, if_neg h0'.out]; exact (C3.ext E4).str B4 (by omega) _
theorem logIn_no (w : World) : LogIn w none 0 0 [] := ⟨recs_none _, Nat.le_refl _, Nat.zero_le _, fun _ => rfl, fun ad e => by cases e⟩
theorem ck_new (w : World) : Ck (w.alloc (.cells (wdCells zPg zPg zPg (.slice none 0 0) 0) 41)) w.heap.size noWd :=
 ⟨none, 0, Blk.new w _ _ _ rfl, logIn_no _, fun ad e => by cases e⟩
theorem count_txt (s : List UInt8) (c : UInt8) (w : World) : Calls Tryz.prog 7 #[tx s, tx [c]] w fun e w' => e = .returned (.int .i64 (s.count c : Nat)) ∧ w' = w := Tryz.strings_Count_one ⟨s.toArray⟩ c w
theorem suffix_txt (s : List UInt8) (hs : s.length ≤ 4096) (w : World) : Calls Tryz.prog 8 #[tx s, tx [10]] w fun e w' => e = .returned (.bool (s.getLast? == some 10)) ∧ w' = w := by
 have := Tryz.strings_HasSuffix ⟨s.toArray⟩ ⟨[10].toArray⟩ w (by simp [ByteArray.size]; omega)
 rw [show Lib.hasSuffix (⟨s.toArray⟩ : ByteArray).data.toList (⟨[10].toArray⟩ : ByteArray).data.toList = (s.getLast? == some 10) from suffix_last s] at this
 exact this
theorem play_many (s : List UInt8) (w : World) (h : 4096 < s.length) (hm : Hid (s.length ≤ maxLen)) :
  Calls Tryz.prog 4 #[tx s] w fun e w' => e = .returned (.tuple #[tx [], .int .i64 2]) ∧ Ext w w' := by
 have hb : (4096 : Int) < (s.length : Int) := by omega
 have hm2 : s.length ≤ 9223372036854775807 := hm.out
 go_enter Tryz.func4, Tryz.ntmps4
 go_wp2_with fail
 go_ret2
 exact ⟨rfl, Ext.refl _⟩
theorem play_lines (s : List UInt8) (w : World) (h : s.length ≤ 4096) (hc : 60 < s.count 10) :
  Calls Tryz.prog 4 #[tx s] w fun e w' => e = .returned (.tuple #[tx [], .int .i64 2]) ∧ Ext w w' := by
 have hb : ¬ (4096 : Int) < (s.length : Int) := by omega
 have hc2 : (60 : Int) < (s.count 10 : Nat) := by omega
 have HC := count_txt s 10 w
 generalize s.count 10 = n at *
 go_enter Tryz.func4, Tryz.ntmps4
 go_wp2_with fail
 refine HC.mono ?_
 rintro e w1 ⟨rfl, rfl⟩
 go_wp2_with fail
 go_ret2
 exact ⟨rfl, Ext.refl _⟩
theorem play_form (s : List UInt8) (w : World) (h : s.length ≤ 4096) (hc : ¬ 60 < s.count 10) (h1 : s ≠ []) (h2 : (s.getLast? == some 10) = false) :
  Calls Tryz.prog 4 #[tx s] w fun e w' => e = .returned (.tuple #[tx [], .int .i64 1]) ∧ Ext w w' := by
 have hb : ¬ (4096 : Int) < (s.length : Int) := by omega
 have hc2 : ¬ (60 : Int) < (s.count 10 : Nat) := by omega
 have hne : s.isEmpty = false := by simpa using h1
 have HC := count_txt s 10 w
 have HX := suffix_txt s h w
 rw [h2] at HX
 generalize s.count 10 = n at *
 go_enter Tryz.func4, Tryz.ntmps4
 go_wp2_with fail
 refine HC.mono ?_
 rintro e w1 ⟨rfl, rfl⟩
 go_wp2_with fail
 refine HX.mono ?_
 rintro e w1 ⟨rfl, rfl⟩
 go_wp2_with fail
 go_ret2
 exact ⟨rfl, Ext.refl _⟩
theorem play_none (s : List UInt8) (L : List (List UInt8)) (y : List UInt8) (m : Int) (w : World) (h : s = []) (hL : splitAt' 10 s = L ++ [y]) (hll : L.length ≤ 60) (hls : ∀ x ∈ L, x.length ≤ 4096) (hm : w.cell? ⟨0, 0, none⟩ = some (.int .i64 m)) :
  Calls Tryz.prog 4 #[tx s] w fun e w' => e = .returned (.tuple #[tx (playL noWd L), .int .i64 0]) ∧ Ext w w' := by
 have hb : ¬ (4096 : Int) < (s.length : Int) := by rw [h]; decide
 have hc2 : ¬ (60 : Int) < (s.count 10 : Nat) := by rw [h]; decide
 have hne : s.isEmpty = true := by rw [h]; rfl
 have HC := count_txt s 10 w
 have hS := split_txt 10 s m w (by rw [h]; decide) hm
 have hT := txts_new w (splitAt' 10 s)
 rw [hL] at hS hT
 rw [List.length_append, List.length_singleton] at hS
 have hm0 := cell_lt hm
 have E1 := (Ext.refl w).alloc (.cells ((L ++ [y]).map tx).toArray 9)
 generalize s.count 10 = n at *
 generalize hw1 : w.alloc (.cells ((L ++ [y]).map tx).toArray 9) = w1 at *
 have HS := fun (_ : True) => hS
 have hz1 : w1.heap.size = w.heap.size + 1 := by rw [← hw1]; simp
 clear hw1 hS hL h
 go_enter Tryz.func4, Tryz.ntmps4
 go_wp2_with fail
 refine HC.mono ?_
 rintro e w' ⟨rfl, rfl⟩
 go_wp2_with fail
 refine (HS trivial).mono ?_
 rintro e w1 ⟨rfl, hw1⟩
 subst w1
 have hl1 : ((L.length : Nat) : Int) + 1 - 1 = (L.length : Nat) := by omega
 go_wp2_with fail
 refine (begin_any _).mono ?_
 rintro e w2 ⟨rfl, E2⟩
 have C3 := ck_new w2
 have E3 := E2.alloc (.cells (wdCells zPg zPg zPg (.slice none 0 0) 0) 41)
 have hz2 := E2.size
 go_wp2_with fail
 have T3 := hT.ext E3
 have m3 := (E1.trans E3).cell hm
 have E4 := E1.trans E3
 generalize hw3 : w2.alloc (.cells (wdCells zPg zPg zPg (.slice none 0 0) 0) 41) = w3 at *
 have hz3 : w3.heap.size = w2.heap.size + 1 := by rw [← hw3]; simp
 clear hw3 E3 E2 hT
 go_loopw [6, 8, 38] (fun g _ i wr => ∃ j : Nat, j ≤ L.length ∧ i = .int .i64 j ∧ g = tx (playL noWd (L.take j)) ∧ Ck wr w2.heap.size (playW noWd (L.take j)) ∧ Gr (some w2.heap.size) w3 wr) (fun _ _ i _ => L.length - (intOf i).toNat)
 case atStart => exact ⟨0, by omega, rfl, by rw [List.take_zero]; rfl, C3, Gr.refl _ _⟩
 case round =>
  obtain ⟨j, hj, rfl, rfl, C, G⟩ := hrel
  by_cases hlt : j < L.length
  ·have hjI : (j : Int) < (L.length : Nat) := by omega
   have hcell := gr_cell G (show w3.cell? ⟨w'.heap.size, j, none⟩ = some (tx L[j]) by have := T3 j (by simp; omega); rwa [List.getElem_append_left hlt] at this) (by omega)
   have hA := answer_any w2.heap.size L[j] (hls _ (List.getElem_mem _)) (playW noWd (L.take j)) (play_right _) m wr (gr_cell G m3 (by omega)) C
   have h1 := lineU_len (play_right (L.take j)) L[j]
   have h2 := playL_len (L.take j) noWd_err
   rw [List.length_take] at h2
   have h3 : (playL noWd (L.take j)).length ≤ 12060 := by omega
   clear h2
   have HP : Hid (playL noWd (L.take (j + 1)) = playL noWd (L.take j) ++ (lineU (playW noWd (L.take j)) L[j] ++ [10])) := by show _ = _; rw [List.take_succ_eq_append_getElem hlt, playL_snoc]; rfl
   have HW : Hid (playW noWd (L.take (j + 1)) = lineW (playW noWd (L.take j)) L[j]) := by show _ = _; rw [List.take_succ_eq_append_getElem hlt, playW_snoc]
   generalize lineU (playW noWd (L.take j)) L[j] = U at *
   generalize playL noWd (L.take j) = g at *
   generalize lineW (playW noWd (L.take j)) L[j] = V at *
   generalize L[j] = x at *
   clear C
   go_wp2_with fail
   refine hA.mono ?_
   rintro e w5 ⟨rfl, G5, C5⟩
   go_wp2_with fail
   go_roundw
   case rel => exact ⟨j + 1, by omega, by go_num, by rw [HP.out]; exact congrArg Value.string ((congrArg (fun z => (⟨g.toArray⟩ : ByteArray) ++ z) (str_add U [10])).trans (str_add g (U ++ [10]))), by rw [HW.out]; exact C5, G.trans G5⟩
   case measure => simp [intOf]; omega
  ·have hjl : j = L.length := by omega
   subst hjl
   rw [List.take_length] at *
   go_wp2_with fail
   go_ret2
   exact ⟨rfl, Gr.ext_of E4 G (fun r e => by injection e with e; omega)⟩
theorem play_some (s : List UInt8) (L : List (List UInt8)) (y : List UInt8) (m : Int) (w : World) (h : s.length ≤ 4096) (hc : ¬ 60 < s.count 10) (h1 : s ≠ []) (h2 : (s.getLast? == some 10) = true) (hL : splitAt' 10 s = L ++ [y]) (hll : L.length ≤ 60) (hls : ∀ x ∈ L, x.length ≤ 4096) (hm : w.cell? ⟨0, 0, none⟩ = some (.int .i64 m)) :
  Calls Tryz.prog 4 #[tx s] w fun e w' => e = .returned (.tuple #[tx (playL noWd L), .int .i64 0]) ∧ Ext w w' := by
 have hb : ¬ (4096 : Int) < (s.length : Int) := by omega
 have hc2 : ¬ (60 : Int) < (s.count 10 : Nat) := by omega
 have hne : s.isEmpty = false := by simpa using h1
 have HC := count_txt s 10 w
 have HX := suffix_txt s h w
 rw [h2] at HX
 have hS := split_txt 10 s m w (by omega) hm
 have hT := txts_new w (splitAt' 10 s)
 rw [hL] at hS hT
 rw [List.length_append, List.length_singleton] at hS
 have hm0 := cell_lt hm
 have E1 := (Ext.refl w).alloc (.cells ((L ++ [y]).map tx).toArray 9)
 generalize s.count 10 = n at *
 generalize hw1 : w.alloc (.cells ((L ++ [y]).map tx).toArray 9) = w1 at *
 have HS := fun (_ : True) => hS
 have hz1 : w1.heap.size = w.heap.size + 1 := by rw [← hw1]; simp
 clear hw1 hS hL h h1 h2 hc
 go_enter Tryz.func4, Tryz.ntmps4
 go_wp2_with fail
 refine HC.mono ?_
 rintro e w' ⟨rfl, rfl⟩
 go_wp2_with fail
 refine HX.mono ?_
 rintro e w' ⟨rfl, rfl⟩
 go_wp2_with fail
 refine (HS trivial).mono ?_
 rintro e w1 ⟨rfl, hw1⟩
 subst w1
 have hl1 : ((L.length : Nat) : Int) + 1 - 1 = (L.length : Nat) := by omega
 go_wp2_with fail
 refine (begin_any _).mono ?_
 rintro e w2 ⟨rfl, E2⟩
 have C3 := ck_new w2
 have E3 := E2.alloc (.cells (wdCells zPg zPg zPg (.slice none 0 0) 0) 41)
 have hz2 := E2.size
 go_wp2_with fail
 have T3 := hT.ext E3
 have m3 := (E1.trans E3).cell hm
 have E4 := E1.trans E3
 generalize hw3 : w2.alloc (.cells (wdCells zPg zPg zPg (.slice none 0 0) 0) 41) = w3 at *
 have hz3 : w3.heap.size = w2.heap.size + 1 := by rw [← hw3]; simp
 clear hw3 E3 E2 hT
 go_loopw [6, 8, 38] (fun g _ i wr => ∃ j : Nat, j ≤ L.length ∧ i = .int .i64 j ∧ g = tx (playL noWd (L.take j)) ∧ Ck wr w2.heap.size (playW noWd (L.take j)) ∧ Gr (some w2.heap.size) w3 wr) (fun _ _ i _ => L.length - (intOf i).toNat)
 case atStart => exact ⟨0, by omega, rfl, by rw [List.take_zero]; rfl, C3, Gr.refl _ _⟩
 case round =>
  obtain ⟨j, hj, rfl, rfl, C, G⟩ := hrel
  by_cases hlt : j < L.length
  ·have hjI : (j : Int) < (L.length : Nat) := by omega
   have hcell := gr_cell G (show w3.cell? ⟨w'.heap.size, j, none⟩ = some (tx L[j]) by have := T3 j (by simp; omega); rwa [List.getElem_append_left hlt] at this) (by omega)
   have hA := answer_any w2.heap.size L[j] (hls _ (List.getElem_mem _)) (playW noWd (L.take j)) (play_right _) m wr (gr_cell G m3 (by omega)) C
   have h1 := lineU_len (play_right (L.take j)) L[j]
   have h2 := playL_len (L.take j) noWd_err
   rw [List.length_take] at h2
   have h3 : (playL noWd (L.take j)).length ≤ 12060 := by omega
   clear h2
   have HP : Hid (playL noWd (L.take (j + 1)) = playL noWd (L.take j) ++ (lineU (playW noWd (L.take j)) L[j] ++ [10])) := by show _ = _; rw [List.take_succ_eq_append_getElem hlt, playL_snoc]; rfl
   have HW : Hid (playW noWd (L.take (j + 1)) = lineW (playW noWd (L.take j)) L[j]) := by show _ = _; rw [List.take_succ_eq_append_getElem hlt, playW_snoc]
   generalize lineU (playW noWd (L.take j)) L[j] = U at *
   generalize playL noWd (L.take j) = g at *
   generalize lineW (playW noWd (L.take j)) L[j] = V at *
   generalize L[j] = x at *
   clear C
   go_wp2_with fail
   refine hA.mono ?_
   rintro e w5 ⟨rfl, G5, C5⟩
   go_wp2_with fail
   go_roundw
   case rel => exact ⟨j + 1, by omega, by go_num, by rw [HP.out]; exact congrArg Value.string ((congrArg (fun z => (⟨g.toArray⟩ : ByteArray) ++ z) (str_add U [10])).trans (str_add g (U ++ [10]))), by rw [HW.out]; exact C5, G.trans G5⟩
   case measure => simp [intOf]; omega
  ·have hjl : j = L.length := by omega
   subst hjl
   rw [List.take_length] at *
   go_wp2_with fail
   go_ret2
   exact ⟨rfl, Gr.ext_of E4 G (fun r e => by injection e with e; omega)⟩
theorem play_any (s : List UInt8) (hml : s.length ≤ maxLen) (m : Int) (w : World) (hm : w.cell? ⟨0, 0, none⟩ = some (.int .i64 m)) :
  Calls Tryz.prog 4 #[tx s] w fun e w' => e = .returned (.tuple #[tx (playR s), .int .i64 (playErr s)]) ∧ Ext w w' := by
 by_cases h1 : 4096 < s.length
 ·have : playErr s = 2 := by unfold playErr; rw [if_pos (Or.inl h1)]
  unfold playR
  rw [this]
  exact play_many s w h1 hml
 ·by_cases h2 : 60 < s.count 10
  ·have : playErr s = 2 := by unfold playErr; rw [if_pos (Or.inr h2)]
   unfold playR
   rw [this]
   exact play_lines s w (by omega) h2
  ·by_cases h3 : s ≠ [] ∧ s.getLast? ≠ some 10
   ·have : playErr s = 1 := by unfold playErr; rw [if_neg (by omega), if_pos h3]
    unfold playR
    rw [this]
    exact play_form s w (by omega) h2 h3.1 (by simpa using h3.2)
   ·have : playErr s = 0 := by unfold playErr; rw [if_neg (by omega), if_neg h3]
    unfold playR
    rw [this, if_pos rfl]
    obtain ⟨y, hy⟩ : ∃ y, splitAt' 10 s = linesR s ++ [y] := ⟨_, (List.dropLast_concat_getLast (splitAt_ne 10 s)).symm⟩
    have hll : (linesR s).length ≤ 60 := by rw [lines_len]; omega
    have hls : ∀ x ∈ linesR s, x.length ≤ 4096 := fun x hx => by have := (split_small 10 s).2 x (by rw [hy]; simp [hx]); omega
    by_cases h4 : s = []
    ·exact play_none s _ y m w h4 hy hll hls hm
    ·exact play_some s _ y m w (by omega) h2 h4 (by have : s.getLast? = some 10 := Classical.byContradiction fun z => h3 ⟨h4, z⟩; rw [this]; rfl) hy hll hls hm
end Go.Proofs.YtibfgbmhmdggmaaGreatDoor.B
