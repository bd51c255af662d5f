/- The contracts of the scan's Crash, and of the reference's CrashOf. The contracts of the scan's Losers, and of the reference's losers and LosersOf. -/
import Derived.Test.YtbfefocehnafgaaGreatWork6
import Derived.Test.YtbfefocehnafgaaGreatPlainA
import Derived.Test.YtbfefocehnafgaaGreatPlainB
import Derived.Test.YtbfefocehnafgaaGreatInst
import Derived.Maps.AppendAt
namespace Go.Proofs.YtbfefocehnafgaaGreat.B
set_option maxRecDepth 100000
open Go.ChangeShapes Go.WideShapes Go.ChangeAt Go.RowKit

theorem own_take {w : World} {base : Nat} {a : Option Addr} {n cap : Nat} {l : List Rc} (h : w.ownsRow base 62 8 (.slice a n cap) l.length (flat l)) (k : Nat) (hk : k ≤ l.length) : w.ownsRow base 62 8 (.slice a k cap) (l.take k).length (flat (l.take k)) := by
  have hlen : (l.take k).length = k := List.length_take_of_le hk
  rcases h.2 with ⟨h1, h2⟩ | ⟨g, c, cur, h1, hg, hb, hc, hm, hs, ht⟩
  · injection h1 with h3 h4 h5
    subst h3 h5
    have : k = 0 := by omega
    subst this
    exact ⟨rfl, Or.inl ⟨rfl, rfl⟩⟩
  · injection h1 with h3 h4 h5
    subst h3 h5
    refine ⟨by rw [flat_len], Or.inr ⟨g, cap, cur, by rw [hlen], hg, hb, by omega, hm, hs, ?_⟩⟩
    have hf : flat (l.take k) = (flat l).take (k * 8) := by
      have h1 : flat l = flat (l.take k) ++ flat (l.drop k) := by unfold flat; rw [← List.flatMap_append, List.take_append_drop]
      rw [h1, List.take_left' (by rw [flat_len, hlen])]
    rw [hf, ← ht, List.take_take, hlen]
    congr 1
    omega
theorem safe_nat {p q r : Pg} {l : List Rc} {safe : Int} (h : worldErr p q r l safe = 0) : ∃ n : Nat, safe = (n : Nat) ∧ n ≤ l.length ∧ l.length ≤ 60 := by
  obtain ⟨h1, h2, _⟩ := worldErr_zero h
  obtain ⟨h4, h5⟩ := out1_false h2
  exact ⟨safe.toNat, by omega, by omega, (logErr_zero h1).1⟩
set_option maxHeartbeats 8000000 in
theorem crash_any (p q r : Pg) (a : Option Addr) (len cap : Nat) (l : List Rc) (safe : Int) (w : World) (h : LogIn w a len cap l) :
    Calls Tryz.prog 27 #[wdVal p q r (.slice a len cap) safe] w fun e w' => Ext w w' ∧ WorkAns w.heap.size w' e p q r (worldErr p q r l safe) (l.take safe.toNat) safe := by
  have hll := h.recs.len
  have E0 := ((Ext.refl w).alloc (.cells (wdCells p q r (.slice a len cap) safe) 28)).alloc (.cells (wdCells noPg noPg noPg (.slice none 0 0) 0) 28)
  have B0 := (Blk.new w w.heap.size (wdCells p q r (.slice a len cap) safe) 28 rfl).alloc (.cells (wdCells noPg noPg noPg (.slice none 0 0) 0) 28)
  have N0 := Blk.new (w.alloc (.cells (wdCells p q r (.slice a len cap) safe) 28)) (w.heap.size + 1) (wdCells noPg noPg noPg (.slice none 0 0) 0) 28 (by simp)
  have H := worldCheck_any p q r a len cap l safe _ (h.recs.ext E0) h.nil h.max
  have HN : Hid (worldErr p q r l safe = 0 → ∃ n : Nat, safe = (n : Nat) ∧ n ≤ len ∧ len ≤ 60) := fun hz => by obtain ⟨n, h1, h2, h3⟩ := safe_nat hz; exact ⟨n, h1, by omega, by omega⟩
  generalize worldErr p q r l safe = we at *
  have b0 := B0.cell
  go_enter Tryz.func27, Tryz.ntmps27
  go_wp2_with fail
  refine H.mono ?_
  rintro e w1 ⟨rfl, hE⟩
  have E := E0.trans hE
  have B := B0.ext hE
  have N := N0.ext hE
  clear H b0 B0 N0 E0 hE
  by_cases hz : we = 0
  · subst hz
    obtain ⟨n, rfl, hn, h60⟩ := HN.out rfl
    have b1 := B.cell
    have hnc : n ≤ cap := by have := h.le; omega
    have hR := (h.recs.ext E).take n hn
    have hlt : (l.take n).length = n := List.length_take_of_le (by omega)
    have hnil := h.nil
    go_wp2_with fail
    refine (clone_any a n cap (l.take n) _ hR hnil (by omega)).mono ?_
    rintro e w2 ⟨v, rfl, hown, hE2⟩
    obtain ⟨sa, sm, sc, rfl⟩ := own_slice hown
    obtain rfl := own_len hown
    rw [hlt] at hown ⊢
    have B2 := B.ext hE2
    have N2 := N.ext hE2
    have E2 := E.trans hE2
    have f2 := B2.fr
    have B3 := B2.set 12 (.slice sa n sc)
    have N3 := N2.other ⟨w.heap.size, 12, none⟩ (.slice sa n sc) (by simp)
    have b3 := B3.cell
    have b2 := B2.cell
    have n3 := N3.cell
    have g3 := N3.fr
    have G3 : Gr (some w.heap.size) w2 (w2.setCell ⟨w.heap.size, 12, none⟩ (.slice sa n sc)) := (Gr.refl (some w.heap.size) w2).set (p := ⟨w.heap.size, 12, none⟩) (Or.inr rfl) _
    have own3 := own_gr hown G3 (fun k hk e => by injection e with e; exact own_notblk hown B2 (by decide) k hk e)
    have E3 := E2.setCell (p := ⟨w.heap.size, 12, none⟩) (Nat.le_refl _) (.slice sa n sc)
    have G4 := put14_gr (w2.setCell ⟨w.heap.size, 12, none⟩ (.slice sa n sc)) (w.heap.size + 1) (.int .i64 p.c0) (.int .i64 p.c1) (.int .i64 p.c2) (.int .i64 p.last) (.int .i64 q.c0) (.int .i64 q.c1) (.int .i64 q.c2) (.int .i64 q.last) (.int .i64 r.c0) (.int .i64 r.c1) (.int .i64 r.c2) (.int .i64 r.last) (.slice sa n sc) (.int .i64 (n : Nat))
    have own4 := own_gr own3 G4 (fun k hk e => by injection e with e; exact own_notblk own3 N3 (by decide) k hk e)
    have E4 := put14_ext E3 (w.heap.size + 1) (by omega) (.int .i64 p.c0) (.int .i64 p.c1) (.int .i64 p.c2) (.int .i64 p.last) (.int .i64 q.c0) (.int .i64 q.c1) (.int .i64 q.c2) (.int .i64 q.last) (.int .i64 r.c0) (.int .i64 r.c1) (.int .i64 r.c2) (.int .i64 r.last) (.slice sa n sc) (.int .i64 (n : Nat))
    have HIn : Hid (LogIn (put14 (w2.setCell ⟨w.heap.size, 12, none⟩ (.slice sa n sc)) (w.heap.size + 1) (.int .i64 p.c0) (.int .i64 p.c1) (.int .i64 p.c2) (.int .i64 p.last) (.int .i64 q.c0) (.int .i64 q.c1) (.int .i64 q.c2) (.int .i64 q.last) (.int .i64 r.c0) (.int .i64 r.c1) (.int .i64 r.c2) (.int .i64 r.last) (.slice sa n sc) (.int .i64 (n : Nat))) sa n sc (l.take n)) := by
      have := own_in2 (l := l.take n) (by rw [hlt]; exact own4) (by omega)
      rw [hlt] at this
      exact this
    have HF : Hid (∀ ad, sa = some ad → w.heap.size ≤ ad.block) := fun ad e => by
      have := own_from hown ad.block (by rw [e]; rfl)
      have := E.size
      omega
    have HT : Hid ((l.take ((n : Nat) : Int).toNat) = l.take n) := by rw [Hid, Int.toNat_natCast]
    have HL := (show Hid ((l.take n).length = n) from hlt)
    clear hown own3 own4 hR HN E E2 E3 G3 G4 B N B2 N2 B3 N3 hE2 hlt hnil
    go_wp2_with fail
    refine bodyPost_ret (v := .tuple #[.agg (wdCells p q r (.slice sa n sc) (n : Nat)), .int .i64 0]) (by simp [results, Tryz.results27, go_sem, n3]) rfl ⟨?_, Or.inl ⟨rfl, sa, sc, ?_, ?_, HF.out⟩⟩
    · exact E4
    · rw [HT.out, HL.out]
    · rw [HT.out, HL.out]; exact HIn.out
  · have hb : (we != 0) = true := by simpa using hz
    have HZ := (show Hid (we ≠ 0) from hz)
    clear hz
    have n_ := N.cell
    have f_ := N.fr
    have E9 := put14_ext E (w.heap.size + 1) (by omega) (.int .i64 0) (.int .i64 0) (.int .i64 0) (.int .i64 0) (.int .i64 0) (.int .i64 0) (.int .i64 0) (.int .i64 0) (.int .i64 0) (.int .i64 0) (.int .i64 0) (.int .i64 0) (.slice none 0 0) (.int .i64 0)
    go_wp2_with fail
    refine bodyPost_ret (v := .tuple #[.agg (wdCells noPg noPg noPg (.slice none 0 0) 0), .int .i64 we]) (by simp [results, Tryz.results27, go_sem, n_]) rfl ⟨?_, Or.inr ⟨HZ.out, rfl⟩⟩
    exact E9
/-- The same, where the log is new memory, all of it. -/
def OwnAns (base : Nat) (w' : World) (e : Ending) (p q r : Pg) (x : Int) (l' : List Rc) (safe' : Int) : Prop :=
  (x = 0 ∧ ∃ a cap, e = .returned (.tuple #[wdVal p q r (.slice a l'.length cap) safe', .int .i64 0]) ∧ w'.ownsRow base 62 8 (.slice a l'.length cap) l'.length (flat l') ∧ l'.length ≤ 60) ∨
    (x ≠ 0 ∧ e = .returned (.tuple #[wdVal noPg noPg noPg (.slice none 0 0) 0, .int .i64 x]))
theorem OwnAns.work {base : Nat} {w' : World} {e : Ending} {p q r : Pg} {x : Int} {l' : List Rc} {s : Int} (h : OwnAns base w' e p q r x l' s) : WorkAns base w' e p q r x l' s := by
  rcases h with ⟨h0, a, cap, he, hown, hl⟩ | h
  · exact Or.inl ⟨h0, a, cap, he, own_in2 hown hl, fun ad e => own_from hown ad.block (by rw [e]; rfl)⟩
  · exact Or.inr h
set_option maxHeartbeats 8000000 in
theorem crashOf_any (p q r : Pg) (a : Option Addr) (len cap : Nat) (l : List Rc) (safe : Int) (w : World) (h : LogIn w a len cap l) :
    Calls Tryz.prog 29 #[wdVal p q r (.slice a len cap) safe] w fun e w' => Ext w w' ∧ OwnAns w.heap.size w' e p q r (worldErr p q r l safe) (l.take safe.toNat) safe := by
  have hll := h.recs.len
  have E0 := ((Ext.refl w).alloc (.cells (wdCells p q r (.slice a len cap) safe) 28)).alloc (.cells (wdCells noPg noPg noPg (.slice none 0 0) 0) 28)
  have B0 := (Blk.new w w.heap.size (wdCells p q r (.slice a len cap) safe) 28 rfl).alloc (.cells (wdCells noPg noPg noPg (.slice none 0 0) 0) 28)
  have N0 := Blk.new (w.alloc (.cells (wdCells p q r (.slice a len cap) safe) 28)) (w.heap.size + 1) (wdCells noPg noPg noPg (.slice none 0 0) 0) 28 (by simp)
  have H := worldError_any p q r a len cap l safe _ (h.recs.ext E0) h.le h.max
  have HN : Hid (worldErr p q r l safe = 0 → ∃ n : Nat, safe = (n : Nat) ∧ n ≤ len ∧ len ≤ 60) := fun hz => by obtain ⟨n, h1, h2, h3⟩ := safe_nat hz; exact ⟨n, h1, by omega, by omega⟩
  generalize worldErr p q r l safe = we at *
  have b0 := B0.cell
  go_enter Tryz.func29, Tryz.ntmps29
  go_wp2_with fail
  refine H.mono ?_
  rintro e w1 ⟨rfl, hE⟩
  have E := E0.trans hE
  have B := B0.ext hE
  have N := N0.ext hE
  clear H b0 B0 N0 E0 hE
  by_cases hz : we = 0
  · subst hz
    obtain ⟨n, rfl, hn, h60⟩ := HN.out rfl
    have b1 := B.cell
    have hlt : (l.take n).length = n := List.length_take_of_le (by omega)
    go_wp2_with fail
    refine (ownWorld_any p q r a len cap l _ _ (h.ext E) h60).mono ?_
    rintro e w2 ⟨sa, sc, rfl, hE2, hown⟩
    have hcc : n ≤ sc := by obtain ⟨_, c, h1, h2, h3, _⟩ := recs_own' hown; injection h1 with _ _ h1; subst h1; omega
    have hsz : w.heap.size + 1 < w2.heap.size := (N.ext hE2).lt
    have E2 := E.trans hE2
    have N2 := N.ext hE2
    have B2 := B.ext hE2
    have n2 := N2.cell
    have g2 := N2.fr
    have b2 := (B2.alloc (.cells (wdCells p q r (.slice sa len sc) (n : Nat)) 28)).cell
    have hown3 := own_base (own_take hown n (by omega)) E.size
    have HT : Hid ((l.take ((n : Nat) : Int).toNat) = l.take n) := by rw [Hid, Int.toNat_natCast]
    have HL := (show Hid ((l.take n).length = n) from hlt)
    rw [hlt] at hown3
    have G4 := put14_gr w2 (w.heap.size + 1) (.int .i64 p.c0) (.int .i64 p.c1) (.int .i64 p.c2) (.int .i64 p.last) (.int .i64 q.c0) (.int .i64 q.c1) (.int .i64 q.c2) (.int .i64 q.last) (.int .i64 r.c0) (.int .i64 r.c1) (.int .i64 r.c2) (.int .i64 r.last) (.slice sa n sc) (.int .i64 (n : Nat))
    have own5 := own_ext (own_gr hown3 G4 (fun k hk e => by injection e with e; exact own_notblk hown3 N2 (by decide) k hk e)) ((Ext.refl _).alloc (.cells (wdCells p q r (.slice sa n sc) (n : Nat)) 28))
    have E4 := (put14_ext E2 (w.heap.size + 1) (by omega) (.int .i64 p.c0) (.int .i64 p.c1) (.int .i64 p.c2) (.int .i64 p.last) (.int .i64 q.c0) (.int .i64 q.c1) (.int .i64 q.c2) (.int .i64 q.last) (.int .i64 r.c0) (.int .i64 r.c1) (.int .i64 r.c2) (.int .i64 r.last) (.slice sa n sc) (.int .i64 (n : Nat))).alloc (.cells (wdCells p q r (.slice sa n sc) (n : Nat)) 28)
    have n3 := ((put14_blk N2 (.int .i64 p.c0) (.int .i64 p.c1) (.int .i64 p.c2) (.int .i64 p.last) (.int .i64 q.c0) (.int .i64 q.c1) (.int .i64 q.c2) (.int .i64 q.last) (.int .i64 r.c0) (.int .i64 r.c1) (.int .i64 r.c2) (.int .i64 r.last) (.slice sa n sc) (.int .i64 (n : Nat))).alloc (.cells (wdCells p q r (.slice sa n sc) (n : Nat)) 28)).cell
    have HOwn := (show Hid (World.ownsRow ((put14 w2 (w.heap.size + 1) (.int .i64 p.c0) (.int .i64 p.c1) (.int .i64 p.c2) (.int .i64 p.last) (.int .i64 q.c0) (.int .i64 q.c1) (.int .i64 q.c2) (.int .i64 q.last) (.int .i64 r.c0) (.int .i64 r.c1) (.int .i64 r.c2) (.int .i64 r.last) (.slice sa n sc) (.int .i64 (n : Nat))).alloc (.cells (wdCells p q r (.slice sa n sc) (n : Nat)) 28)) w.heap.size 62 8 (.slice sa n sc) n (flat (l.take n))) from own5)
    clear hown hown3 own5 G4 E2 B2 N2 B N E hE2 b1 hlt
    go_wp2_with fail
    refine bodyPost_ret (v := .tuple #[.agg (wdCells p q r (.slice sa n sc) (n : Nat)), .int .i64 0]) (by simp [results, Tryz.results29, go_sem, n3]) rfl ⟨?_, Or.inl ⟨rfl, sa, sc, ?_, ?_, by rw [HT.out, HL.out]; omega⟩⟩
    · exact E4
    · rw [HT.out, HL.out]
    · rw [HT.out, HL.out]; exact HOwn.out
  · have hb : (we != 0) = true := by simpa using hz
    have HZ := (show Hid (we ≠ 0) from hz)
    clear hz
    have n_ := N.cell
    have f_ := N.fr
    have E9 := put14_ext E (w.heap.size + 1) (by omega) (.int .i64 0) (.int .i64 0) (.int .i64 0) (.int .i64 0) (.int .i64 0) (.int .i64 0) (.int .i64 0) (.int .i64 0) (.int .i64 0) (.int .i64 0) (.int .i64 0) (.int .i64 0) (.slice none 0 0) (.int .i64 0)
    go_wp2_with fail
    refine bodyPost_ret (v := .tuple #[.agg (wdCells noPg noPg noPg (.slice none 0 0) 0), .int .i64 we]) (by simp [results, Tryz.results29, go_sem, n_]) rfl ⟨?_, Or.inr ⟨HZ.out, rfl⟩⟩
    exact E9
end Go.Proofs.YtbfefocehnafgaaGreat.B
namespace Go.Proofs.YtbfefocehnafgaaGreat.B
set_option maxRecDepth 100000
open Go.ChangeShapes Go.WideShapes Go.ChangeAt Go.RowKit Go.Shelf
attribute [local go_sem] Oper.semAt_some

/-- The document's answer of Losers. -/
def losersOr (l : List Rc) : List Int := if logErr l = 0 then losersR l else []
theorem losersOr_ok {l : List Rc} (h : logErr l = 0) : losersOr l = losersR l := by unfold losersOr; rw [if_pos h]
theorem losersOr_no {l : List Rc} (h : logErr l ≠ 0) : losersOr l = [] := by unfold losersOr; rw [if_neg h]
theorem ofState_losers (l : List Rc) : ofState [1, 3] (stateR l) 9 = losersR l := by
  have h1 : ((List.range 9).map fun j : Nat => (j : Int) + 1) = txnsL := rfl
  unfold ofState losersR
  rw [h1]
  congr 1
  funext t
  simp only [List.contains_cons, List.contains_nil, Bool.or_false]
theorem losersR_le (l : List Rc) : (losersR l).length ≤ 9 := Nat.le_trans (List.length_filter_le _ _) (by decide)
set_option maxRecDepth 100000 in
set_option maxHeartbeats 4000000 in
theorem losers_fr (a : Option Addr) (len cap : Nat) (l : List Rc) (w : World) (h : Recs w a len l) (hm : len ≤ maxLen) :
    Calls Tryz.prog 28 #[.slice a len cap] w fun e w' => (∃ a' cap', e = .returned (.tuple #[.slice a' (losersOr l).length cap', .int .i64 (logErr l)]) ∧ (losersOr l).length ≤ cap' ∧ Ints w.heap.size w' a' (losersOr l) ∧ ∀ k o, a' = some ⟨k, 0, none⟩ → w'.frozen? ⟨k, o, none⟩ = false) ∧ Ext w w' := by
  have H := read_any a len cap l w h hm
  have HW0 : Hid (logErr l = 0 → losersOr l = losersR l) := losersOr_ok
  have HW1 : Hid (logErr l ≠ 0 → losersOr l = []) := losersOr_no
  generalize logErr l = x at *
  generalize losersOr l = lo at *
  refine (callsIn_wide (n := 9)).1 ?_
  refine callsIn_of_wp_marks Tryz.func28 rfl trivial ?_ rfl
  simp only [Tryz.ntmps28, List.size_toArray, List.length_cons, List.length_nil, Nat.reduceAdd, Nat.reduceSub, Array.replicate_succ, Array.replicate_zero, List.push_toArray, List.append_toArray, List.nil_append, List.cons_append]
  gi_wp2_with fail
  refine ⟨trivial, ?_⟩
  refine (callsIn_wide.2 H).mono ?_
  rintro e w1 ⟨v, rfl, hE, ⟨h0, pb, mt, mh, tx, ho, rfl, hB⟩ | ⟨h0, rfl⟩⟩
  · subst h0
    have hlo := HW0.out rfl
    subst hlo
    clear H HW0 HW1
    gi_wp2_with fail
    refine ⟨trivial, ?_⟩
    refine (callsIn_wide.2 (inState_any pb _ 2 2 _)).mono ?_
    rintro e w2 ⟨rfl, rfl⟩
    gi_wp2_with fail
    obtain ⟨sa, sm, sc, hlook⟩ := hB.looks
    have bO : Boxed ((((w1.alloc (.cells #[.slice none 0 0] 45)).alloc (.cells #[.int .i64 1, .int .i64 3] 3)).alloc (.cells #[.pointer (some ⟨pb, 0, none⟩)] 87)).alloc (.cells #[.slice (some ⟨w1.heap.size + 1, 0, none⟩) 2 2] 45)) w1.heap.size 45 (.slice none 0 0) := (((Boxed.new w1 45 (.slice none 0 0)).alloc _).alloc _).alloc _
    have hI : InSt ((((w1.alloc (.cells #[.slice none 0 0] 45)).alloc (.cells #[.int .i64 1, .int .i64 3] 3)).alloc (.cells #[.pointer (some ⟨pb, 0, none⟩)] 87)).alloc (.cells #[.slice (some ⟨w1.heap.size + 1, 0, none⟩) 2 2] 45)) (w1.heap.size + 1 + 1) (w1.heap.size + 1 + 1 + 1) (w1.heap.size + 1) 2 pb mt mh (pagesR l) (l.length : Nat) (tx.map TxE.ent) [1, 3] :=
      ⟨(Blk.new _ _ _ _ (by simp)).alloc _, Blk.new _ _ _ _ (by simp), ((Blk.new _ _ #[.int .i64 1, .int .i64 3] _ (by simp)).alloc _).alloc _, (((hB.blk.alloc _).alloc _).alloc _).alloc _, hB.txs.ext (((((Ext.refl w1).alloc _).alloc _).alloc _).alloc _)⟩
    have hB0 : Below w.heap.size w ((((w1.alloc (.cells #[.slice none 0 0] 45)).alloc (.cells #[.int .i64 1, .int .i64 3] 3)).alloc (.cells #[.pointer (some ⟨pb, 0, none⟩)] 87)).alloc (.cells #[.slice (some ⟨w1.heap.size + 1, 0, none⟩) 2 2] 45)) := (((Ext.alloc hE _).alloc _).alloc _).alloc _
    have hsz : ((((w1.alloc (.cells #[.slice none 0 0] 45)).alloc (.cells #[.int .i64 1, .int .i64 3] 3)).alloc (.cells #[.pointer (some ⟨pb, 0, none⟩)] 87)).alloc (.cells #[.slice (some ⟨w1.heap.size + 1, 0, none⟩) 2 2] 45)).heap.size = w1.heap.size + 4 := by simp
    have hpl := hB.blk.lt
    have hml := hB.txs.lt
    have hw1 : w.heap.size ≤ w1.heap.size := hE.size
    have hlen := pagesR_len l
    clear hB hE
    generalize (((w1.alloc (.cells #[.slice none 0 0] 45)).alloc (.cells #[.int .i64 1, .int .i64 3] 3)).alloc (.cells #[.pointer (some ⟨pb, 0, none⟩)] 87)).alloc (.cells #[.slice (some ⟨w1.heap.size + 1, 0, none⟩) 2 2] 45) = W0 at *
    obtain ⟨i0, hi, hz0, hz1, hz2⟩ := info_parts infoInt
    refine wpIn_rangeFunc_ownG rfl (by omega) (gf := 90) (lb := #[.pointer (some ⟨w1.heap.size + 1 + 1, 0, none⟩), .pointer (some ⟨w1.heap.size + 1 + 1 + 1, 0, none⟩)]) rfl trivial (enters_of Tryz.func90 (by kernel_rfl) rfl)
      (inState_stops (9 - 1) W0.heap.size [w1.heap.size] (w1.heap.size + 1 + 1) (w1.heap.size + 1 + 1 + 1) (w1.heap.size + 1) 2 pb mt mh (pagesR l) (l.length : Nat) (tx.map TxE.ent) [1, 3] (stateR l) (fun t => (lastR l t : Nat)) sa sm sc hlen (by decide) hlook
        (fun k hk => by simp only [List.mem_cons, List.not_mem_nil, or_false] at hk; rcases hk with rfl | rfl | rfl | rfl | rfl <;> refine ⟨by omega, ?_⟩ <;> simp <;> omega) W0 (by omega) (Nat.le_refl _) hI)
      (fun h k => h.trans k) (offK_b (Nat.le_refl _)) (Below.refl _ _) (fun _ => rfl)
      (fun pre W => (∃ v, Boxed W w1.heap.size 45 v ∧ W.ownsRow W0.heap.size 3 1 v pre.length (ivs pre) ∧ True) ∧ (Below w.heap.size w W ∧ W0.heap.size ≤ W.heap.size))
      (fun _ _ _ => False)
      (OwnFrom.and (Own.from (holdsRow_own W0.heap.size w1.heap.size 45 3 1 (fun pre => pre.length) (fun pre => ivs pre) (fun _ _ => True)) _) (OwnFrom.and (ownFrom_below (Nat.le_refl _) (by omega)) (fun _ _ _ _ hs hg _ => Nat.le_trans hs hg.size)))
      (fun _ _ _ _ _ hs _ _ => hs)
      ⟨⟨_, bO, World.ownsRow_nil _ _ _ _, trivial⟩, hB0, Nat.le_refl _⟩
      (fun x => { tmps := #[.slice a len cap, undef, .slice none 0 0, .int .i64 0, .pointer (some ⟨pb, 0, none⟩), .int .i64 0, .pointer (some ⟨w1.heap.size, 0, none⟩), .int .i64 x, .tuple #[.pointer (some ⟨pb, 0, none⟩), .int .i64 0], .slice a len cap, .tuple #[.pointer (some ⟨pb, 0, none⟩), .int .i64 0], .pointer (some ⟨pb, 0, none⟩), .int .i64 0, .int .i64 0, .bool false, undef, .pointer (some ⟨pb, 0, none⟩), .slice (some ⟨w1.heap.size + 1, 0, none⟩) 2 2, .func (.func 90) #[] #[.pointer (some ⟨w1.heap.size + 1 + 1, 0, none⟩), .pointer (some ⟨w1.heap.size + 1 + 1 + 1, 0, none⟩)], .int .i64 x, txOf (stateR l) (fun t => (lastR l t : Nat)) sa sm sc x, undef, undef, undef, undef, undef], defers := [] }) ?assign ?body ?done ?stop
    case assign =>
      intro l x W K hK
      gi_wp2_with fail
      exact hK
    case body =>
      rintro l pre x W ⟨⟨v, hv, hrow, _⟩, hB, hW⟩ hlt
      obtain ⟨va, vm, vc, rfl⟩ := own_slice hrow
      obtain rfl := own_len hrow
      have hc := hv.cell
      have hf := hv.frozen
      have HO := (show Hid (W.ownsRow W0.heap.size 3 1 (.slice va pre.length vc) pre.length (ivs pre)) from hrow)
      gi_wp2_with (gi_at_builtin; refine wpListIn_append_own _ rfl _ _ 45 rfl W0.heap.size 3 i0 (.int .i64 0) 1 8 Tryz.underlying45 hi hz0 hz1 hz2 rfl (by decide) _ _ _ rfl (hrow.alloc _) ⟨W.heap.size, 0, none⟩ 1 1 [.int .i64 x] rfl rfl (cell_one_new _ _ _) (by simp [Value.oneCell']) (by unfold maxLen; omega) (by omega) (by simp; omega) ?_; intro v' w3 hown' hgrow _; obtain ⟨g', cap', rfl⟩ := ownsRow_succ hown'; obtain ⟨hv1, hv2, hr2, hk2, hb2, ho2⟩ := boxed_off hv (by decide) hrow hW (by omega) hown' hgrow; have hc1 := hv1.cell; have hf1 := hv1.frozen)
      exact ⟨hk2.from _, ho2, ⟨_, hv2, by rw [ivs_snoc, List.length_append]; exact hr2, trivial⟩, hB.trans (Below.mono hb2 hw1), Nat.le_trans hW ho2.size⟩
    case done =>
      rintro D ys W hD rfl ⟨⟨v, hv, hrow, _⟩, hB, hW⟩ hK
      obtain ⟨va, vc, rfl, hvc, hints⟩ := Ints.of_own hrow
      have hc := hv.cell
      have HL := (show Hid (ofState [1, 3] (stateR l) 9 = losersR l) from ofState_losers l)
      gi_wp2_with fail
      refine ⟨by simp, .inl ⟨_, _, rfl, run_takeDeferred hK, ?_⟩⟩
      have hE2 := belowK_b (n₀ := w.heap.size) (w := w) (Nat.le_refl _) W D _ (.deferred none) (by omega) hK rfl rfl
      have hrow2 := ownsRow_putObj hrow (.deferred none) hK rfl
      obtain ⟨va2, vc2, hve, hvc2, hints2⟩ := Ints.of_own hrow2
      have hfr2 := own_fr hrow2
      injection hve with e1 e2 e3
      subst e1 e3
      rw [HL.out] at hvc2 hints2 ⊢
      exact ⟨_, by simp [results, Tryz.results28, go_sem], ⟨va, vc, rfl, hvc2, hints2.low (by omega), fun k o e => hfr2 k o (by rw [e]; rfl)⟩, hB.trans hE2⟩
    case stop =>
      rintro D c pre W _ _ h _
      exact h.elim
  · have hb : (x != 0) = true := by simpa using h0
    have hlo := HW1.out h0
    subst hlo
    clear H HW0 HW1
    gi_wp2_with fail
    exact ⟨_, by simp [results, Tryz.results28, go_sem], ⟨none, 0, rfl, Nat.le_refl _, Or.inl rfl, fun k o e => by cases e⟩, hE⟩
theorem losers_any (a : Option Addr) (len cap : Nat) (l : List Rc) (w : World) (h : Recs w a len l) (hm : len ≤ maxLen) :
    Calls Tryz.prog 28 #[.slice a len cap] w fun e w' => (∃ a' cap', e = .returned (.tuple #[.slice a' (losersOr l).length cap', .int .i64 (logErr l)]) ∧ (losersOr l).length ≤ cap' ∧ Ints w.heap.size w' a' (losersOr l)) ∧ Ext w w' :=
  (losers_fr a len cap l w h hm).mono fun _ _ ⟨⟨a', c', h1, h2, h3, _⟩, h4⟩ => ⟨⟨a', c', h1, h2, h3⟩, h4⟩
theorem losers_take (l : List Rc) (k : Nat) : ofState [1, 3] (stateR l) (k + 1) = if stateR l ((k : Int) + 1) = 1 ∨ stateR l ((k : Int) + 1) = 3 then ofState [1, 3] (stateR l) k ++ [(k : Int) + 1] else ofState [1, 3] (stateR l) k := by
  rw [ofState_succ]
  simp only [List.contains_cons, List.contains_nil, Bool.or_false, Bool.or_eq_true, beq_iff_eq]
set_option maxHeartbeats 4000000 in
theorem refLosers_any (a : Option Addr) (len cap : Nat) (l : List Rc) (w : World) (h : Recs w a len l) (hl : len ≤ 1000) :
    Calls Tryz.prog 59 #[.slice a len cap] w fun e w' => ∃ a' cap', e = .returned (.slice a' (losersR l).length cap') ∧ (losersR l).length ≤ cap' ∧ Ints w.heap.size w' a' (losersR l) ∧ Ext w w' := by
  obtain ⟨i0, hi, hz0, hz1, hz2⟩ := info_parts infoInt
  have HI := (show Hid _ from hi)
  have Z0 := (show Hid _ from hz0)
  have Z1 := (show Hid _ from hz1)
  have Z2 := (show Hid _ from hz2)
  clear hi hz0 hz1 hz2
  have HA := (show Hid (ofState [1, 3] (stateR l) 9 = losersR l) from ofState_losers l)
  generalize losersR l = lo at *
  go_enter Tryz.func59, Tryz.ntmps59
  go_wp2_with fail
  go_loopw [3, 4] (fun o i wr => ∃ k : Nat, k ≤ 9 ∧ i = .int .i64 ((k : Int) + 1) ∧ Ext w wr ∧ wr.ownsRow w.heap.size 3 1 o (ofState [1, 3] (stateR l) k).length (ivs (ofState [1, 3] (stateR l) k))) (fun _ i _ => 10 - (intOf i).toNat)
  case atStart => exact ⟨0, by omega, rfl, Ext.refl w, rfl, Or.inl ⟨rfl, rfl⟩⟩
  case round =>
    obtain ⟨k, hk, rfl, hE, hown⟩ := hrel
    by_cases hlt : k < 9
    · have HS := (show Hid _ from losers_take l k)
      have hml := ofState_len [1, 3] (stateR l) k
      generalize ofState [1, 3] (stateR l) k = ns at *
      have hkl : ((k : Int) + 1 ≤ 9) := by omega
      go_wp2_with fail
      refine (state_any a len cap l ((k : Int) + 1) wr (h.ext hE) hl).mono ?_
      rintro e w2 ⟨rfl, rfl⟩
      generalize stateR l ((k : Int) + 1) = s at *
      by_cases hs : s = 1 ∨ s = 3
      · have HS2 : Hid (ofState [1, 3] (stateR l) (k + 1) = ns ++ [(k : Int) + 1]) := by rw [Hid, HS.out, if_pos hs]
        obtain ⟨sa, sm, sc, rfl⟩ := own_slice hown
        obtain rfl := own_len hown
        have HO := (show Hid (w2.ownsRow w.heap.size 3 1 (.slice sa ns.length sc) ns.length (ivs ns)) from hown)
        clear hown
        rcases hs with rfl | rfl
        · go_wp2_with (at_builtin; refine wpList_append_lies _ rfl _ _ 45 rfl w.heap.size 3 i0 (.int .i64 0) 1 8 Tryz.underlying45 HI.out Z0.out Z1.out Z2.out rfl (by decide) (.slice sa ns.length sc) ns.length (ivs ns) rfl (own_ext HO.out ((Ext.refl w2).alloc _)) ⟨w2.heap.size, 0, none⟩ 1 1 [.int .i64 ((k : Int) + 1)] rfl rfl (cells_new _ [.int .i64 ((k : Int) + 1)] _ _ (by simp)) (fun x hx => by simp at hx; subst hx; rfl) (by decide) (by unfold maxLen; omega) (by omega) (by have := hE.size; simp; omega) _ rfl ?_; intro g cap' w3 hown' hgrow hg hgl)
          have hE3 : Ext w w3 := (hE.alloc _).grown (own_ext HO.out ((Ext.refl w2).alloc _)) hgrow
          refine ⟨⟨k + 1, by omega, by go_num, hE3, ?_⟩, by simp [intOf]; omega⟩
          rw [HS2.out, List.length_append, ivs_snoc]
          exact hown'
        · go_wp2_with (at_builtin; refine wpList_append_lies _ rfl _ _ 45 rfl w.heap.size 3 i0 (.int .i64 0) 1 8 Tryz.underlying45 HI.out Z0.out Z1.out Z2.out rfl (by decide) (.slice sa ns.length sc) ns.length (ivs ns) rfl (own_ext HO.out ((Ext.refl w2).alloc _)) ⟨w2.heap.size, 0, none⟩ 1 1 [.int .i64 ((k : Int) + 1)] rfl rfl (cells_new _ [.int .i64 ((k : Int) + 1)] _ _ (by simp)) (fun x hx => by simp at hx; subst hx; rfl) (by decide) (by unfold maxLen; omega) (by omega) (by have := hE.size; simp; omega) _ rfl ?_; intro g cap' w3 hown' hgrow hg hgl)
          have hE3 : Ext w w3 := (hE.alloc _).grown (own_ext HO.out ((Ext.refl w2).alloc _)) hgrow
          refine ⟨⟨k + 1, by omega, by go_num, hE3, ?_⟩, by simp [intOf]; omega⟩
          rw [HS2.out, List.length_append, ivs_snoc]
          exact hown'
      · have HS2 : Hid (ofState [1, 3] (stateR l) (k + 1) = ns) := by rw [Hid, HS.out, if_neg hs]
        have hb1 : (s == 1) = false := by simp; omega
        have hb3 : (s == 3) = false := by simp; omega
        clear hs
        go_wp2_with fail
        go_roundw
        case rel => exact ⟨k + 1, by omega, by go_num, hE, by rw [HS2.out]; exact hown⟩
        case measure => simp [intOf]; omega
    · obtain rfl : k = 9 := by omega
      rw [HA.out] at hown
      have hml : lo.length ≤ 9 := by rw [← HA.out]; exact ofState_len _ _ _
      obtain ⟨sa, sc, rfl, hc, hr⟩ := Ints.of_own hown
      go_wp2_with fail
      go_ret
      exact ⟨sa, sc, rfl, hc, hr, hE⟩
set_option maxHeartbeats 1000000 in
theorem losersOf_any (a : Option Addr) (len cap : Nat) (l : List Rc) (w : World) (h : Recs w a len l) (hcap : len ≤ cap) (hm : len ≤ maxLen) :
    Calls Tryz.prog 30 #[.slice a len cap] w fun e w' => (∃ a' cap', e = .returned (.tuple #[.slice a' (losersOr l).length cap', .int .i64 (logErr l)]) ∧ (losersOr l).length ≤ cap' ∧ Ints w.heap.size w' a' (losersOr l)) ∧ Ext w w' := by
  have H := logError_any a len cap l w h hcap hm
  have HL : Hid (logErr l = 0 → len ≤ 60) := fun hz => by have := (logErr_zero hz).1; have := h.len; omega
  have HW0 : Hid (logErr l = 0 → losersOr l = losersR l) := losersOr_ok
  have HW1 : Hid (logErr l ≠ 0 → losersOr l = []) := losersOr_no
  generalize logErr l = x at *
  generalize losersOr l = lo at *
  go_enter Tryz.func30, Tryz.ntmps30
  go_wp2_with fail
  refine H.mono ?_
  rintro e w1 ⟨rfl, hE1⟩
  clear H
  by_cases h0 : x = 0
  · subst h0
    have hl := HL.out rfl
    have hlo := HW0.out rfl
    subst hlo
    clear HL HW0 HW1
    go_wp2_with fail
    refine (refLosers_any a len cap l _ (h.ext hE1) (by omega)).mono ?_
    rintro e w2 ⟨a', cap', rfl, hc, hi, hE2⟩
    go_wp2_with fail
    go_ret2
    exact ⟨⟨a', cap', rfl, hc, hi.low hE1.size⟩, hE1.trans hE2⟩
  · have hb : (x != 0) = true := by simpa using h0
    have hlo := HW1.out h0
    subst hlo
    go_wp2_with fail
    go_ret2
    exact ⟨⟨none, 0, rfl, Nat.le_refl _, Or.inl rfl⟩, hE1⟩
end Go.Proofs.YtbfefocehnafgaaGreat.B
