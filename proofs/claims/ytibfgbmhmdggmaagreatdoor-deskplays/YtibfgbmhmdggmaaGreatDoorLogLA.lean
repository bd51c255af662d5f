/- A region that draws its order, whose operations that do more than yield a value come one behind the other: one walk, in the order of the text, serves every order. The laws' some(): nine records. logBegun answers true. The contract of the reference's StateOf. -/
import Derived.Test.YtibfgbmhmdggmaaGreatDoorBookB
import Derived.ArgAppend
import Derived.Laws.MakeOwn
namespace Go.Proofs.YtibfgbmhmdggmaaGreatDoor.B
set_option maxHeartbeats 32000000
set_option maxRecDepth 100000
open Go.ChangeShapes Go.WideShapes Go.ChangeAt Go.RowKit
def floatB : Op → Bool
 | .move _ | .assign _ | .pick _ _ _ | .build _ _ | .load _ _ | .binOp _ _ _ _ _ | .unOp _ _ _ | .convert _ _ _ | .makeFunc _ _ _ | .slice _ _ _ _ _ | .fieldAddr _ _ _ | .field _ _ _ | .indexAddr _ _ _ | .index _ _ _ | .lookup _ _ _ _ | .extract _ _ | .nilCheck _ => true
 | _ => false
theorem valued_v {P : Program} {s : Sem Value} {w w' : World} {n : Next} (h : ((do pure (Next.value (← s))) : Sem Next).run P w = .ok n w') : ∃ v, n = .value v := by
 simp only [Sem.run_bind, Sem.run_pure] at h
 cases hs : s.run P w with
 | ok v w2 => rw [hs] at h; simp only [Result.andThen_ok] at h; injection h with h1 _; exact ⟨v, h1.symm⟩
 | _ => rw [hs] at h; cases h
theorem nil_valued {P : Program} {ρ : Operand → Value} {x : Operand} {dst : Option Nat} {type : TypeId} {pos : String} {after : Array Edge} {guard : Option (Nat × Bool)} {w w' : World} {n : Next} (h : (execOp ρ ⟨dst, .nilCheck x, type, pos, after, guard⟩).run P w = .ok n w') : ∃ v, n = .value v := by
 unfold execOp at h
 dsimp only at h
 split at h
 ·simp [runtimePanic, go_sem] at h
 ·simp [runtimePanic, go_sem] at h
 ·simp [runtimePanic, go_sem] at h
 ·split at h
  ·simp [runtimePanic, go_sem] at h
  ·rename_i t u _
   simp only [Sem.run_bind] at h
   cases h1 : Sem.run P program w with
   | ok p w1 =>
    rw [h1] at h
    simp only [Result.andThen_ok] at h
    cases h2 : Sem.run P (nilAhead (p.types.size + Made.depth) t u _) w1 with
    | ok q w2 =>
     rw [h2] at h
     simp only [Result.andThen_ok] at h
     split at h
     ·simp [unsupported, go_sem] at h
     ·simp only [Sem.run_pure] at h; injection h with h3 _; exact ⟨_, h3.symm⟩
    | _ => rw [h2] at h; cases h
   | _ => rw [h1] at h; cases h
  ·simp only [Sem.run_pure] at h; injection h with h1 _; exact ⟨_, h1.symm⟩
 ·simp only [Sem.run_pure] at h; injection h with h1 _; exact ⟨_, h1.symm⟩
theorem float_valued {P : Program} {ρ : Operand → Value} {o : Oper} {w w' : World} {n : Next} (hf : floatB o.op = true) (h : (execOp ρ o).run P w = .ok n w') : ∃ v, n = .value v := by
 obtain ⟨dst, op, type, pos, after, guard⟩ := o
 cases op <;> first | (simp only [floatB, Bool.false_eq_true] at hf; done) | exact nil_valued h | skip
 all_goals unfold execOp at h
 all_goals dsimp only at h
 all_goals first
  | exact valued_v h
  | (simp only [Sem.run_pure] at h; injection h with h1 _; exact ⟨_, h1.symm⟩)
  | skip
 all_goals
  simp only [Sem.run_bind, Sem.run_pure] at h
  rename_i c x y
  cases hs : (asBool (ρ c)).run P w with
  | ok v w2 => rw [hs] at h; simp only [Result.andThen_ok] at h; injection h with h1 _; exact ⟨_, h1.symm⟩
  | _ => rw [hs] at h; cases h
section
variable {P : Program} {ops : Array Oper} {Q : Exit → Act → World → Prop} {S : World → Prop}
def depsOk (k : Nat) (o : Oper) : Bool := o.after.all fun e => !Region.binds .any e || decide (e.on < k)
def waitsOn (k : Nat) (o : Oper) : Bool := o.after.any fun e => Region.binds .any e && e.on == k
def waitsGe (k : Nat) (o : Oper) : Bool := o.after.any fun e => Region.binds .any e && decide (k ≤ e.on)
def flatL (segs : List (List Oper × Oper)) (last : List Oper) : List Oper := match segs with
 | [] => last
 | (seg, o) :: more => seg ++ (o :: flatL more last)
def chkSeg (ops : Array Oper) : Nat → List Oper → List Oper → Bool
 | _, [], _ => true
 | k, o :: seg, rest => floatB o.op && (depsOk k o && ((seg ++ rest).all (fun oj => waitsOn k oj || o.apart ops oj) && chkSeg ops (k + 1) seg rest))
def chkL (ops : Array Oper) : Nat → List (List Oper × Oper) → List Oper → Bool
 | k, [], last => chkSeg ops k last []
 | k, (seg, o) :: more, last => chkSeg ops k seg (o :: flatL more last) && (depsOk (k + seg.length) o && ((flatL more last).all (waitsGe (k + seg.length)) && chkL ops (k + seg.length + 1) more last))
def InvL (ops : Array Oper) (k : Nat) (listed : Array Bool) : Prop := listed.size = ops.size ∧ ∀ j, j < ops.size → listed[j]? = some (decide (j < k))
theorem InvL.step {ops : Array Oper} {k : Nat} {listed : Array Bool} (h : InvL ops k listed) (hk : k < ops.size) : InvL ops (k + 1) (listed.setIfInBounds k true) := by
 refine ⟨by rw [Array.size_setIfInBounds]; exact h.1, fun j hj => ?_⟩
 rw [Array.getElem?_setIfInBounds]
 by_cases e : k = j
 ·subst e
  rw [if_pos rfl, if_pos (by rw [h.1]; exact hk)]
  simp
 ·rw [if_neg e, h.2 j hj]
  congr 1
  by_cases hjk : j < k
  ·simp [hjk]; omega
  ·simp [hjk]; omega
theorem InvL.un {ops : Array Oper} {k : Nat} {listed : Array Bool} (h : InvL ops k listed) {j : Nat} (hj : listed.getD j true = false) : j < ops.size ∧ k ≤ j := by
 by_cases hs : j < ops.size
 ·have := h.2 j hs
  rw [Array.getD_eq_getD_getElem?, this] at hj
  simp at hj
  exact ⟨hs, hj⟩
 ·rw [Array.getD_eq_getD_getElem?, Array.getElem?_eq_none (by rw [h.1]; omega)] at hj
  cases hj
theorem InvL.free {ops : Array Oper} {k : Nat} {listed : Array Bool} (h : InvL ops k listed) (hk : k < ops.size) : listed.getD k true = false := by
 rw [Array.getD_eq_getD_getElem?, h.2 k hk]; simp
theorem InvL.came {ops : Array Oper} {k : Nat} {listed : Array Bool} (h : InvL ops k listed) (hk : k ≤ ops.size) {j : Nat} (hj : j < k) : listed.getD j false = true := by
 rw [Array.getD_eq_getD_getElem?, h.2 j (by omega)]; simp [hj]
theorem InvL.not {ops : Array Oper} {k : Nat} {listed : Array Bool} (h : InvL ops k listed) {j : Nat} (hj : k ≤ j) : listed.getD j false = false := by
 by_cases hs : j < ops.size
 ·rw [Array.getD_eq_getD_getElem?, h.2 j hs]; simp; omega
 ·rw [Array.getD_eq_getD_getElem?, Array.getElem?_eq_none (by rw [h.1]; omega)]; rfl
theorem InvL.ready {ops : Array Oper} {k : Nat} {listed : Array Bool} (h : InvL ops k listed) {o : Oper} (ho : ops[k]? = some o) (hd : depsOk k o = true) : k ∈ Region.ready .any ops listed := by
 have hk : k < ops.size := (Array.getElem?_eq_some_iff.1 ho).1
 refine mem_ready.2 ⟨h.free hk, o, ho, fun e he hb => ?_⟩
 unfold depsOk at hd
 rw [Array.all_eq_true_iff_forall_mem] at hd
 have := hd e he
 rw [hb] at this
 simp at this
 exact h.came (by omega) this
theorem seg_sound (hs : Region.noSelect ops = true) (hQ : ∀ c a d v w, Q (.panic c) (a.put d v) w → Q (.panic c) a w) : ∀ (seg rest : List Oper) (k : Nat) (listed : Array Bool) (a : Act) (w : World) (fuel : Nat) (K : Act → Prop),
  (∀ j, (seg ++ rest)[j]? = ops[k + j]?) → chkSeg ops k seg rest = true → InvL ops k listed → S w →
  (∀ a' listed', InvL ops (k + seg.length) listed' → K a' → wpAnyH P .any ops Q S fuel listed' a' w) → wpQuiet P ops S K seg a → wpAnyH P .any ops Q S (fuel + seg.length) listed a w := by
 intro seg
 induction seg with
 | nil => intro rest k listed a w fuel K _ _ hI _ hK h; exact hK a listed hI h
 | cons o seg ih =>
  intro rest k listed a w fuel K hpos hB hI hS hK h
  have hk : ops[k]? = some o := by have := hpos 0; simpa using this.symm
  have hks : k < ops.size := (Array.getElem?_eq_some_iff.1 hk).1
  simp only [chkSeg, Bool.and_eq_true] at hB
  obtain ⟨hfl, hd, hall, hB⟩ := hB
  have hpos' : ∀ j, (seg ++ rest)[j]? = ops[k + 1 + j]? := fun j => by
   have := hpos (j + 1)
   rw [List.cons_append, List.getElem?_cons_succ] at this
   rw [this, show k + 1 + j = k + (j + 1) from by omega]
  have hgo : ∀ v, YieldsIf P ops S o v a → wpQuiet P ops S K seg (a.put o.dst v) → wpAnyH P .any ops Q S (fuel + (o :: seg).length) listed a w := fun v hy hn => by
   have hnext := ih rest (k + 1) (listed.setIfInBounds k true) (a.put o.dst v) w fuel K hpos' hB (hI.step hks) hS (fun a' l' hI' hk' => hK a' l' (by rw [List.length_cons, show k + (seg.length + 1) = k + 1 + seg.length from by omega]; exact hI') hk') hn
   refine wpAnyH_first hk (Region.noSelect_spec hs) (fun c a w h => hQ c a o.dst v w h) (fuel + seg.length) listed a w ?_ (hI.ready hk hd) hy hS hnext
   intro j oj hj hne hun hno
   obtain ⟨_, hge⟩ := hI.un hun
   have hmem : oj ∈ seg ++ rest := by
    have := hpos' (j - (k + 1))
    rw [show k + 1 + (j - (k + 1)) = j from by omega, hj] at this
    exact List.mem_of_getElem? this
   have := List.all_eq_true.1 hall oj hmem
   rw [Bool.or_eq_true] at this
   rcases this with hw | hap
   ·unfold waitsOn at hw
    obtain ⟨e, he, hb⟩ := Array.any_eq_true'.1 hw
    simp only [Bool.and_eq_true, beq_iff_eq] at hb
    exact absurd hb.2 (hno e he hb.1)
   ·exact hap
  unfold wpQuiet at h
  by_cases hw : Region.wanted o (yielded ops a.tmps) = true
  ·rw [if_pos hw] at h
   obtain ⟨v, hv, hn⟩ := h
   refine hgo v (Or.inl ⟨hw, fun w' hS' => ?_⟩) hn
   have hq := hv w' hS'
   unfold Oper.quietAt at hq
   cases hx : (execOp a.eval o).run P w' with
   | ok n w2 =>
    obtain ⟨u, rfl⟩ := float_valued hfl hx
    rw [hx] at hq
    obtain ⟨rfl, rfl⟩ := hq
    rfl
   | _ => rw [hx] at hq; exact hq.elim
  ·rw [if_neg hw] at h
   exact hgo undef (Or.inr ⟨by simpa using hw, rfl⟩) h
def wpLine (P : Program) (ops : Array Oper) (Q : Exit → Act → World → Prop) (S : World → Prop) : List (List Oper × Oper) → List Oper → Act → World → Prop
 | [], last, a, w => wpQuiet P ops S (fun a' => Q .normal a' w) last a
 | (seg, o) :: more, last, a, w => wpQuiet P ops S (fun a' => ∀ K' : Act → World → Prop, Shut (∀ a w, S w → (S w → wpLine P ops Q S more last a w) → K' a w) → if Region.wanted o (yielded ops a'.tmps) = true then Oper.wp P o a' w K' Q else K' (a'.put o.dst undef) w) seg a
theorem line_sound (hs : Region.noSelect ops = true) (hQ : ∀ c a d v w, Q (.panic c) (a.put d v) w → Q (.panic c) a w) : ∀ (segs : List (List Oper × Oper)) (last : List Oper) (k : Nat) (listed : Array Bool) (a : Act) (w : World),
  (∀ j, (flatL segs last)[j]? = ops[k + j]?) → chkL ops k segs last = true → InvL ops k listed → S w → wpLine P ops Q S segs last a w → wpAnyH P .any ops Q S (flatL segs last).length listed a w := by
 intro segs
 induction segs with
 | nil =>
  intro last k listed a w hpos hB hI hS h
  have := seg_sound (fuel := 0) hs hQ last [] k listed a w (K := fun a' => Q .normal a' w) (fun j => by rw [List.append_nil]; exact hpos j) hB hI hS (fun a' l' hI' ha => wpAnyH_done (List.eq_nil_iff_forall_not_mem.2 fun j hj => by
   obtain ⟨hun, o, ho, _⟩ := mem_ready.1 hj
   obtain ⟨h1, h2⟩ := hI'.un hun
   have := hpos (j - k)
   rw [show k + (j - k) = j from by omega, ho] at this
   have hlt := (List.getElem?_eq_some_iff.1 this).1
   simp only [flatL] at hlt
   omega) ha 0) h
  simpa [flatL] using this
 | cons s more ih =>
  intro last k listed a w hpos hB hI hS h
  obtain ⟨seg, o⟩ := s
  simp only [chkL, Bool.and_eq_true] at hB
  obtain ⟨hB1, hd, hge, hB2⟩ := hB
  have hko : ops[k + seg.length]? = some o := by
   rw [← hpos seg.length]
   simp [flatL]
  have hkl : k + seg.length < ops.size := (Array.getElem?_eq_some_iff.1 hko).1
  have hp2 : ∀ j, (flatL more last)[j]? = ops[k + seg.length + 1 + j]? := fun j => by
   have := hpos (seg.length + (j + 1))
   simp only [flatL] at this
   rw [List.getElem?_append_right (by omega), show seg.length + (j + 1) - seg.length = j + 1 from by omega, List.getElem?_cons_succ] at this
   rw [this, show k + seg.length + 1 + j = k + (seg.length + (j + 1)) from by omega]
  have hlen : (flatL ((seg, o) :: more) last).length = (flatL more last).length + 1 + seg.length := by simp only [flatL, List.length_append, List.length_cons]; omega
  rw [hlen]
  refine seg_sound hs hQ seg (o :: flatL more last) k listed a w _ _ (fun j => by have := hpos j; simpa only [flatL] using this) hB1 hI hS ?_ h
  intro a' l' hI' ha
  have honly : ∀ i ∈ Region.ready .any ops l', i = k + seg.length := fun i hi => by
   obtain ⟨hun, oi, hoi, hdeps⟩ := mem_ready.1 hi
   obtain ⟨h1, h2⟩ := hI'.un hun
   by_cases e : i = k + seg.length
   ·exact e
   ·have hm : oi ∈ flatL more last := by
     have := hp2 (i - (k + seg.length + 1))
     rw [show k + seg.length + 1 + (i - (k + seg.length + 1)) = i from by omega, hoi] at this
     exact List.mem_of_getElem? this
    have hw := List.all_eq_true.1 hge oi hm
    unfold waitsGe at hw
    obtain ⟨ed, he, hb⟩ := Array.any_eq_true'.1 hw
    simp only [Bool.and_eq_true, decide_eq_true_eq] at hb
    have := hdeps ed he hb.1
    rw [hI'.not hb.2] at this
    cases this
  refine ⟨fun h0 => ?_, fun i hi => ?_⟩
  ·have := hI'.ready hko hd
   rw [h0] at this
   cases this
  ·obtain rfl := honly i hi
   refine wpOp_step hko (fun K hK => ?_)
   refine ha K (fun a2 w2 hS2 hgo => hK a2 w2 ⟨hS2, ?_⟩)
   exact ih last (k + seg.length + 1) _ a2 w2 hp2 hB2 (hI'.step hkl) hS2 (hgo hS2)
def cutL : List Nat → List Oper → List (List Oper × Oper) × List Oper
 | [], l => ([], l)
 | n :: ns, l => match l.drop n with
  | [] => ([], l)
  | o :: rest => (((l.take n, o) :: (cutL ns rest).1), (cutL ns rest).2)
theorem flat_cut : ∀ (ns : List Nat) (l : List Oper), flatL (cutL ns l).1 (cutL ns l).2 = l := by
 intro ns
 induction ns with
 | nil => intro l; rfl
 | cons n ns ih =>
  intro l
  unfold cutL
  cases h : l.drop n with
  | nil => rfl
  | cons o rest =>
   simp only [flatL, ih]
   rw [← h]
   exact List.take_append_drop n l
theorem wp_region_line {id : Nat} {a : Act} {w : World} {l : List Oper} (ns : List Nat) (hm : P.follows .mixedOrders = true) (hs : Region.noSelect l.toArray = true) (hQ : ∀ c a d v w, Q (.panic c) (a.put d v) w → Q (.panic c) a w)
  (hB : chkL l.toArray 0 (cutL ns l).1 (cutL ns l).2 = true) (hS : S w.drew)
  (h : wpLine P l.toArray Q S (cutL ns l).1 (cutL ns l).2 a w.drew) : (Code.region id l.toArray true).wp P Q a w := by
 refine wp_region_held (S := S) hm ?_
 have := line_sound hs hQ (cutL ns l).1 (cutL ns l).2 0 (Array.replicate l.toArray.size false) a w.drew (fun j => by rw [flat_cut]; simp) hB ⟨by simp, fun j hj => by simp at hj; simp [hj]⟩ hS h
 rw [flat_cut] at this
 simpa using this
theorem wpLine_cons {seg : List Oper} {o : Oper} {more : List (List Oper × Oper)} {last : List Oper} {a : Act} {w : World}
  (h : wpQuiet P ops S (fun a' => ∀ K' : Act → World → Prop, Shut (∀ a w, S w → (S w → wpLine P ops Q S more last a w) → K' a w) → if Region.wanted o (yielded ops a'.tmps) = true then Oper.wp P o a' w K' Q else K' (a'.put o.dst undef) w) seg a) :
  wpLine P ops Q S ((seg, o) :: more) last a w := h
theorem wpLine_nil {last : List Oper} {a : Act} {w : World} (h : wpQuiet P ops S (fun a' => Q .normal a' w) last a) : wpLine P ops Q S [] last a w := h
end
end Go.Proofs.YtibfgbmhmdggmaaGreatDoor.B
namespace Go.Proofs.YtibfgbmhmdggmaaGreatDoor.B
set_option maxHeartbeats 32000000
set_option maxRecDepth 100000
open Go.ChangeShapes Go.WideShapes Go.ChangeAt Go.RowKit
theorem stateOf_any (a : Option Addr) (len cap : Nat) (l : List Rc) (t : Int) (w : World) (h : Recs w a len l) (hcap : len ≤ cap) (hm : len ≤ maxLen) :
  Calls Tryz.prog 34 #[.slice a len cap, .int .i64 t] w fun e w' => e = .returned (.tuple #[.int .i64 (stateAns l t).1, .int .i64 (stateAns l t).2.1, .int .i64 (stateAns l t).2.2]) ∧ Ext w w' := by
 have HS : Hid (stateAns l t = if logErr l = 0 then (if out 1 9 [t] then (0, 0, 3) else (stateR l t, ((lastR l t : Nat) : Int), 0)) else (0, 0, logErr l)) := rfl
 have HL : Hid (logErr l = 0 → len ≤ 1000) := fun hz => by have := (logErr_zero hz).1; have := h.len; omega
 have H1 := logError_any a len cap l w h hcap hm
 generalize stateAns l t = sa at *
 generalize logErr l = x at *
 go_enter Tryz.func34, Tryz.ntmps34
 go_wp2_with fail
 refine H1.mono ?_
 rintro e w1 ⟨rfl, hE⟩
 clear H1
 by_cases h0 : x = 0
 ·subst h0
  have hl := HL.out rfl
  go_wp2_with fail
  refine (within_any t 1 9 _).mono ?_
  rintro e w2 ⟨rfl, rfl⟩
  cases hw : wi t 1 9
  ·have HO : Hid (out 1 9 [t] = true) := by rw [Hid, out_one, hw]; rfl
   go_wp2_with fail
   refine bodyPost_ret (v := .tuple #[.int .i64 0, .int .i64 0, .int .i64 3]) (by simp [results, Tryz.results34, go_sem]) rfl ⟨by rw [HS.out, if_pos trivial, HO.out]; rfl, ?_⟩
   exact hE
  ·have HO : Hid (out 1 9 [t] = false) := by rw [Hid, out_one, hw]; rfl
   go_wp2_with fail
   refine (state_any a len cap l t _ (h.ext hE) hl).mono ?_
   rintro e w2 ⟨rfl, rfl⟩
   go_wp2_with fail
   refine (last_any a len cap l t _ (h.ext hE) hl).mono ?_
   rintro e w2 ⟨rfl, rfl⟩
   go_wp2_with fail
   refine bodyPost_ret (v := .tuple #[.int .i64 (stateR l t), .int .i64 (lastR l t : Nat), .int .i64 0]) (by simp [results, Tryz.results34, go_sem]) rfl ⟨by rw [HS.out, if_pos trivial, HO.out]; rfl, ?_⟩
   exact hE
 ·have hb : (x != 0) = true := by simpa using h0
  go_wp2_with fail
  refine bodyPost_ret (v := .tuple #[.int .i64 0, .int .i64 0, .int .i64 x]) (by simp [results, Tryz.results34, go_sem]) rfl ⟨by rw [HS.out, if_neg h0], ?_⟩
  exact hE
end Go.Proofs.YtibfgbmhmdggmaaGreatDoor.B
