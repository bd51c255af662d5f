/- What the walks of this seat lean on: a world that only grew, closures that answer a bool, and the plain readings of pages and records. A region that draws its order, whose operations read and whose callees only lay new blocks: one walk, in the order of the text, serves every order. How the arguments of these laws are opened: a page, a record, a number, as values; what was read reads as it did behind a call that turned nothing. The contract of the laws' choose. The contracts of package ask and of the reference's within: what they answer, whatever they are handed. -/
import Derived.Test.YtibfgbmhmdggmaaGreatDoorRows
import Derived.WalkKit
import Derived.ProofKit
import Derived.OpenShut
import Derived.WalkLawsBesides
import Derived.Deep.LoopGhost
import Derived.BigQuiet
import Derived.Deep.QuietTactic
import Derived.Deep.RegionWith
import Derived.Deep.RegionHeld
import Derived.ShutString
import Derived.ChangeOld
namespace Go.Proofs.YtibfgbmhmdggmaaGreatDoor.B
set_option maxHeartbeats 32000000
set_option maxRecDepth 100000
open Go.ChangeShapes Go.WideShapes Go.ChangeAt Go.RowKit
theorem tkn {P : Program} {ops : Array Oper} {Q : Exit → Act → World → Prop} {md : Region.Mode} {S : World → Prop} {oi : Oper} {v : Value} {fuel : Nat} {listed : Array Bool} {a : Act} {w : World} (i : Nat) (hi : ops[i]? = some oi) (hS : S w)
  (h : wpAnyH P md ops Q S fuel (listed.setIfInBounds i true) (a.put oi.dst v) w)
  (hw : Region.wanted oi (yielded ops a.tmps) = true := by rfl)
  (hy : ∀ w, S w → (execOp a.eval oi).run P w = .ok (.value v) w := by intro w hSw; (try dsimp only at hSw); go_simp <;> with_reducible rfl)
  (hs : Region.noSelect ops = true := by kernel_rfl) (hf : Region.free md ops listed i = true := by kernel_rfl) (hr : (Region.ready md ops listed).contains i = true := by kernel_rfl)
  (hQ : ∀ c a w, Q (.panic c) (a.put oi.dst v) w → Q (.panic c) a w := by exact fun _ _ _ h => h) : wpAnyH P md ops Q S (fuel + 1) listed a w :=
 wpAnyH_take hi hs hf hr hQ (Or.inl ⟨hw, hy⟩) hS h
theorem exn {P : Program} {ops : Array Oper} {Q : Exit → Act → World → Prop} {md : Region.Mode} {S : World → Prop} {o : Oper} {fuel : Nat} {listed : Array Bool} {a : Act} {w : World} (i : Nat) (ho : ops[i]? = some o)
  (h : ∀ K' : Act → World → Prop, Shut (∀ a w, S w → (S w → wpAnyH P md ops Q S fuel (listed.setIfInBounds i true) a w) → K' a w) → if Region.wanted o (yielded ops a.tmps) = true then Oper.wp P o a w K' Q else K' (a.put o.dst undef) w)
  (hr : Region.ready md ops listed = [i] := by kernel_rfl) : wpAnyH P md ops Q S (fuel + 1) listed a w :=
 wpAnyH_ready hr (by simp) (AllReadyH.cons ho h AllReadyH.nil)
def Ext (w w' : World) : Prop := Below w.heap.size w w'
theorem Ext.refl (w : World) : Ext w w := Below.refl _ _
theorem Ext.trans {a b c : World} (h : Ext a b) (k : Ext b c) : Ext a c := Below.trans h (Below.mono k h.size)
theorem Ext.drew {a b : World} (h : Ext a b) : Ext a b.drew := Below.drew h
theorem Ext.drewN {a b : World} (h : Ext a b) (n : Nat) : Ext a (b.drewN n) := ⟨h.os, h.tape, h.output, h.size, h.block⟩
theorem Ext.alloc {a b : World} (h : Ext a b) (o : Obj) : Ext a (b.alloc o) := Below.alloc h h.size o
theorem Ext.setCell {a b : World} (h : Ext a b) {p : Addr} (hp : a.heap.size ≤ p.block) (v : Value) : Ext a (b.setCell p v) := Below.setCell h hp v
theorem cell_lt {w : World} {p : Addr} {v : Value} (h : w.cell? p = some v) : p.block < w.heap.size := by
 by_cases hb : p.block < w.heap.size
 ·exact hb
 ·have : w.heap[p.block]? = none := by simp; omega
  simp [World.cell?, this] at h
theorem Ext.cell {w w' : World} (h : Ext w w') {p : Addr} {v : Value} (hc : w.cell? p = some v) : w'.cell? p = some v := by
 rw [Below.cell h (cell_lt hc)]; exact hc
def Blk (w : World) (k : Nat) (c : Array Value) (t : TypeId) : Prop := w.heap[k]? = some (.cells c t)
theorem Blk.cell {w : World} {k : Nat} {c : Array Value} {t : TypeId} (h : Blk w k c t) : ∀ o, w.cell? ⟨k, o, none⟩ = c[o]? := by
 intro o; unfold Blk at h; simp [World.cell?, h]
theorem Blk.fr {w : World} {k : Nat} {c : Array Value} {t : TypeId} (h : Blk w k c t) : ∀ o, w.frozen? ⟨k, o, none⟩ = false := by
 intro o; unfold Blk at h; simp [World.frozen?, h]
theorem Blk.lt {w : World} {k : Nat} {c : Array Value} {t : TypeId} (h : Blk w k c t) : k < w.heap.size := by
 by_cases hb : k < w.heap.size
 ·exact hb
 ·have : w.heap[k]? = none := by simp; omega
  simp [Blk, this] at h
theorem Blk.ext {w w' : World} {k : Nat} {c : Array Value} {t : TypeId} (h : Blk w k c t) (e : Ext w w') : Blk w' k c t := by
 have := e.block k h.lt; unfold Blk at *; rw [this]; exact h
theorem Blk.alloc {w : World} {k : Nat} {c : Array Value} {t : TypeId} (h : Blk w k c t) (o : Obj) : Blk (w.alloc o) k c t := h.ext ((Ext.refl w).alloc o)
theorem Blk.drewN {w : World} {k : Nat} {c : Array Value} {t : TypeId} (h : Blk w k c t) (n : Nat) : Blk (w.drewN n) k c t := h
theorem Blk.drew {w : World} {k : Nat} {c : Array Value} {t : TypeId} (h : Blk w k c t) : Blk w.drew k c t := h
theorem Blk.new (w : World) (k : Nat) (c : Array Value) (t : TypeId) (h : k = w.heap.size) : Blk (w.alloc (.cells c t)) k c t := by
 subst h; unfold Blk World.alloc; simp
theorem Blk.set {w : World} {k : Nat} {c : Array Value} {t : TypeId} (h : Blk w k c t) (o : Nat) (v : Value) : Blk (w.setCell ⟨k, o, none⟩ v) k (c.setIfInBounds o v) t := by
 unfold Blk at *; simp [World.setCell, Array.getElem?_modify, h]
theorem Blk.other {w : World} {k : Nat} {c : Array Value} {t : TypeId} (h : Blk w k c t) (p : Addr) (v : Value) (hk : k ≠ p.block) : Blk (w.setCell p v) k c t := by
 unfold Blk at *; rw [Below.heap_setCell _ _ _ _ hk]; exact h
theorem callFunc_enter {P : Program} {f : FuncId} {fn : Func} (args : Array Value) (w : World) (hf : P.funcs[f]? = some fn) (hn : (fn.name == "runtime.NumGoroutine") = false) (hb : fn.body.isNone = false) :
  (callFunc f args).run P w = .ok (.enter f args) w := by
 have hn' : ¬ fn.name = "runtime.NumGoroutine" := by simpa using hn
 have hb' : ¬ fn.body = none := by intro h; rw [h] at hb; simp at hb
 simp [callFunc, hf, hn', hb', go_sem]
def Ans (f : FuncId) (caps : Array Value) (w : World) (b : Bool) : Prop :=
 (∀ w, (callFunc f caps).run Tryz.prog w = .ok (.enter f caps) w) ∧ ∀ w', Ext w w' → Calls Tryz.prog f caps w' fun e w'' => e = .returned (.bool b) ∧ Ext w' w''
structure Pg where
 c0 : Int
 c1 : Int
 c2 : Int
 last : Int
abbrev Pg.val (p : Pg) : Value := .agg #[.int .i64 p.c0, .int .i64 p.c1, .int .i64 p.c2, .int .i64 p.last]
structure Rc where
 kind : Int
 txn : Int
 prev : Int
 page : Int
 cell : Int
 old : Int
 new : Int
 next : Int
abbrev Rc.val (r : Rc) : Value := .agg #[.int .i64 r.kind, .int .i64 r.txn, .int .i64 r.prev, .int .i64 r.page, .int .i64 r.cell, .int .i64 r.old, .int .i64 r.new, .int .i64 r.next]
def wi (n lo hi : Int) : Bool := decide (lo ≤ n) && decide (n ≤ hi)
def out (lo hi : Int) (xs : List Int) : Bool := xs.any fun n => decide (n < lo) || decide (hi < n)
theorem out_drop (lo hi : Int) (xs : List Int) (k : Nat) (h : k < xs.length) : out lo hi (xs.drop k) = (decide (xs[k] < lo) || decide (hi < xs[k]) || out lo hi (xs.drop (k+1))) := by
 have e := List.drop_eq_getElem_cons h
 unfold out
 rw [e, List.any_cons]
theorem drop_any (fs : List (FuncId × Array Value × Bool)) (k : Nat) (h : k < fs.length) : ((fs.drop k).any fun x => x.2.2) = (fs[k].2.2 || ((fs.drop (k+1)).any fun x => x.2.2)) := by
 have e := List.drop_eq_getElem_cons h
 rw [e, List.any_cons]
structure Calm (W : World) (F : World → World) : Prop where
 ext : ∀ v, Ext W (F v)
 same : ∀ v, Ext W v → F v = v
theorem calm_there (W : World) : ∃ F, Calm W F := by
 refine ⟨fun v => (Classical.propDecidable (Ext W v)).rec (fun _ => W) (fun _ => v), fun v => ?_, fun v h => ?_⟩
 ·cases Classical.propDecidable (Ext W v) with
  | isTrue h => exact h
  | isFalse h => exact Ext.refl W
 ·cases Classical.propDecidable (Ext W v) with
  | isTrue _ => rfl
  | isFalse hn => exact absurd h hn
theorem wp_region_calm {P : Program} {id : Nat} {Q : Exit → Act → World → Prop} {a : Act} {w : World} {l : List Oper} (hm : P.follows .mixedOrders = true) (hB : Region.lexB .any l.toArray = true)
  (h : ∀ F, Calm w F → wpQuiet P l.toArray (fun w' => ∃ v, w' = F v) (fun a' => ∀ w', (∃ v, w' = F v) → Q .normal a' w') l a) : (Code.region id l.toArray true).wp P Q a w := by
 obtain ⟨F, hF⟩ := calm_there w
 exact wp_region_quiet (C := fun w' => ∃ v, w' = F v) hm hB ⟨w.drew, (hF.same w.drew (Ext.refl w).drew).symm⟩ (by simpa using h F hF)
theorem Calm.call {P : Program} {f : FuncId} {args : Array Value} {W : World} {F : World → World} (hF : Calm W F) {x : World} {v : Value}
  (h : Calls P f args (F x) fun e w' => e = .returned v ∧ Ext (F x) w') : Calls P f args (F x) fun e w'' => e = .returned v ∧ ∃ y, w'' = F y :=
 h.mono fun _ w' ⟨he, hw'⟩ => ⟨he, w', (hF.same w' ((hF.ext x).trans hw')).symm⟩
theorem Calm.still {P : Program} {f : FuncId} {args : Array Value} {W : World} {F : World → World} (_ : Calm W F) {x : World} {v : Value}
  (h : Calls P f args (F x) fun e w' => e = .returned v ∧ w' = F x) : Calls P f args (F x) fun e w'' => e = .returned v ∧ ∃ y, w'' = F y :=
 h.mono fun _ _ ⟨he, hw'⟩ => ⟨he, x, hw'⟩
theorem Calm.cell {W : World} {F : World → World} (hF : Calm W F) {k : Nat} {c : Array Value} {t : TypeId} (h : Blk W k c t) : ∀ (x : World) (o : Nat), (F x).cell? ⟨k, o, none⟩ = c[o]? := fun x => (h.ext (hF.ext x)).cell
theorem own : ownKnob Tryz.prog.godebug = none := by kernel_rfl
theorem laidOut : laidOutB Tryz.prog = true := by kernel_rfl
theorem lt_of_trod {H : Type} {enc : TypeId × Value → H} {t : TypeId} {W : World} {v : Value} {d : DataW H} {ps : List MemPlace}
  (h : DataW.Trod enc Tryz.prog W 0 (fun _ => true) true t v d ps) : ∀ x ∈ ps, x.block < W.heap.size := by
 obtain ⟨m, hm⟩ := h; exact DataW.trod_lt m _ _ _ hm
theorem within_any (n lo hi : Int) (w : World) :
  Calls Tryz.prog 46 #[.int .i64 n, .int .i64 lo, .int .i64 hi] w fun e w' => e = .returned (.bool (wi n lo hi)) ∧ w' = w := by
 by_cases h1 : lo ≤ n
 ·by_cases h2 : n ≤ hi
  ·have : wi n lo hi = true := by simp [wi, h1, h2]
   rw [this]; clear this
   go_enter Tryz.func46, Tryz.ntmps46
   go_wp2
   go_ret
   exact ⟨rfl, rfl⟩
  ·have : wi n lo hi = false := by simp [wi, h2]
   rw [this]; clear this
   go_enter Tryz.func46, Tryz.ntmps46
   go_wp2
   go_ret
   exact ⟨rfl, rfl⟩
 ·have : wi n lo hi = false := by simp [wi, h1]
  rw [this]; clear this
  go_enter Tryz.func46, Tryz.ntmps46
  go_wp2
  go_ret
  exact ⟨rfl, rfl⟩
theorem outside_any (lo hi : Int) (b off cap : Nat) (xs : List Int) (w : World) (hl : xs.length < 2^40)
  (hx : ∀ i, (h : i < xs.length) → w.cell? ⟨b, off + i, none⟩ = some (.int .i64 xs[i])) :
  Calls Tryz.prog 105 #[.int .i64 lo, .int .i64 hi, .slice (some ⟨b, off, none⟩) xs.length cap] w fun e w' => e = .returned (.bool (out lo hi xs)) ∧ w' = w := by
 go_enter Tryz.func105, Tryz.ntmps105
 go_wp2
 go_loop [11] (fun i => ∃ k : Nat, k ≤ xs.length ∧ i = .int .i64 k ∧ out lo hi xs = out lo hi (xs.drop k)) (fun i => xs.length - (intOf i).toNat)
 case atStart => exact ⟨0, Nat.zero_le _, rfl, rfl⟩
 case round =>
  obtain ⟨k, hk, rfl, ho⟩ := hrel
  have HO : Hid (out lo hi xs = out lo hi (xs.drop k)) := ho
  clear ho
  by_cases hlt : k < xs.length
  ·have hc := hx k hlt
   have HS : Hid (out lo hi (xs.drop k) = (decide (xs[k] < lo) || decide (hi < xs[k]) || out lo hi (xs.drop (k+1)))) := by
    exact out_drop lo hi xs k hlt
   clear hx
   generalize hxk : xs[k] = x at *
   clear hxk
   by_cases h1 : x < lo
   ·go_wp2
    go_ret
    refine ⟨?_, rfl⟩
    rw [HO.out, HS.out]; simp [h1]
   ·by_cases h2 : hi < x
    ·go_wp2
     go_ret
     refine ⟨?_, rfl⟩
     rw [HO.out, HS.out]; simp [h2]
    ·go_wp2
     go_round
     case rel => exact ⟨k + 1, by omega, by go_num, by rw [HO.out, HS.out]; simp [h1, h2]⟩
     case measure => simp [intOf]; omega
  ·go_wp2
   go_ret
   refine ⟨?_, rfl⟩
   rw [HO.out, List.drop_of_length_le (by omega)]; simp [out]
theorem outside_n (n : Nat) (lo hi : Int) (b off cap : Nat) (xs : List Int) (w : World) (hn : xs.length = n) (hl : n < 2^40)
  (hx : ∀ i, (h : i < xs.length) → w.cell? ⟨b, off + i, none⟩ = some (.int .i64 xs[i])) :
  Calls Tryz.prog 105 #[.int .i64 lo, .int .i64 hi, .slice (some ⟨b, off, none⟩) n cap] w fun e w' => e = .returned (.bool (out lo hi xs)) ∧ w' = w := by
 subst hn; exact outside_any lo hi b off cap xs w hl hx
theorem cells1 {w : World} {b off : Nat} {x0 : Int} (h0 : w.cell? ⟨b, off, none⟩ = some (.int .i64 x0)) : ∀ i, (h : i < [x0].length) → w.cell? ⟨b, off + i, none⟩ = some (.int .i64 [x0][i]) := by
 intro i h
 match i, h with
 | 0, _ => exact h0
theorem cells2 {w : World} {b off : Nat} {x0 x1 : Int} (h0 : w.cell? ⟨b, off, none⟩ = some (.int .i64 x0)) (h1 : w.cell? ⟨b, off + 1, none⟩ = some (.int .i64 x1)) : ∀ i, (h : i < [x0, x1].length) → w.cell? ⟨b, off + i, none⟩ = some (.int .i64 [x0, x1][i]) := by
 intro i h
 match i, h with
 | 0, _ => exact h0
 | 1, _ => exact h1
theorem cells3 {w : World} {b off : Nat} {x0 x1 x2 : Int} (h0 : w.cell? ⟨b, off, none⟩ = some (.int .i64 x0)) (h1 : w.cell? ⟨b, off + 1, none⟩ = some (.int .i64 x1)) (h2 : w.cell? ⟨b, off + 2, none⟩ = some (.int .i64 x2)) : ∀ i, (h : i < [x0, x1, x2].length) → w.cell? ⟨b, off + i, none⟩ = some (.int .i64 [x0, x1, x2][i]) := by
 intro i h
 match i, h with
 | 0, _ => exact h0
 | 1, _ => exact h1
 | 2, _ => exact h2
theorem cells4 {w : World} {b off : Nat} {x0 x1 x2 x3 : Int} (h0 : w.cell? ⟨b, off, none⟩ = some (.int .i64 x0)) (h1 : w.cell? ⟨b, off + 1, none⟩ = some (.int .i64 x1)) (h2 : w.cell? ⟨b, off + 2, none⟩ = some (.int .i64 x2)) (h3 : w.cell? ⟨b, off + 3, none⟩ = some (.int .i64 x3)) : ∀ i, (h : i < [x0, x1, x2, x3].length) → w.cell? ⟨b, off + i, none⟩ = some (.int .i64 [x0, x1, x2, x3][i]) := by
 intro i h
 match i, h with
 | 0, _ => exact h0
 | 1, _ => exact h1
 | 2, _ => exact h2
 | 3, _ => exact h3
theorem any_any (b cap : Nat) (fs : List (FuncId × Array Value × Bool)) (w : World) (hl : fs.length < 2^40)
  (hx : ∀ i, (h : i < fs.length) → w.cell? ⟨b, i, none⟩ = some (.func (.func fs[i].1) #[] fs[i].2.1))
  (hf : ∀ i, (h : i < fs.length) → (∀ j, (h' : j < i) → (fs[j]'(by omega)).2.2 = false) → Ans fs[i].1 fs[i].2.1 w fs[i].2.2) :
  Calls Tryz.prog 118 #[.slice (some ⟨b, 0, none⟩) fs.length cap] w fun e w' => e = .returned (.bool (fs.any fun x => x.2.2)) ∧ Ext w w' := by
 go_enter Tryz.func118, Tryz.ntmps118
 go_wp2
 go_loopw [7] (fun i wr => ∃ k : Nat, k ≤ fs.length ∧ i = .int .i64 k ∧ (fs.any fun x => x.2.2) = ((fs.drop k).any fun x => x.2.2) ∧ (∀ j, (h' : j < k) → ∀ h : j < fs.length, fs[j].2.2 = false) ∧ Ext w wr) (fun i _ => fs.length - (intOf i).toNat)
 case atStart => exact ⟨0, Nat.zero_le _, rfl, rfl, fun j hj => absurd hj (Nat.not_lt_zero _), Ext.refl _⟩
 case round =>
  obtain ⟨k, hk, rfl, ho, hno, hext⟩ := hrel
  have HO := (show Hid _ from ho)
  have HNO := (show Hid _ from hno)
  clear ho hno
  by_cases hlt : k < fs.length
  ·have hc := hext.cell (hx k hlt)
   have hcw : Hid (Ans fs[k].1 fs[k].2.1 w fs[k].2.2) := hf k hlt (fun j hj => HNO.out j hj (by omega))
   have HS := drop_any fs k hlt
   have HS' := (show Hid _ from HS)
   have HB : Hid (fs[k].2.2 = fs[k].2.2) := rfl
   clear HS hx hf
   generalize hbb : fs[k] = x at hc hcw HS'
   have HX := (show Hid _ from hbb)
   clear hbb
   obtain ⟨f, caps, bb⟩ := x
   dsimp only at hc hcw HS'
   go_wp2_with fail
   have hrun := hcw.out.1
   simp only [hrun, Oper.upon_enter]
   refine (hcw.out.2 wr hext).mono ?_
   rintro e w1 ⟨rfl, hw1⟩
   cases bb
   ·go_wp2
    go_roundw
    case rel =>
     refine ⟨k + 1, by omega, by go_num, by rw [HO.out, HS'.out]; rfl, ?_, hext.trans hw1⟩
     intro j hj h
     by_cases e : j = k
     ·subst e; rw [HX.out]
     ·exact HNO.out j (by omega) h
    case measure => simp [intOf]; omega
   ·go_wp2
    go_ret
    refine ⟨?_, hext.trans hw1⟩
    rw [HO.out, HS'.out]; rfl
  ·go_wp2
   go_ret
   refine ⟨?_, hext⟩
   rw [HO.out, List.drop_of_length_le (by omega)]; rfl
theorem any_n (n : Nat) (b cap : Nat) (fs : List (FuncId × Array Value × Bool)) (w : World) (hn : fs.length = n) (hl : n < 2^40)
  (hx : ∀ i, (h : i < fs.length) → w.cell? ⟨b, i, none⟩ = some (.func (.func fs[i].1) #[] fs[i].2.1))
  (hf : ∀ i, (h : i < fs.length) → (∀ j, (h' : j < i) → (fs[j]'(by omega)).2.2 = false) → Ans fs[i].1 fs[i].2.1 w fs[i].2.2) :
  Calls Tryz.prog 118 #[.slice (some ⟨b, 0, none⟩) n cap] w fun e w' => e = .returned (.bool (fs.any fun x => x.2.2)) ∧ Ext w w' := by
 subst hn; exact any_any b cap fs w hl hx hf
theorem any2 {w : World} {b cap : Nat} (f0 f1 : FuncId) (k0 k1 : Array Value) (b0 b1 : Bool)
  (h0 : w.cell? ⟨b, 0, none⟩ = some (.func (.func f0) #[] k0)) (h1 : w.cell? ⟨b, 1, none⟩ = some (.func (.func f1) #[] k1))
  (a0 : Ans f0 k0 w b0) (a1 : b0 = false → Ans f1 k1 w b1) :
  Calls Tryz.prog 118 #[.slice (some ⟨b, 0, none⟩) 2 cap] w fun e w' => e = .returned (.bool (b0 || b1)) ∧ Ext w w' := by
 have := any_n 2 b cap [(f0, k0, b0), (f1, k1, b1)] w rfl (by decide) (by
  intro i h
  match i, h with
  | 0, _ => exact h0
  | 1, _ => exact h1) (by
  intro i h hb
  match i, h with
  | 0, _ => exact a0
  | 1, _ => exact a1 (hb 0 (by decide)))
 simpa using this
theorem any3 {w : World} {b cap : Nat} (f0 f1 f2 : FuncId) (k0 k1 k2 : Array Value) (b0 b1 b2 : Bool)
  (h0 : w.cell? ⟨b, 0, none⟩ = some (.func (.func f0) #[] k0)) (h1 : w.cell? ⟨b, 1, none⟩ = some (.func (.func f1) #[] k1)) (h2 : w.cell? ⟨b, 2, none⟩ = some (.func (.func f2) #[] k2))
  (a0 : Ans f0 k0 w b0) (a1 : b0 = false → Ans f1 k1 w b1) (a2 : b0 = false → b1 = false → Ans f2 k2 w b2) :
  Calls Tryz.prog 118 #[.slice (some ⟨b, 0, none⟩) 3 cap] w fun e w' => e = .returned (.bool (b0 || (b1 || b2))) ∧ Ext w w' := by
 have := any_n 3 b cap [(f0, k0, b0), (f1, k1, b1), (f2, k2, b2)] w rfl (by decide) (by
  intro i h
  match i, h with
  | 0, _ => exact h0
  | 1, _ => exact h1
  | 2, _ => exact h2) (by
  intro i h hb
  match i, h with
  | 0, _ => exact a0
  | 1, _ => exact a1 (hb 0 (by decide))
  | 2, _ => exact a2 (hb 0 (by decide)) (hb 1 (by decide)))
 simpa using this
theorem any4 {w : World} {b cap : Nat} (f0 f1 f2 f3 : FuncId) (k0 k1 k2 k3 : Array Value) (b0 b1 b2 b3 : Bool)
  (h0 : w.cell? ⟨b, 0, none⟩ = some (.func (.func f0) #[] k0)) (h1 : w.cell? ⟨b, 1, none⟩ = some (.func (.func f1) #[] k1)) (h2 : w.cell? ⟨b, 2, none⟩ = some (.func (.func f2) #[] k2)) (h3 : w.cell? ⟨b, 3, none⟩ = some (.func (.func f3) #[] k3))
  (a0 : Ans f0 k0 w b0) (a1 : b0 = false → Ans f1 k1 w b1) (a2 : b0 = false → b1 = false → Ans f2 k2 w b2) (a3 : b0 = false → b1 = false → b2 = false → Ans f3 k3 w b3) :
  Calls Tryz.prog 118 #[.slice (some ⟨b, 0, none⟩) 4 cap] w fun e w' => e = .returned (.bool (b0 || (b1 || (b2 || b3)))) ∧ Ext w w' := by
 have := any_n 4 b cap [(f0, k0, b0), (f1, k1, b1), (f2, k2, b2), (f3, k3, b3)] w rfl (by decide) (by
  intro i h
  match i, h with
  | 0, _ => exact h0
  | 1, _ => exact h1
  | 2, _ => exact h2
  | 3, _ => exact h3) (by
  intro i h hb
  match i, h with
  | 0, _ => exact a0
  | 1, _ => exact a1 (hb 0 (by decide))
  | 2, _ => exact a2 (hb 0 (by decide)) (hb 1 (by decide))
  | 3, _ => exact a3 (hb 0 (by decide)) (hb 1 (by decide)) (hb 2 (by decide)))
 simpa using this
end Go.Proofs.YtibfgbmhmdggmaaGreatDoor.B
