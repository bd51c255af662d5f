/- What the walks of this seat lean on: a world that only grew, closures that answer a bool, and the plain readings of pages and records. -/
import Derived.Test.YtlpodahldpaniaaGreatRows
import Derived.WalkKit
import Derived.ProofKit
import Derived.OpenShut
import Derived.WalkLawsBesides
import Derived.Deep.LoopGhost
import Derived.BigQuiet
import Derived.Deep.QuietTactic
import Derived.Deep.RegionWith
namespace Go.Proofs.YtlpodahldpaniaaGreat.B
set_option maxRecDepth 100000
open Go.ChangeShapes Go.WideShapes Go.ChangeAt Go.RowKit

/-- Nothing that was there has turned; new blocks may lie behind. -/
def Ext (w w' : World) : Prop := Below w.heap.size w w'
theorem Ext.refl (w : World) : Ext w w := Below.refl _ _
theorem Ext.trans {a b c : World} (h : Ext a b) (k : Ext b c) : Ext a c := Below.trans h (Below.mono k h.size)
theorem Ext.drew {a b : World} (h : Ext a b) : Ext a b.drew := Below.drew h
theorem Ext.drewN {a b : World} (h : Ext a b) (n : Nat) : Ext a (b.drewN n) := ⟨h.os, h.tape, h.output, h.size, h.block⟩
theorem Ext.alloc {a b : World} (h : Ext a b) (o : Obj) : Ext a (b.alloc o) := Below.alloc h h.size o
theorem Ext.setCell {a b : World} (h : Ext a b) {p : Addr} (hp : a.heap.size ≤ p.block) (v : Value) : Ext a (b.setCell p v) := Below.setCell h hp v
theorem cell_lt {w : World} {p : Addr} {v : Value} (h : w.cell? p = some v) : p.block < w.heap.size := by
  by_cases hb : p.block < w.heap.size
  · exact hb
  · have : w.heap[p.block]? = none := by simp; omega
    simp [World.cell?, this] at h
theorem Ext.cell {w w' : World} (h : Ext w w') {p : Addr} {v : Value} (hc : w.cell? p = some v) : w'.cell? p = some v := by
  rw [Below.cell h (cell_lt hc)]; exact hc

theorem Ext.cellLt {W w1 : World} (hb : Ext W w1) : ∀ b o, b < W.heap.size → w1.cell? ⟨b, o, none⟩ = W.cell? ⟨b, o, none⟩ := fun b o h => Below.cell (p := ⟨b, o, none⟩) hb h
theorem Ext.rules {W w1 : World} (hb : Ext W w1) : (∀ b o, b < W.heap.size → w1.cell? ⟨b, o, none⟩ = W.cell? ⟨b, o, none⟩) ∧ (∀ b o, b < W.heap.size → w1.frozen? ⟨b, o, none⟩ = W.frozen? ⟨b, o, none⟩) :=
  ⟨fun b o h => Below.cell (p := ⟨b, o, none⟩) hb h, fun b o h => Below.frozen (p := ⟨b, o, none⟩) hb h⟩
/-- Block k is a row of cells, none of them frozen. -/
def Blk (w : World) (k : Nat) (c : Array Value) (t : TypeId) : Prop := w.heap[k]? = some (.cells c t)
theorem Blk.cell {w : World} {k : Nat} {c : Array Value} {t : TypeId} (h : Blk w k c t) : ∀ o, w.cell? ⟨k, o, none⟩ = c[o]? := by
  intro o; unfold Blk at h; simp [World.cell?, h]
theorem Blk.fr {w : World} {k : Nat} {c : Array Value} {t : TypeId} (h : Blk w k c t) : ∀ o, w.frozen? ⟨k, o, none⟩ = false := by
  intro o; unfold Blk at h; simp [World.frozen?, h]
theorem Blk.lt {w : World} {k : Nat} {c : Array Value} {t : TypeId} (h : Blk w k c t) : k < w.heap.size := by
  by_cases hb : k < w.heap.size
  · exact hb
  · have : w.heap[k]? = none := by simp; omega
    simp [Blk, this] at h
theorem Blk.ext {w w' : World} {k : Nat} {c : Array Value} {t : TypeId} (h : Blk w k c t) (e : Ext w w') : Blk w' k c t := by
  have := e.block k h.lt; unfold Blk at *; rw [this]; exact h
theorem Blk.alloc {w : World} {k : Nat} {c : Array Value} {t : TypeId} (h : Blk w k c t) (o : Obj) : Blk (w.alloc o) k c t := h.ext ((Ext.refl w).alloc o)
theorem Blk.drewN {w : World} {k : Nat} {c : Array Value} {t : TypeId} (h : Blk w k c t) (n : Nat) : Blk (w.drewN n) k c t := h
theorem Blk.drew {w : World} {k : Nat} {c : Array Value} {t : TypeId} (h : Blk w k c t) : Blk w.drew k c t := h
theorem Blk.new (w : World) (k : Nat) (c : Array Value) (t : TypeId) (h : k = w.heap.size) : Blk (w.alloc (.cells c t)) k c t := by
  subst h; unfold Blk World.alloc; simp
theorem Blk.set {w : World} {k : Nat} {c : Array Value} {t : TypeId} (h : Blk w k c t) (o : Nat) (v : Value) : Blk (w.setCell ⟨k, o, none⟩ v) k (c.setIfInBounds o v) t := by
  unfold Blk at *; simp [World.setCell, Array.getElem?_modify, h]
theorem Blk.other {w : World} {k : Nat} {c : Array Value} {t : TypeId} (h : Blk w k c t) (p : Addr) (v : Value) (hk : k ≠ p.block) : Blk (w.setCell p v) k c t := by
  unfold Blk at *; rw [Below.heap_setCell _ _ _ _ hk]; exact h
theorem callFunc_enter {P : Program} {f : FuncId} {fn : Func} (args : Array Value) (w : World) (hf : P.funcs[f]? = some fn) (hn : (fn.name == "runtime.NumGoroutine") = false) (hb : fn.body.isNone = false) :
    (callFunc f args).run P w = .ok (.enter f args) w := by
  have hn' : ¬ fn.name = "runtime.NumGoroutine" := by simpa using hn
  have hb' : ¬ fn.body = none := by intro h; rw [h] at hb; simp at hb
  simp [callFunc, hf, hn', hb', go_sem]
/-- Whatever else is laid, this closure answers b. -/
def Ans (f : FuncId) (caps : Array Value) (w : World) (b : Bool) : Prop :=
  (∀ w, (callFunc f caps).run Tryz.prog w = .ok (.enter f caps) w) ∧ ∀ w', Ext w w' → Calls Tryz.prog f caps w' fun e w'' => e = .returned (.bool b) ∧ Ext w' w''

structure Pg where
  c0 : Int
  c1 : Int
  c2 : Int
  last : Int
abbrev iv (n : Int) : Value := .int .i64 n
abbrev Pg.val (p : Pg) : Value := .agg #[.int .i64 p.c0, .int .i64 p.c1, .int .i64 p.c2, .int .i64 p.last]
structure Rc where
  kind : Int
  txn : Int
  prev : Int
  page : Int
  cell : Int
  old : Int
  new : Int
  next : Int
abbrev Rc.val (r : Rc) : Value := .agg #[.int .i64 r.kind, .int .i64 r.txn, .int .i64 r.prev, .int .i64 r.page, .int .i64 r.cell, .int .i64 r.old, .int .i64 r.new, .int .i64 r.next]

def wi (n lo hi : Int) : Bool := decide (lo ≤ n) && decide (n ≤ hi)
def out (lo hi : Int) (xs : List Int) : Bool := xs.any fun n => decide (n < lo) || decide (hi < n)
theorem out_drop (lo hi : Int) (xs : List Int) (k : Nat) (h : k < xs.length) : out lo hi (xs.drop k) = (decide (xs[k] < lo) || decide (hi < xs[k]) || out lo hi (xs.drop (k+1))) := by
  have e := List.drop_eq_getElem_cons h
  unfold out
  rw [e, List.any_cons]
theorem drop_any (fs : List (FuncId × Array Value × Bool)) (k : Nat) (h : k < fs.length) : ((fs.drop k).any fun x => x.2.2) = (fs[k].2.2 || ((fs.drop (k+1)).any fun x => x.2.2)) := by
  have e := List.drop_eq_getElem_cons h
  rw [e, List.any_cons]
end Go.Proofs.YtlpodahldpaniaaGreat.B
