/- Numbers in a slice; the contracts of slices.Index, slices.Contains, and of the reference's SameInts. The contracts of the model's Wins and Cells. The contracts of the reference's WinsOf and CellsOf. == of arrays of arrays of numbers; modelBegun answers true. -/
import Derived.Test.YtlpodahldpaniaaBookB
import Derived.Test.YtlpodahldpaniaaChainA
import Derived.Deep.AppendLies
import Derived.Test.YtlpodahldpaniaaLogLA
namespace Go.Proofs.Ytlpodahldpaniaa.B
set_option maxRecDepth 100000
open Go.ChangeShapes Go.WideShapes Go.ChangeAt Go.RowKit

def ivs (ns : List Int) : List Value := ns.map fun n => Value.int .i64 n
theorem ivs_snoc (ns : List Int) (k : Int) : ivs (ns ++ [k]) = ivs ns ++ [.int .i64 k] := by simp [ivs]
/-- A slice's address and the numbers that it leads to, in a block from base on. -/
def Ints (base : Nat) (w : World) (a : Option Addr) (ns : List Int) : Prop :=
  ns = [] ∨ ∃ b, base ≤ b ∧ a = some ⟨b, 0, none⟩ ∧ ∀ i, (h : i < ns.length) → w.cell? ⟨b, i, none⟩ = some (.int .i64 ns[i])
theorem Ints.ext {base : Nat} {w w' : World} {a : Option Addr} {ns : List Int} (h : Ints base w a ns) (e : Ext w w') : Ints base w' a ns := by
  rcases h with h | ⟨b, hb, ha, hc⟩
  · exact Or.inl h
  · exact Or.inr ⟨b, hb, ha, fun i hi => e.cell (hc i hi)⟩
theorem Ints.set {base : Nat} {w : World} {a : Option Addr} {ns : List Int} (h : Ints base w a ns) {p : Addr} (hp : p.block < base) (v : Value) : Ints base (w.setCell p v) a ns := by
  rcases h with h | ⟨b, hb, ha, hc⟩
  · exact Or.inl h
  · refine Or.inr ⟨b, hb, ha, fun i hi => ?_⟩
    have : (w.setCell p v).heap[b]? = w.heap[b]? := Below.heap_setCell _ _ _ _ (by omega)
    have h2 := hc i hi
    simp only [World.cell?, this] at h2 ⊢
    exact h2
theorem Ints.drew {base : Nat} {w : World} {a : Option Addr} {ns : List Int} (h : Ints base w a ns) : Ints base w.drew a ns := h
theorem Ints.at {base : Nat} {w : World} {a : Option Addr} {ns : List Int} (h : Ints base w a ns) {k : Nat} (hk : k < ns.length) : ∃ b, a = some ⟨b, 0, none⟩ ∧ w.cell? ⟨b, k, none⟩ = some (.int .i64 ns[k]) := by
  rcases h with h | ⟨b, _, ha, hc⟩
  · rw [h] at hk; exact absurd hk (Nat.not_lt_zero k)
  · exact ⟨b, ha, hc k hk⟩
theorem Ints.pre {base : Nat} {w : World} {a : Option Addr} {ns ms : List Int} (h : Ints base w a (ns ++ ms)) : Ints base w a ns := by
  rcases h with h | ⟨b, hb, ha, hc⟩
  · exact Or.inl (List.append_eq_nil_iff.1 h).1
  · refine Or.inr ⟨b, hb, ha, fun i hi => ?_⟩
    rw [hc i (by simp; omega), List.getElem_append_left hi]
theorem Ints.low {base base' : Nat} {w : World} {a : Option Addr} {ns : List Int} (h : Ints base w a ns) (hb : base' ≤ base) : Ints base' w a ns := by
  rcases h with h | ⟨b, h1, ha, hc⟩
  · exact Or.inl h
  · exact Or.inr ⟨b, by omega, ha, hc⟩
theorem Ints.of_own {w : World} {base : Nat} {v : Value} {ns : List Int} (h : w.ownsRow base 3 1 v ns.length (ivs ns)) : ∃ a cap, v = .slice a ns.length cap ∧ ns.length ≤ cap ∧ Ints base w a ns := by
  rcases h.2 with ⟨rfl, h0⟩ | ⟨g, cap, cur, rfl, hg, hb, hc, hm, hs, ht⟩
  · exact ⟨none, 0, by rw [h0], by omega, Or.inl (List.length_eq_zero_iff.1 h0)⟩
  · refine ⟨_, _, rfl, by omega, Or.inr ⟨g, hg, rfl, fun i hi => ?_⟩⟩
    exact own_cell hb ht (by simp [ivs, hi])
set_option maxHeartbeats 400000 in
theorem index_any (base : Nat) (a : Option Addr) (cap : Nat) (ns : List Int) (v : Int) (w : World) (h : Ints base w a ns) (hl : ns.length ≤ 1000) :
    Calls Try.prog 75 #[.slice a ns.length cap, .int .i64 v] w fun e w' => (∃ i : Int, e = .returned (.int .i64 i) ∧ (decide (0 ≤ i) = ns.contains v)) ∧ w' = w := by
  go_enter Try.func75, Try.ntmps75
  go_wp2_with fail
  go_loopw [8] (fun i wr => ∃ k : Nat, k ≤ ns.length ∧ i = .int .i64 k ∧ wr = w ∧ v ∉ ns.take k) (fun i _ => ns.length - (intOf i).toNat)
  case atStart => exact ⟨0, Nat.zero_le _, rfl, rfl, by simp⟩
  case round =>
    obtain ⟨k, hk, rfl, rfl, hn⟩ := hrel
    have HN := (show Hid (v ∉ ns.take k) from hn)
    clear hn
    by_cases hlt : k < ns.length
    · obtain ⟨b, rfl, hc⟩ := h.at hlt
      have HT : Hid (ns.take (k + 1) = ns.take k ++ [ns[k]]) := List.take_succ_eq_append_getElem hlt
      have HM : Hid (ns[k] ∈ ns) := List.getElem_mem hlt
      generalize ns[k] = x at *
      by_cases hx : v = x
      · subst hx
        go_wp2_with fail
        go_ret
        exact ⟨⟨k, rfl, by simp [HM.out]⟩, rfl⟩
      · have hb : (v == x) = false := by simpa using hx
        have HX := (show Hid (v ≠ x) from hx)
        clear hx
        go_wp2_with fail
        go_roundw
        case rel => exact ⟨k + 1, by omega, by go_num, by trivial, by rw [HT.out]; simp [HN.out, HX.out]⟩
        case measure => simp [intOf]; omega
    · have HF : Hid (v ∉ ns) := by have := HN.out; rw [List.take_of_length_le (by omega)] at this; exact this
      go_wp2_with fail
      go_ret
      exact ⟨⟨-1, rfl, by simp [HF.out]⟩, rfl⟩
set_option maxHeartbeats 400000 in
theorem contains_any (base : Nat) (a : Option Addr) (cap : Nat) (ns : List Int) (v : Int) (w : World) (h : Ints base w a ns) (hl : ns.length ≤ 1000) :
    Calls Try.prog 52 #[.slice a ns.length cap, .int .i64 v] w fun e w' => e = .returned (.bool (ns.contains v)) ∧ w' = w := by
  go_enter Try.func52, Try.ntmps52
  go_wp2_with fail
  refine (index_any base a cap ns v w h hl).mono ?_
  rintro e w1 ⟨⟨i, rfl, hi⟩, rfl⟩
  have HI := (show Hid (decide (0 ≤ i) = ns.contains v) from hi)
  clear hi
  by_cases h0 : 0 ≤ i
  · go_wp2_with fail
    go_ret
    exact ⟨by rw [← HI.out]; simp [h0], rfl⟩
  · go_wp2_with fail
    go_ret
    exact ⟨by rw [← HI.out]; simp, rfl⟩
set_option maxHeartbeats 400000 in
theorem sameInts_eq (base base' : Nat) (a b : Option Addr) (cap cap' : Nat) (ns : List Int) (w : World) (h : Ints base w a ns) (h' : Ints base' w b ns) (hl : ns.length ≤ 1000) :
    Calls Try.prog 15 #[.slice a ns.length cap, .slice b ns.length cap'] w fun e w' => e = .returned (.bool true) ∧ Ext w w' := by
  go_enter Try.func15, Try.ntmps15
  go_wp2_with fail
  go_loopw [5] (fun i wr => ∃ k : Nat, k ≤ ns.length ∧ i = .int .i64 k ∧ Ext w wr) (fun i _ => ns.length - (intOf i).toNat)
  case atStart => exact ⟨0, Nat.zero_le _, rfl, Ext.refl w⟩
  case round =>
    obtain ⟨k, hk, rfl, hE⟩ := hrel
    by_cases hlt : k < ns.length
    · obtain ⟨b1, rfl, hc1⟩ := (h.ext hE).at hlt
      obtain ⟨b2, rfl, hc2⟩ := (h'.ext hE).at hlt
      generalize ns[k] = x at *
      go_wp2_with fail
      go_quiet (fail)
      go_wp2_with fail
      go_roundw
      case rel => exact ⟨k + 1, by omega, by go_num, hE.drewN _⟩
      case measure => simp [intOf]; omega
    · go_wp2_with fail
      go_ret
      exact ⟨rfl, hE⟩
end Go.Proofs.Ytlpodahldpaniaa.B
namespace Go.Proofs.Ytlpodahldpaniaa.B
set_option maxRecDepth 100000
open Go.ChangeShapes Go.WideShapes Go.ChangeAt Go.RowKit

/-- The document's answer of Wins. -/
def winsOr (l : List Rc) : List Int := if logErr l = 0 then winsR l else []
/-- The document's answer of Cells. -/
def cellsOr (l : List Rc) : List Int := if logErr l = 0 then cellsR l else List.replicate 9 0
theorem winsOr_ok {l : List Rc} (h : logErr l = 0) : winsOr l = winsR l := by unfold winsOr; rw [if_pos h]
theorem winsOr_no {l : List Rc} (h : logErr l ≠ 0) : winsOr l = [] := by unfold winsOr; rw [if_neg h]
theorem cellsOr_ok {l : List Rc} (h : logErr l = 0) : cellsOr l = cellsR l := by unfold cellsOr; rw [if_pos h]
theorem cellsOr_no {l : List Rc} (h : logErr l ≠ 0) : cellsOr l = List.replicate 9 0 := by unfold cellsOr; rw [if_neg h]
theorem cellsOr_len (l : List Rc) : (cellsOr l).length = 9 := by unfold cellsOr; split; exact cellsR_len l; rfl
theorem len9 {ps : List Int} (h : ps.length = 9) : ∃ x0 x1 x2 x3 x4 x5 x6 x7 x8, ps = [x0, x1, x2, x3, x4, x5, x6, x7, x8] := by
  match ps, h with
  | [x0, x1, x2, x3, x4, x5, x6, x7, x8], _ => exact ⟨x0, x1, x2, x3, x4, x5, x6, x7, x8, rfl⟩
theorem wins_won {l : List Rc} (t : Int) : (winsR l).contains t = wonB l t := wins_count t l
end Go.Proofs.Ytlpodahldpaniaa.B
namespace Go.Proofs.Ytlpodahldpaniaa.B
set_option maxRecDepth 100000
open Go.ChangeShapes Go.WideShapes Go.ChangeAt Go.RowKit

end Go.Proofs.Ytlpodahldpaniaa.B
namespace Go.Proofs.Ytlpodahldpaniaa.B
set_option maxRecDepth 100000
open Go.ChangeShapes Go.WideShapes Go.ChangeAt Go.RowKit

theorem some_wins : winsOr someL = [2] := by decide +kernel
theorem some_cells : cellsOr someL = [0, 0, 0, 0, 6, 0, 0, 0, 0] := by decide +kernel
def zeroL : List Rc := [⟨0, 0, 0, 0, 0, 0, 0, 0⟩]
theorem zero_err : logErr zeroL = 4 := by decide +kernel
theorem zero_cells : cellsOr zeroL = [0, 0, 0, 0, 0, 0, 0, 0, 0] := by decide +kernel
/-- One record of noughts. -/
theorem make1 (V : World) : (Instr.makeSlice 26 (.int .i64 1) (.int .i64 1)).run Try.prog V = .ok (.slice (some ⟨V.heap.size, 0, none⟩) 1 1) (V.alloc (.cells (flat zeroL).toArray 56)) := by
  obtain ⟨i0, hi, hz0, hz1, hz2⟩ := info_parts infoRec
  have h := run_makeSlice (P := Try.prog) V 26 56 i0 _ underRecs hi hz0 .i64 .i64 1 1 (by decide) (by decide) (by rw [hz1]; decide) (by rw [hz2]; decide) (by decide)
  rw [hz1] at h
  have e : madeCells (Value.agg #[.int .i64 0, .int .i64 0, .int .i64 0, .int .i64 0, .int .i64 0, .int .i64 0, .int .i64 0, .int .i64 0]).cells (Int.toNat 1 * 8) = (flat zeroL).toArray := by kernel_rfl
  rw [e] at h
  exact h
theorem ints_one {W : World} {b : Nat} {v : Int} {t : TypeId} (J : Blk W b #[.int .i64 v] t) : Ints 0 W (some ⟨b, 0, none⟩) [v] := by
  refine Or.inr ⟨_, Nat.zero_le _, rfl, fun i hi => ?_⟩
  have : i = 0 := by simp at hi; omega
  subst this
  rw [J.cell]; rfl
end Go.Proofs.Ytlpodahldpaniaa.B
