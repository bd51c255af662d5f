/- The contract of the reference's stands: the numbers of the Writes of a Txn that were not taken back. -/
import Derived.Test.YtgojonhjhdbpkaaLog2
namespace Go.Proofs.Ytgojonhjhdbpkaa.B
set_option maxRecDepth 100000
open Go.ChangeShapes Go.WideShapes Go.ChangeAt Go.RowKit

theorem infoInt : (Try.prog.info? 3).map (fun i => (i.zero, i.size, i.bytes)) = some (some (.int .i64 0), 1, 8) := by kernel_rfl
theorem cells_new (w : World) (c : List Value) (t : TypeId) (k : Nat) (hk : k = w.heap.size) : ∀ (j : Nat) (u : Value), c[j]? = some u → (w.alloc (.cells c.toArray t)).cell? ((⟨k, 0, none⟩ : Addr).add j) = some u := by
  intro j u h
  subst hk
  have e : ((⟨w.heap.size, 0, none⟩ : Addr).add j) = ⟨w.heap.size, j, none⟩ := by
    unfold Addr.add; split
    · rename_i h0; rw [h0]
    · simp
  rw [e, World.cell?_alloc_new]
  simpa using h
/-- Numbers as values. -/
def nums (ns : List Nat) : List Value := ns.map fun (n : Nat) => Value.int .i64 (n : Int)
theorem own_ge {w : World} {base : Nat} {e : TypeId} {size : Nat} {v : Value} {n : Nat} {xs : List Value} (h : w.ownsRow base e size v n xs) : ∀ k, v.ownBlock = some k → base ≤ k := by
  intro k hk
  rcases h.2 with ⟨rfl, _⟩ | ⟨g, cap, cur, rfl, hg, _⟩
  · simp [Value.ownBlock] at hk
  · simp [Value.ownBlock] at hk; omega
/-- Behind an append to a row of the call's own nothing that was there has turned. -/
theorem Ext.grown {a w w' : World} {e : TypeId} {size : Nat} {v : Value} {n : Nat} {xs : List Value} (h : Ext a w) (ho : w.ownsRow a.heap.size e size v n xs) (hg : w.grownBy w' v.ownBlock) : Ext a w' :=
  Below.grown h hg h.size (own_ge ho)
theorem nums_snoc (ns : List Nat) (k : Nat) : nums (ns ++ [k]) = nums ns ++ [.int .i64 (k : Int)] := by simp [nums]
theorem nums_len (ns : List Nat) : (nums ns).length = ns.length := by simp [nums]
/-- A slice's address and the numbers that it leads to. -/
def Nums (w : World) (a : Option Addr) (ns : List Nat) : Prop :=
  ns = [] ∨ ∃ b, a = some ⟨b, 0, none⟩ ∧ ∀ i, (h : i < ns.length) → w.cell? ⟨b, i, none⟩ = some (.int .i64 (ns[i] : Int))
theorem Nums.ext {w w' : World} {a : Option Addr} {ns : List Nat} (h : Nums w a ns) (e : Ext w w') : Nums w' a ns := by
  rcases h with h | ⟨b, ha, hc⟩
  · exact Or.inl h
  · exact Or.inr ⟨b, ha, fun i hi => e.cell (hc i hi)⟩
theorem Nums.of_own {w : World} {g : Nat} {cur : Array Value} {ns : List Nat} (hg : w.heap[g]? = some (.cells cur 3 (0, 0))) (hc : cur.toList.take ns.length = nums ns) (k : Nat) : Nums w (some ⟨g, 0, none⟩) (ns.take k) := by
  refine Or.inr ⟨g, rfl, fun i hi => ?_⟩
  have hi' : i < ns.length := by rw [List.length_take] at hi; omega
  have e : cur[i]? = some (.int .i64 (ns[i] : Int)) := by
    have e1 : (cur.toList.take ns.length)[i]? = some (.int .i64 (ns[i] : Int)) := by rw [hc]; simp [nums, hi']
    rw [List.getElem?_take_of_lt hi'] at e1
    simpa using e1
  simp [World.cell?, hg, e]

set_option maxHeartbeats 1000000 in
set_option maxRecDepth 100000 in
theorem stands_any (a : Option Addr) (len cap : Nat) (l : List Rc) (t : Int) (w : World) (h : Recs w a len l) (hl : len ≤ 1000) (hle : countR l t 3 ≤ (writesR l t).length) :
    Calls Try.prog 73 #[.slice a len cap, .int .i64 t] w fun e w' => (∃ a' cap', e = .returned (.slice a' (standsR l t).length cap') ∧ Nums w' a' (standsR l t)) ∧ Ext w w' := by
  obtain ⟨i0, hi, hz0, hz1, hz2⟩ := info_parts infoInt
  have HI := (show Hid _ from hi)
  have Z0 := (show Hid _ from hz0)
  have Z1 := (show Hid _ from hz1)
  have Z2 := (show Hid _ from hz2)
  clear hi hz0 hz1 hz2
  go_enter Try.func73, Try.ntmps73
  go_wp2_with fail
  go_loopw [5, 6] (fun o i wr => ∃ k : Nat, k ≤ len ∧ i = .int .i64 k ∧ Ext w wr ∧ wr.ownsRow w.heap.size 3 1 o (writesR (l.take k) t).length (nums (writesR (l.take k) t))) (fun _ i _ => len - (intOf i).toNat)
  case atStart => exact ⟨0, Nat.zero_le _, rfl, Ext.refl _, rfl, Or.inl ⟨rfl, rfl⟩⟩
  case round =>
    obtain ⟨k, hk, rfl, hE, hown⟩ := hrel
    by_cases hlt : k < len
    · obtain ⟨b, off, rfl, hkl, h0, h1, h2, h3, h4, h5, h6, h7⟩ := (h.ext hE).at hlt
      have HS := (show Hid _ from writesR_take l t k hkl)
      have hm : (writesR (l.take k) t).length ≤ 1000 := Nat.le_trans (writesR_le t (l.take k)) (by rw [List.length_take]; omega)
      generalize l[k] = r at *
      generalize writesR (l.take k) t = ns at *
      cases hb : (r.txn == t)
      · have HB := (show Hid _ from hb)
        go_wp2_with fail
        go_roundw
        case rel => exact ⟨k + 1, by omega, by go_num, hE, by rw [HS.out, HB.out]; exact hown⟩
        case measure => simp [intOf]; omega
      · have HB := (show Hid _ from hb)
        cases hc : (r.kind == 1)
        · have HC := (show Hid _ from hc)
          go_wp2_with fail
          go_roundw
          case rel => exact ⟨k + 1, by omega, by go_num, hE, by rw [HS.out, HB.out, HC.out]; exact hown⟩
          case measure => simp [intOf]; omega
        · have HC := (show Hid _ from hc)
          go_wp2_with (at_builtin; refine wpList_append_own _ rfl _ _ 46 rfl w.heap.size 3 i0 (.int .i64 0) 1 8 Try.underlying46 HI.out Z0.out Z1.out Z2.out rfl (by decide) u5 ns.length (nums ns) rfl (hown.alloc _) ⟨wr.heap.size, 0, none⟩ 1 1 [.int .i64 ((k : Int) + 1)] rfl rfl (cells_new _ [.int .i64 ((k : Int) + 1)] _ _ rfl) (fun x hx => by simp at hx; subst hx; rfl) (by unfold maxLen; omega) (by omega) (by have := hE.size; simp; omega) ?_; intro v' w3 hown' hgrow3 hnil3)
          have hE3 : Ext w w3 := (hE.alloc _).grown (hown.alloc _) hgrow3
          refine ⟨⟨k + 1, by omega, by go_num, hE3, ?_⟩, by simp [intOf]; omega⟩
          rw [HS.out, HB.out, HC.out]
          simp only [Bool.and_self, if_true, List.length_append, List.length_singleton, nums_snoc]
          exact hown'
    · have HF : Hid (l.take k = l) := List.take_of_length_le (by rw [h.len]; omega)
      rw [HF.out] at hown
      have hm : (writesR l t).length ≤ 1000 := Nat.le_trans (writesR_le t l) (by rw [h.len]; omega)
      have HSt : Hid (standsR l t = (writesR l t).take ((writesR l t).length - countR l t 3)) := rfl
      have HW : Hid (writesR l t = writesR l t) := rfl
      generalize hns : writesR l t = ns at *
      generalize hcs : countR l t 3 = c at *
      have HC := (show Hid _ from hcs)
      clear hns hcs HW
      rcases hown with ⟨hlen, ⟨rfl, hn⟩ | ⟨g, cap', cur, rfl, hg, hblk, hn, hcap, hsz, htk⟩⟩
      · have hns : ns = [] := List.length_eq_zero_iff.1 hn
        subst hns
        have hc0 : c = 0 := by simpa using hle
        subst hc0
        go_wp2_with fail
        refine (count_any a len cap l t 3 _ (h.ext hE) hl).mono ?_
        rintro e w' ⟨rfl, rfl⟩
        rw [HC.out]
        go_wp2_with fail
        go_ret
        refine ⟨⟨none, 0, ?_, ?_⟩, hE⟩
        · rw [HSt.out]; rfl
        · rw [HSt.out]; exact Or.inl rfl
      · go_wp2_with fail
        refine (count_any a len cap l t 3 _ (h.ext hE) hl).mono ?_
        rintro e w' ⟨rfl, rfl⟩
        rw [HC.out]
        have hsub : (0 : Int) ≤ (ns.length : Int) - (c : Int) := by omega
        have hsub2 : (ns.length : Int) - (c : Int) ≤ (cap' : Int) := by omega
        go_wp2_with fail
        go_ret
        have hlt2 : (ns.take (ns.length - c)).length = ns.length - c := by rw [List.length_take]; omega
        refine ⟨⟨some ⟨g, 0, none⟩, cap', ?_, ?_⟩, hE⟩
        · rw [HSt.out, hlt2]; rfl
        · rw [HSt.out]; exact Nums.of_own hblk (by simpa using htk) _

/-- Of a number that stands there is a record. -/
theorem standsR_mem {l : List Rc} {t : Int} {n : Nat} (h : n ∈ standsR l t) : 1 ≤ n ∧ n ≤ l.length := writesR_mem t l n (List.mem_of_mem_take h)
theorem standsR_le (l : List Rc) (t : Int) : (standsR l t).length ≤ l.length := Nat.le_trans (by unfold standsR; rw [List.length_take]; omega) (writesR_le t l)

/-- In every Txn no more was taken back than written. -/
def Backs (l : List Rc) : Prop := ∀ t, countR l t 3 ≤ (writesR l t).length
def hitAt (l : List Rc) (p c : Int) (n : Nat) : Bool := match l[n - 1]? with | some r => r.page == p && r.cell == c | none => false
end Go.Proofs.Ytgojonhjhdbpkaa.B
