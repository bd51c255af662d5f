/- The contracts of package ask and of the reference's within: what they answer, whatever they are handed. -/
import Derived.Test.YtlpodahldpaniaaGreatBase
namespace Go.Proofs.YtlpodahldpaniaaGreat.B
set_option maxRecDepth 100000
open Go.ChangeShapes Go.WideShapes Go.ChangeAt Go.RowKit

set_option maxHeartbeats 400000 in
theorem within_any (n lo hi : Int) (w : World) :
    Calls Tryz.prog 28 #[.int .i64 n, .int .i64 lo, .int .i64 hi] w fun e w' => e = .returned (.bool (wi n lo hi)) ∧ w' = w := by
  by_cases h1 : lo ≤ n
  · by_cases h2 : n ≤ hi
    · have : wi n lo hi = true := by simp [wi, h1, h2]
      rw [this]; clear this
      go_enter Tryz.func28, Tryz.ntmps28
      go_wp2
      go_ret
      exact ⟨rfl, rfl⟩
    · have : wi n lo hi = false := by simp [wi, h2]
      rw [this]; clear this
      go_enter Tryz.func28, Tryz.ntmps28
      go_wp2
      go_ret
      exact ⟨rfl, rfl⟩
  · have : wi n lo hi = false := by simp [wi, h1]
    rw [this]; clear this
    go_enter Tryz.func28, Tryz.ntmps28
    go_wp2
    go_ret
    exact ⟨rfl, rfl⟩

set_option maxHeartbeats 400000 in
theorem outside_any (lo hi : Int) (b off cap : Nat) (xs : List Int) (w : World) (hl : xs.length < 2^40)
    (hx : ∀ i, (h : i < xs.length) → w.cell? ⟨b, off + i, none⟩ = some (.int .i64 xs[i])) :
    Calls Tryz.prog 52 #[.int .i64 lo, .int .i64 hi, .slice (some ⟨b, off, none⟩) xs.length cap] w fun e w' => e = .returned (.bool (out lo hi xs)) ∧ w' = w := by
  go_enter Tryz.func52, Tryz.ntmps52
  go_wp2
  go_loop [11] (fun i => ∃ k : Nat, k ≤ xs.length ∧ i = .int .i64 k ∧ out lo hi xs = out lo hi (xs.drop k)) (fun i => xs.length - (intOf i).toNat)
  case atStart => exact ⟨0, Nat.zero_le _, rfl, rfl⟩
  case round =>
    obtain ⟨k, hk, rfl, ho⟩ := hrel
    have HO : Hid (out lo hi xs = out lo hi (xs.drop k)) := ho
    clear ho
    by_cases hlt : k < xs.length
    · have hc := hx k hlt
      have HS : Hid (out lo hi (xs.drop k) = (decide (xs[k] < lo) || decide (hi < xs[k]) || out lo hi (xs.drop (k+1)))) := by
        exact out_drop lo hi xs k hlt
      clear hx
      generalize hxk : xs[k] = x at *
      clear hxk
      by_cases h1 : x < lo
      · go_wp2
        go_ret
        refine ⟨?_, rfl⟩
        rw [HO.out, HS.out]; simp [h1]
      · by_cases h2 : hi < x
        · go_wp2
          go_ret
          refine ⟨?_, rfl⟩
          rw [HO.out, HS.out]; simp [h2]
        · go_wp2
          go_round
          case rel => exact ⟨k + 1, by omega, by go_num, by rw [HO.out, HS.out]; simp [h1, h2]⟩
          case measure => simp [intOf]; omega
    · go_wp2
      go_ret
      refine ⟨?_, rfl⟩
      rw [HO.out, List.drop_of_length_le (by omega)]; simp [out]

theorem outside_n (n : Nat) (lo hi : Int) (b off cap : Nat) (xs : List Int) (w : World) (hn : xs.length = n) (hl : n < 2^40)
    (hx : ∀ i, (h : i < xs.length) → w.cell? ⟨b, off + i, none⟩ = some (.int .i64 xs[i])) :
    Calls Tryz.prog 52 #[.int .i64 lo, .int .i64 hi, .slice (some ⟨b, off, none⟩) n cap] w fun e w' => e = .returned (.bool (out lo hi xs)) ∧ w' = w := by
  subst hn; exact outside_any lo hi b off cap xs w hl hx
theorem cells1 {w : World} {b off : Nat} {x0 : Int} (h0 : w.cell? ⟨b, off, none⟩ = some (.int .i64 x0)) : ∀ i, (h : i < [x0].length) → w.cell? ⟨b, off + i, none⟩ = some (.int .i64 [x0][i]) := by
  intro i h
  match i, h with
  | 0, _ => exact h0
theorem cells2 {w : World} {b off : Nat} {x0 x1 : Int} (h0 : w.cell? ⟨b, off, none⟩ = some (.int .i64 x0)) (h1 : w.cell? ⟨b, off + 1, none⟩ = some (.int .i64 x1)) : ∀ i, (h : i < [x0, x1].length) → w.cell? ⟨b, off + i, none⟩ = some (.int .i64 [x0, x1][i]) := by
  intro i h
  match i, h with
  | 0, _ => exact h0
  | 1, _ => exact h1
theorem cells3 {w : World} {b off : Nat} {x0 x1 x2 : Int} (h0 : w.cell? ⟨b, off, none⟩ = some (.int .i64 x0)) (h1 : w.cell? ⟨b, off + 1, none⟩ = some (.int .i64 x1)) (h2 : w.cell? ⟨b, off + 2, none⟩ = some (.int .i64 x2)) : ∀ i, (h : i < [x0, x1, x2].length) → w.cell? ⟨b, off + i, none⟩ = some (.int .i64 [x0, x1, x2][i]) := by
  intro i h
  match i, h with
  | 0, _ => exact h0
  | 1, _ => exact h1
  | 2, _ => exact h2
theorem cells4 {w : World} {b off : Nat} {x0 x1 x2 x3 : Int} (h0 : w.cell? ⟨b, off, none⟩ = some (.int .i64 x0)) (h1 : w.cell? ⟨b, off + 1, none⟩ = some (.int .i64 x1)) (h2 : w.cell? ⟨b, off + 2, none⟩ = some (.int .i64 x2)) (h3 : w.cell? ⟨b, off + 3, none⟩ = some (.int .i64 x3)) : ∀ i, (h : i < [x0, x1, x2, x3].length) → w.cell? ⟨b, off + i, none⟩ = some (.int .i64 [x0, x1, x2, x3][i]) := by
  intro i h
  match i, h with
  | 0, _ => exact h0
  | 1, _ => exact h1
  | 2, _ => exact h2
  | 3, _ => exact h3
set_option maxHeartbeats 400000 in
theorem any_any (b cap : Nat) (fs : List (FuncId × Array Value × Bool)) (w : World) (hl : fs.length < 2^40)
    (hx : ∀ i, (h : i < fs.length) → w.cell? ⟨b, i, none⟩ = some (.func (.func fs[i].1) #[] fs[i].2.1))
    (hf : ∀ i, (h : i < fs.length) → (∀ j, (h' : j < i) → (fs[j]'(by omega)).2.2 = false) → Ans fs[i].1 fs[i].2.1 w fs[i].2.2) :
    Calls Tryz.prog 72 #[.slice (some ⟨b, 0, none⟩) fs.length cap] w fun e w' => e = .returned (.bool (fs.any fun x => x.2.2)) ∧ Ext w w' := by
  go_enter Tryz.func72, Tryz.ntmps72
  go_wp2
  go_loopw [7] (fun i wr => ∃ k : Nat, k ≤ fs.length ∧ i = .int .i64 k ∧ (fs.any fun x => x.2.2) = ((fs.drop k).any fun x => x.2.2) ∧ (∀ j, (h' : j < k) → ∀ h : j < fs.length, fs[j].2.2 = false) ∧ Ext w wr) (fun i _ => fs.length - (intOf i).toNat)
  case atStart => exact ⟨0, Nat.zero_le _, rfl, rfl, fun j hj => absurd hj (Nat.not_lt_zero _), Ext.refl _⟩
  case round =>
    obtain ⟨k, hk, rfl, ho, hno, hext⟩ := hrel
    have HO := (show Hid _ from ho)
    have HNO := (show Hid _ from hno)
    clear ho hno
    by_cases hlt : k < fs.length
    · have hc := hext.cell (hx k hlt)
      have hcw : Hid (Ans fs[k].1 fs[k].2.1 w fs[k].2.2) := hf k hlt (fun j hj => HNO.out j hj (by omega))
      have HS := drop_any fs k hlt
      have HS' := (show Hid _ from HS)
      have HB : Hid (fs[k].2.2 = fs[k].2.2) := rfl
      clear HS hx hf
      generalize hbb : fs[k] = x at hc hcw HS'
      have HX := (show Hid _ from hbb)
      clear hbb
      obtain ⟨f, caps, bb⟩ := x
      dsimp only at hc hcw HS'
      go_wp2_with fail
      have hrun := hcw.out.1
      simp only [hrun, Oper.upon_enter]
      refine (hcw.out.2 wr hext).mono ?_
      rintro e w1 ⟨rfl, hw1⟩
      cases bb
      · go_wp2
        go_roundw
        case rel =>
          refine ⟨k + 1, by omega, by go_num, by rw [HO.out, HS'.out]; rfl, ?_, hext.trans hw1⟩
          intro j hj h
          by_cases e : j = k
          · subst e; rw [HX.out]
          · exact HNO.out j (by omega) h
        case measure => simp [intOf]; omega
      · go_wp2
        go_ret
        refine ⟨?_, hext.trans hw1⟩
        rw [HO.out, HS'.out]; rfl
    · go_wp2
      go_ret
      refine ⟨?_, hext⟩
      rw [HO.out, List.drop_of_length_le (by omega)]; rfl
theorem any_n (n : Nat) (b cap : Nat) (fs : List (FuncId × Array Value × Bool)) (w : World) (hn : fs.length = n) (hl : n < 2^40)
    (hx : ∀ i, (h : i < fs.length) → w.cell? ⟨b, i, none⟩ = some (.func (.func fs[i].1) #[] fs[i].2.1))
    (hf : ∀ i, (h : i < fs.length) → (∀ j, (h' : j < i) → (fs[j]'(by omega)).2.2 = false) → Ans fs[i].1 fs[i].2.1 w fs[i].2.2) :
    Calls Tryz.prog 72 #[.slice (some ⟨b, 0, none⟩) n cap] w fun e w' => e = .returned (.bool (fs.any fun x => x.2.2)) ∧ Ext w w' := by
  subst hn; exact any_any b cap fs w hl hx hf
/-- Two, three, four questions: a later one leans on the earlier ones' no. -/
theorem any2 {w : World} {b cap : Nat} (f0 f1 : FuncId) (k0 k1 : Array Value) (b0 b1 : Bool)
    (h0 : w.cell? ⟨b, 0, none⟩ = some (.func (.func f0) #[] k0)) (h1 : w.cell? ⟨b, 1, none⟩ = some (.func (.func f1) #[] k1))
    (a0 : Ans f0 k0 w b0) (a1 : b0 = false → Ans f1 k1 w b1) :
    Calls Tryz.prog 72 #[.slice (some ⟨b, 0, none⟩) 2 cap] w fun e w' => e = .returned (.bool (b0 || b1)) ∧ Ext w w' := by
  have := any_n 2 b cap [(f0, k0, b0), (f1, k1, b1)] w rfl (by decide) (by
    intro i h
    match i, h with
    | 0, _ => exact h0
    | 1, _ => exact h1) (by
    intro i h hb
    match i, h with
    | 0, _ => exact a0
    | 1, _ => exact a1 (hb 0 (by decide)))
  simpa using this
theorem any3 {w : World} {b cap : Nat} (f0 f1 f2 : FuncId) (k0 k1 k2 : Array Value) (b0 b1 b2 : Bool)
    (h0 : w.cell? ⟨b, 0, none⟩ = some (.func (.func f0) #[] k0)) (h1 : w.cell? ⟨b, 1, none⟩ = some (.func (.func f1) #[] k1)) (h2 : w.cell? ⟨b, 2, none⟩ = some (.func (.func f2) #[] k2))
    (a0 : Ans f0 k0 w b0) (a1 : b0 = false → Ans f1 k1 w b1) (a2 : b0 = false → b1 = false → Ans f2 k2 w b2) :
    Calls Tryz.prog 72 #[.slice (some ⟨b, 0, none⟩) 3 cap] w fun e w' => e = .returned (.bool (b0 || (b1 || b2))) ∧ Ext w w' := by
  have := any_n 3 b cap [(f0, k0, b0), (f1, k1, b1), (f2, k2, b2)] w rfl (by decide) (by
    intro i h
    match i, h with
    | 0, _ => exact h0
    | 1, _ => exact h1
    | 2, _ => exact h2) (by
    intro i h hb
    match i, h with
    | 0, _ => exact a0
    | 1, _ => exact a1 (hb 0 (by decide))
    | 2, _ => exact a2 (hb 0 (by decide)) (hb 1 (by decide)))
  simpa using this
theorem any4 {w : World} {b cap : Nat} (f0 f1 f2 f3 : FuncId) (k0 k1 k2 k3 : Array Value) (b0 b1 b2 b3 : Bool)
    (h0 : w.cell? ⟨b, 0, none⟩ = some (.func (.func f0) #[] k0)) (h1 : w.cell? ⟨b, 1, none⟩ = some (.func (.func f1) #[] k1)) (h2 : w.cell? ⟨b, 2, none⟩ = some (.func (.func f2) #[] k2)) (h3 : w.cell? ⟨b, 3, none⟩ = some (.func (.func f3) #[] k3))
    (a0 : Ans f0 k0 w b0) (a1 : b0 = false → Ans f1 k1 w b1) (a2 : b0 = false → b1 = false → Ans f2 k2 w b2) (a3 : b0 = false → b1 = false → b2 = false → Ans f3 k3 w b3) :
    Calls Tryz.prog 72 #[.slice (some ⟨b, 0, none⟩) 4 cap] w fun e w' => e = .returned (.bool (b0 || (b1 || (b2 || b3)))) ∧ Ext w w' := by
  have := any_n 4 b cap [(f0, k0, b0), (f1, k1, b1), (f2, k2, b2), (f3, k3, b3)] w rfl (by decide) (by
    intro i h
    match i, h with
    | 0, _ => exact h0
    | 1, _ => exact h1
    | 2, _ => exact h2
    | 3, _ => exact h3) (by
    intro i h hb
    match i, h with
    | 0, _ => exact a0
    | 1, _ => exact a1 (hb 0 (by decide))
    | 2, _ => exact a2 (hb 0 (by decide)) (hb 1 (by decide))
    | 3, _ => exact a3 (hb 0 (by decide)) (hb 1 (by decide)) (hb 2 (by decide)))
  simpa using this
end Go.Proofs.YtlpodahldpaniaaGreat.B
