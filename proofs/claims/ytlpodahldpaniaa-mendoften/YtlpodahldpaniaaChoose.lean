/- The contract of the laws' choose. -/
import Derived.Test.YtlpodahldpaniaaBase
namespace Go.Proofs.Ytlpodahldpaniaa.B
set_option maxRecDepth 100000
open Go.ChangeShapes Go.WideShapes Go.ChangeAt Go.RowKit

/-- Which of n things a raw number speaks of. -/
def chooseN (c : Int) (n : Nat) : Nat := (Int.tmod (if c < 0 then -(c + 1) else c) n).toNat
theorem chooseN_lt (c : Int) {n : Nat} (h : 0 < n) : chooseN c n < n := by
  unfold chooseN
  have h1 : 0 ≤ (if c < 0 then -(c + 1) else c) := by split <;> omega
  have h2 := Int.tmod_nonneg (n : Int) h1
  have h3 := Int.tmod_lt_of_pos (if c < 0 then -(c + 1) else c) (b := (n : Int)) (by omega)
  omega
theorem chooseN_int (c : Int) {n : Nat} : ((chooseN c n : Nat) : Int) = Int.tmod (if c < 0 then -(c + 1) else c) n := by
  unfold chooseN
  have h1 : 0 ≤ (if c < 0 then -(c + 1) else c) := by split <;> omega
  have h2 := Int.tmod_nonneg (n : Int) h1
  omega
set_option maxHeartbeats 400000 in
theorem choose_any (c : Int) (n : Nat) (w : World) (hc : IntKind.i64.has c) (hn : 0 < n) (hm : n ≤ 1000) :
    Calls Try.prog 26 #[.int .i64 c, .int .i64 n] w fun e w' => e = .returned (.int .i64 (chooseN c n : Nat)) ∧ w' = w := by
  obtain ⟨c1, c2⟩ := hc
  have d1 : -9223372036854775808 ≤ c := c1
  have d2 : c ≤ 9223372036854775807 := c2
  clear c1 c2
  have HC : Hid (((chooseN c n : Nat) : Int) = Int.tmod (if c < 0 then -(c + 1) else c) n) := chooseN_int c
  generalize ((chooseN c n : Nat) : Int) = x at *
  have hz : ((n : Int) == 0) = false := by simp; omega
  go_enter Try.func26, Try.ntmps26
  by_cases h : c < 0
  · have HC2 : Hid (x = Int.tmod (-(c + 1)) n) := by have := HC.out; rw [if_pos h] at this; exact this
    go_wp2_with fail
    go_ret
    exact ⟨by rw [HC2.out, Int.neg_tmod]; rfl, rfl⟩
  · have HC2 : Hid (x = Int.tmod c n) := by have := HC.out; rw [if_neg h] at this; exact this
    go_wp2_with fail
    go_ret
    exact ⟨by rw [HC2.out, Int.tmod_eq_emod_of_nonneg h]; rfl, rfl⟩
end Go.Proofs.Ytlpodahldpaniaa.B
