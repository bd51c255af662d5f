/- The contract of the reference's StateOf. -/
import Derived.Test.YtmccggfegllfnaaLogLA
namespace Go.Proofs.Ytmccggfegllfnaa.B
set_option maxRecDepth 100000
open Go.ChangeShapes Go.WideShapes Go.ChangeAt Go.RowKit

set_option maxHeartbeats 1000000 in
set_option maxRecDepth 100000 in
theorem stateOf_any (a : Option Addr) (len cap : Nat) (l : List Rc) (t : Int) (w : World) (h : Recs w a len l) (hcap : len ≤ cap) (hm : len ≤ maxLen) :
    Calls Try.prog 44 #[.slice a len cap, .int .i64 t] w fun e w' => e = .returned (.tuple #[.int .i64 (stateAns l t).1, .int .i64 (stateAns l t).2.1, .int .i64 (stateAns l t).2.2]) ∧ Ext w w' := by
  have HS : Hid (stateAns l t = if logErr l = 0 then (if out 1 9 [t] then (0, 0, 3) else (stateR l t, ((lastR l t : Nat) : Int), 0)) else (0, 0, logErr l)) := rfl
  have HL : Hid (logErr l = 0 → len ≤ 1000) := fun hz => by have := (logErr_zero hz).1; have := h.len; omega
  have H1 := logError_any a len cap l w h hcap hm
  generalize stateAns l t = sa at *
  generalize logErr l = x at *
  go_enter Try.func44, Try.ntmps44
  go_wp2_with fail
  refine H1.mono ?_
  rintro e w1 ⟨rfl, hE⟩
  clear H1
  by_cases h0 : x = 0
  · subst h0
    have hl := HL.out rfl
    go_wp2_with fail
    refine (within_any t 1 9 _).mono ?_
    rintro e w2 ⟨rfl, rfl⟩
    cases hw : wi t 1 9
    · have HO : Hid (out 1 9 [t] = true) := by rw [Hid, out_one, hw]; rfl
      go_wp2_with fail
      refine bodyPost_ret (v := .tuple #[.int .i64 0, .int .i64 0, .int .i64 3]) (by simp [results, Try.results44, go_sem]) rfl ⟨by rw [HS.out, if_pos trivial, HO.out]; rfl, ?_⟩
      exact hE
    · have HO : Hid (out 1 9 [t] = false) := by rw [Hid, out_one, hw]; rfl
      go_wp2_with fail
      refine (state_any a len cap l t _ (h.ext hE) hl).mono ?_
      rintro e w2 ⟨rfl, rfl⟩
      go_wp2_with fail
      refine (last_any a len cap l t _ (h.ext hE) hl).mono ?_
      rintro e w2 ⟨rfl, rfl⟩
      go_wp2_with fail
      refine bodyPost_ret (v := .tuple #[.int .i64 (stateR l t), .int .i64 (lastR l t : Nat), .int .i64 0]) (by simp [results, Try.results44, go_sem]) rfl ⟨by rw [HS.out, if_pos trivial, HO.out]; rfl, ?_⟩
      exact hE
  · have hb : (x != 0) = true := by simpa using h0
    go_wp2_with fail
    refine bodyPost_ret (v := .tuple #[.int .i64 0, .int .i64 0, .int .i64 x]) (by simp [results, Try.results44, go_sem]) rfl ⟨by rw [HS.out, if_neg h0], ?_⟩
    exact hE
end Go.Proofs.Ytmccggfegllfnaa.B
