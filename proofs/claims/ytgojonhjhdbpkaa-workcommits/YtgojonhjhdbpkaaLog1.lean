/- Logs as slices of records in memory, and the contracts of the reference's last and count. -/
import Derived.Test.YtgojonhjhdbpkaaLogSpec
namespace Go.Proofs.Ytgojonhjhdbpkaa.B
set_option maxRecDepth 100000
open Go.ChangeShapes Go.WideShapes Go.ChangeAt Go.RowKit

/-- Eight cells that are a record. -/
def RecAt (w : World) (b o : Nat) (r : Rc) : Prop :=
  w.cell? ⟨b, o, none⟩ = some (.int .i64 r.kind) ∧ w.cell? ⟨b, o + 1, none⟩ = some (.int .i64 r.txn) ∧ w.cell? ⟨b, o + 2, none⟩ = some (.int .i64 r.prev) ∧ w.cell? ⟨b, o + 3, none⟩ = some (.int .i64 r.page) ∧
  w.cell? ⟨b, o + 4, none⟩ = some (.int .i64 r.cell) ∧ w.cell? ⟨b, o + 5, none⟩ = some (.int .i64 r.old) ∧ w.cell? ⟨b, o + 6, none⟩ = some (.int .i64 r.new) ∧ w.cell? ⟨b, o + 7, none⟩ = some (.int .i64 r.next)
theorem RecAt.ext {w w' : World} {b o : Nat} {r : Rc} (h : RecAt w b o r) (e : Ext w w') : RecAt w' b o r := by
  obtain ⟨h0, h1, h2, h3, h4, h5, h6, h7⟩ := h
  exact ⟨e.cell h0, e.cell h1, e.cell h2, e.cell h3, e.cell h4, e.cell h5, e.cell h6, e.cell h7⟩
/-- A slice's address and length, and the records that it leads to. -/
def Recs (w : World) (a : Option Addr) (len : Nat) (l : List Rc) : Prop :=
  l.length = len ∧ ((a = none ∧ len = 0) ∨ ∃ b off, a = some ⟨b, off, none⟩ ∧ ∀ i, (h : i < l.length) → RecAt w b (off + i * 8) l[i])
theorem Recs.ext {w w' : World} {a : Option Addr} {len : Nat} {l : List Rc} (h : Recs w a len l) (e : Ext w w') : Recs w' a len l := by
  obtain ⟨hl, h⟩ := h
  refine ⟨hl, ?_⟩
  rcases h with h | ⟨b, off, ha, hc⟩
  · exact Or.inl h
  · exact Or.inr ⟨b, off, ha, fun i hi => (hc i hi).ext e⟩


theorem Recs.at {w : World} {a : Option Addr} {len : Nat} {l : List Rc} (h : Recs w a len l) {k : Nat} (hk : k < len) : ∃ b off, a = some ⟨b, off, none⟩ ∧ ∃ hl : k < l.length, RecAt w b (off + k * 8) l[k] := by
  obtain ⟨hl, h⟩ := h
  rcases h with ⟨_, h⟩ | ⟨b, off, ha, hc⟩
  · omega
  · exact ⟨b, off, ha, by omega, hc k (by omega)⟩
theorem Recs.len {w : World} {a : Option Addr} {len : Nat} {l : List Rc} (h : Recs w a len l) : l.length = len := h.1

set_option maxHeartbeats 400000 in
theorem last_any (a : Option Addr) (len cap : Nat) (l : List Rc) (t : Int) (w : World) (h : Recs w a len l) (hl : len ≤ 1000) :
    Calls Try.prog 52 #[.slice a len cap, .int .i64 t] w fun e w' => e = .returned (.int .i64 (lastR l t : Nat)) ∧ w' = w := by
  go_enter Try.func52, Try.ntmps52
  go_wp2_with fail
  go_loop [5, 6] (fun n i => ∃ k : Nat, k ≤ len ∧ i = .int .i64 k ∧ n = .int .i64 (lastR (l.take k) t : Nat)) (fun _ i => len - (intOf i).toNat)
  case atStart => exact ⟨0, Nat.zero_le _, rfl, rfl⟩
  case round =>
    obtain ⟨k, hk, rfl, rfl⟩ := hrel
    by_cases hlt : k < len
    · obtain ⟨b, off, rfl, hkl, h0, h1, h2, h3, h4, h5, h6, h7⟩ := h.at hlt
      have HS := (show Hid _ from lastR_take l t k hkl)
      generalize l[k] = r at *
      generalize lastR (l.take k) t = m at *
      cases hb : (r.txn == t)
      · have HB := (show Hid _ from hb)
        go_wp2_with fail
        go_round
        case rel => exact ⟨k + 1, by omega, by go_num, by rw [HS.out, HB.out]; rfl⟩
        case measure => simp [intOf]; omega
      · have HB := (show Hid _ from hb)
        go_wp2_with fail
        go_round
        case rel => exact ⟨k + 1, by omega, by go_num, by rw [HS.out, HB.out]; go_num⟩
        case measure => simp [intOf]; omega
    · have HF : Hid (l.take k = l) := List.take_of_length_le (by rw [h.len]; omega)
      go_wp2_with fail
      go_ret
      refine ⟨?_, rfl⟩
      rw [HF.out]
      rfl

set_option maxHeartbeats 400000 in
theorem count_any (a : Option Addr) (len cap : Nat) (l : List Rc) (t c : Int) (w : World) (h : Recs w a len l) (hl : len ≤ 1000) :
    Calls Try.prog 54 #[.slice a len cap, .int .i64 t, .int .i64 c] w fun e w' => e = .returned (.int .i64 (countR l t c : Nat)) ∧ w' = w := by
  go_enter Try.func54, Try.ntmps54
  go_wp2_with fail
  go_loop [7, 8] (fun n i => ∃ k : Nat, k ≤ len ∧ i = .int .i64 k ∧ n = .int .i64 (countR (l.take k) t c : Nat)) (fun _ i => len - (intOf i).toNat)
  case atStart => exact ⟨0, Nat.zero_le _, rfl, rfl⟩
  case round =>
    obtain ⟨k, hk, rfl, rfl⟩ := hrel
    by_cases hlt : k < len
    · obtain ⟨b, off, rfl, hkl, h0, h1, h2, h3, h4, h5, h6, h7⟩ := h.at hlt
      have HS := (show Hid _ from countR_take l t c k hkl)
      have hm : countR (l.take k) t c ≤ 1000 := Nat.le_trans (countR_le t c (l.take k)) (by rw [List.length_take]; omega)
      generalize l[k] = r at *
      generalize countR (l.take k) t c = m at *
      cases hb : (r.txn == t)
      · have HB := (show Hid _ from hb)
        go_wp2_with fail
        go_round
        case rel => exact ⟨k + 1, by omega, by go_num, by rw [HS.out, HB.out]; rfl⟩
        case measure => simp [intOf]; omega
      · have HB := (show Hid _ from hb)
        cases hc : (r.kind == c)
        · have HC := (show Hid _ from hc)
          go_wp2_with fail
          go_round
          case rel => exact ⟨k + 1, by omega, by go_num, by rw [HS.out, HB.out, HC.out]; rfl⟩
          case measure => simp [intOf]; omega
        · have HC := (show Hid _ from hc)
          go_wp2_with fail
          go_round
          case rel => exact ⟨k + 1, by omega, by go_num, by rw [HS.out, HB.out, HC.out]; go_num⟩
          case measure => simp [intOf]; omega
    · have HF : Hid (l.take k = l) := List.take_of_length_le (by rw [h.len]; omega)
      go_wp2_with fail
      go_ret
      refine ⟨?_, rfl⟩
      rw [HF.out]
      rfl
end Go.Proofs.Ytgojonhjhdbpkaa.B
